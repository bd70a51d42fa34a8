/- LightExact: both Follows. -/
import Derived.Test.YtblnlfcfjbfhiaaGreatLLawD

namespace Go.Proofs.YtblnlfcfjbfhiaaGreat
open Go.RowKit
set_option linter.unusedVariables false
set_option linter.unusedSimpArgs false

set_option maxRecDepth 20000 in
set_option maxHeartbeats 12800000 in
theorem ltC (wd : Int) (hwd : InN wd) (v : Vw) (sa : Option Addr) (sc : Nat) (ls : List Sg) (w wv : World) (H : LtAt w w.heap.size v sa ls wv) (c0 c1 c3 c4 c5 c6 c9 c10 c11 c12 c13 c14 c15 c16 c17 c18 c19 c20 c21 c22 c23 c24 c25 c26 c27 c28 c29 c30 c31 c32 c33 c34 c35 c36 c37 c38 c39 c40 c41 c42 c43 c44 c45 c46 c47 c48 c49 c50 c51 c52 c53 c54 c55 c56 c57 c58 c59 c60 c61 c62 c63 c64 c65 c66 c67 c68 c69 c70 c71 c72 c73 c74 c75 c76 c77 c78 c79 c80 c81 c82 c83 c84 c85 c86 c87 c88 c89 c90 c91 c92 c93 c94 c95 c96 c97 c98 c99 c100 c101 c102 c103 c104 c105 c106 c107 c108 c109 c110 c111 c112 c113 c114 c115 c116 c117 c118 c119 c120 c121 c122 c123 c124 c125 c126 c127 c128 c129 c130 c131 c132 c133 c134 c135 c136 c137 c138 c139 c140 c141 c142 c143 c144 c145 c146 c147 c148 c149 c150 c151 c152 c153 c154 c155 c156 c157 c158 c159 c160 c161 c162 c163 c164 c165 c166 c167 c168 c169 c170 c171 c172 c173 c174 c175 c176 c177 c178 c179 c180 c181 c182 c183 c184 c185 c186 c187 : Value) :
    Code.wp Tryz.prog (dropSeq 8 (Tryz.f3.body.getD .skip)) (bodyPost Tryz.prog Tryz.f3 (fun e w' => e = .returned (.bool true) ∧ Below w.heap.size w w')) ⟨#[c0, c1, .pointer (some ⟨w.heap.size, 0, none⟩), c3, c4, c5, c6, .int .i64 wd, .slice sa ls.length sc, c9, c10, c11, c12, c13, c14, c15, c16, c17, c18, c19, c20, c21, c22, c23, c24, c25, c26, c27, c28, c29, c30, c31, c32, c33, c34, c35, c36, c37, c38, c39, c40, c41, c42, c43, c44, c45, c46, c47, c48, c49, c50, c51, c52, c53, c54, c55, c56, c57, c58, c59, c60, c61, c62, c63, c64, c65, c66, c67, c68, c69, c70, c71, c72, c73, c74, c75, c76, c77, c78, c79, c80, c81, c82, c83, c84, c85, c86, c87, c88, c89, c90, c91, c92, c93, c94, c95, c96, c97, c98, c99, c100, c101, c102, c103, c104, c105, c106, c107, c108, c109, c110, c111, c112, c113, c114, c115, c116, c117, c118, c119, c120, c121, c122, c123, c124, c125, c126, c127, c128, c129, c130, c131, c132, c133, c134, c135, c136, c137, c138, c139, c140, c141, c142, c143, c144, c145, c146, c147, c148, c149, c150, c151, c152, c153, c154, c155, c156, c157, c158, c159, c160, c161, c162, c163, c164, c165, c166, c167, c168, c169, c170, c171, c172, c173, c174, c175, c176, c177, c178, c179, c180, c181, c182, c183, c184, c185, c186, c187], []⟩ wv := by
  conv => arg 2; whnf
  conv => arg 4; dsimp only
  obtain ⟨c, wi, ep, h, st, a, cap, l⟩ := v
  have x0 := (H.kv.cell 0).trans rfl
  have x1 := (H.kv.cell 1).trans rfl
  have x2 := (H.kv.cell 2).trans rfl
  have x3 := (H.kv.cell 3).trans rfl
  have x4 := (H.kv.cell 4).trans rfl
  have x5 := (H.kv.cell 5).trans rfl
  have zv := H.kv.lt
  go_wp2_with fail
  refine (follow_any ⟨c, wi, ep, h, st, a, cap, l⟩ sa sc ls wv H.ok H.sg H.few).mono ?_
  rintro e w1 ⟨⟨c2, wi2, ep2, h2, st2, a2, cap2, l2⟩, ea, ec, rfl, hn1, ok1, ie1, b1⟩
  have G1 := H.next b1
  clear H x0 x1 x2 x3 x4 x5 zv b1
  have bA : Below w1.heap.size w1 (w1.alloc (.cells #[.int .i64 c2, .int .i64 wi2, .int .i64 ep2, .int .i64 h2, .int .u64 st2, .slice a2 l2.length cap2] 26)) := (Below.refl _ _).alloc (Nat.le_refl _) _
  have kA := Blk.new w1 #[.int .i64 c2, .int .i64 wi2, .int .i64 ep2, .int .i64 h2, .int .u64 st2, .slice a2 l2.length cap2] 26
  have G2 := G1.next bA
  have ok2 := ok1.below bA
  have ie2 := ie1.below bA
  clear G1 ok1 ie1 bA
  go_upto_region 19 with fail
  generalize w1.alloc (.cells #[.int .i64 c2, .int .i64 wi2, .int .i64 ep2, .int .i64 h2, .int .u64 st2, .slice a2 l2.length cap2] 26) = w2 at *
  generalize w1.heap.size = ab at *
  have x0 := (G2.kv.cell 0).trans rfl
  have x1 := (G2.kv.cell 1).trans rfl
  have x2 := (G2.kv.cell 2).trans rfl
  have x3 := (G2.kv.cell 3).trans rfl
  have x4 := (G2.kv.cell 4).trans rfl
  have x5 := (G2.kv.cell 5).trans rfl
  have zv := G2.kv.lt
  go_wp2_with fail
  refine (rfollow_any ⟨c, wi, ep, h, st, a, cap, l⟩ sa sc ls w2 G2.ok G2.sg G2.few).mono ?_
  rintro e w3 ⟨vj, fa_, fc, rfl, hn2, ok3, if3, b3⟩
  have hvj := norm_eq (hn1.trans hn2.symm)
  obtain ⟨a3, cap3, hvy⟩ : ∃ a3 cap3, vj = ⟨c2, wi2, ep2, h2, st2, a3, cap3, l2⟩ := ⟨_, _, hvj⟩
  subst hvy
  have G3 := G2.next b3
  have kA3 := kA.below b3 kA.lt
  have ok2 := ok2.below b3
  have ie3 := ie2.below b3
  clear G2 x0 x1 x2 x3 x4 x5 zv b3 hvj hn1 hn2 kA ie2
  have bA : Below w3.heap.size w3 (w3.alloc (.cells #[.int .i64 c2, .int .i64 wi2, .int .i64 ep2, .int .i64 h2, .int .u64 st2, .slice a3 l2.length cap3] 26)) := (Below.refl _ _).alloc (Nat.le_refl _) _
  have kB := Blk.new w3 #[.int .i64 c2, .int .i64 wi2, .int .i64 ep2, .int .i64 h2, .int .u64 st2, .slice a3 l2.length cap3] 26
  have kA4 := kA3.below bA kA3.lt
  have G4 := G3.next bA
  have ok2 := ok2.below bA
  have ok3 := ok3.below bA
  have ie4 := ie3.below bA
  have if4 := if3.below bA
  clear G3 bA kA3 ie3 if3
  go_upto_region 20 with fail
  generalize w3.alloc (.cells #[.int .i64 c2, .int .i64 wi2, .int .i64 ep2, .int .i64 h2, .int .u64 st2, .slice a3 l2.length cap3] 26) = w4 at *
  generalize w3.heap.size = bb at *
  have x0 := (kA4.cell 0).trans rfl
  have x1 := (kA4.cell 1).trans rfl
  have x2 := (kA4.cell 2).trans rfl
  have x3 := (kA4.cell 3).trans rfl
  have x4 := (kA4.cell 4).trans rfl
  have x5 := (kA4.cell 5).trans rfl
  have y0 := (kB.cell 0).trans rfl
  have y1 := (kB.cell 1).trans rfl
  have y2 := (kB.cell 2).trans rfl
  have y3 := (kB.cell 3).trans rfl
  have y4 := (kB.cell 4).trans rfl
  have y5 := (kB.cell 5).trans rfl
  have zx := kA4.lt
  have zy := kB.lt
  have hlen : ((ls.length : Int) != (ls.length : Int)) = false := by simp
  have hf2 := ok2.few
  go_wp2_with fail
  refine (sameView_eq c2 wi2 ep2 h2 st2 a2 a3 cap2 cap3 l2 w4 (by omega) ok2.sl.at_ ok3.sl.at_).mono ?_
  rintro e w5 ⟨rfl, b5⟩
  have G5 := G4.next b5
  have ie5 := ie4.below b5
  have if5 := if4.below b5
  clear G4 ie4 if4 b5 x0 x1 x2 x3 x4 x5 y0 y1 y2 y3 y4 y5 zx zy kA4 kB
  go_upto_if 109 with fail
  go_cut [] (fun wx => w5 = wx)
  case first =>
    go_wp2_with fail
    go_meet
    case rel => rfl
  case rest =>
    subst hcut
    refine ‹∀ a w, Code.wp Tryz.prog _ _ a w → _› _ _ ?_
    exact ltD wd hwd ⟨c, wi, ep, h, st, a, cap, l⟩ sa sc ls w w5 G5 ea ec fa_ fc _ (folE_len ls _) ie5 if5 _ _ _ _ _ _ _ _ _ _ _ _ _ _ _ _ _ _ _ _ _ _ _ _ _ _ _ _ _ _ _ _ _ _ _ _ _ _ _ _ _ _ _ _ _ _ _ _ _ _ _ _ _ _ _ _ _ _ _ _ _ _ _ _ _ _ _ _ _ _ _ _ _ _ _ _ _ _ _ _ _ _ _ _ _ _ _ _ _ _ _ _ _ _ _ _ _ _ _ _ _ _ _ _ _ _ _ _ _ _ _ _ _ _ _ _ _ _ _ _ _ _ _ _ _ _ _ _ _ _ _ _ _ _ _ _ _ _ _ _ _ _ _ _ _ _ _ _ _ _ _ _ _ _ _ _ _ _ _ _ _ _ _ _ _ _ _ _ _ _ _ _ _ _ _ _ _ _ _ _ _ _ _

end Go.Proofs.YtblnlfcfjbfhiaaGreat

namespace Go.Proofs.YtblnlfcfjbfhiaaGreat
open Go.RowKit
set_option linter.unusedVariables false
set_option linter.unusedSimpArgs false

/-- Nothing of it lies in the block vb. -/
structure Aw (vb : Nat) (v : Vw) (sa : Option Addr) (ls : List Sg) : Prop where
  v_ : v.l ≠ [] → ∀ a, v.a = some a → a.block ≠ vb
  sa_ : ∀ a, sa = some a → a.block ≠ vb
  s_ : ∀ s ∈ ls, (s.sl ≠ [] → ∀ a, s.sa = some a → a.block ≠ vb) ∧ (s.fr ≠ [] → ∀ a, s.fa = some a → a.block ≠ vb)
theorem SgsAt.setCell {w : World} {sa : Option Addr} {ls : List Sg} (h : SgsAt w sa ls) {p : Addr} (h1 : ∀ a, sa = some a → a.block ≠ p.block) (h2 : ∀ s ∈ ls, (s.sl ≠ [] → ∀ a, s.sa = some a → a.block ≠ p.block) ∧ (s.fr ≠ [] → ∀ a, s.fa = some a → a.block ≠ p.block)) (x : Value) : SgsAt (w.setCell p x) sa ls := by
  refine ⟨fun s hs => (h.1 s hs).setCell (fun hz a ha e => (h2 s hs).1 hz a ha e.symm) (fun hz a ha e => (h2 s hs).2 hz a ha e.symm) x, ?_⟩
  rcases h.2 with e | ⟨b, off, e, hl, hc⟩
  · exact .inl e
  · have hn : b ≠ p.block := h1 _ e
    refine .inr ⟨b, off, e, by simp [World.setCell]; exact hl, fun i s hs k y hy => ?_⟩
    rw [World.cell?_setCell_other _ _ _ _ (fun q => hn (by rw [q]))]
    exact hc i s hs k y hy
theorem LtAt.set {w0 wv : World} {vb : Nat} {v : Vw} {sa : Option Addr} {ls : List Sg} (h : LtAt w0 vb v sa ls wv) (ha : Aw vb v sa ls) (hvb : w0.heap.size ≤ vb) (k : Nat) (x : Value) (v2 : Vw) (e : v.arr.setIfInBounds k x = v2.arr) (ho : v.Ok wv → v2.Ok wv) (h2 : v2.l ≠ [] → ∀ a, v2.a = some a → a.block ≠ vb) : LtAt w0 vb v2 sa ls (wv.setCell ⟨vb, k, none⟩ x) ∧ Aw vb v2 sa ls := by
  refine ⟨⟨?_, (ho h.ok).setCell (fun hz a ha e => h2 hz a ha e.symm) x, h.sg.setCell (fun a q => ha.sa_ a q) (fun s hs => ha.s_ s hs) x, h.few, h.below.setCell hvb x⟩, ⟨h2, ha.sa_, ha.s_⟩⟩
  rw [← e]
  exact h.kv.set k x
theorem Aw.next {vb : Nat} {v : Vw} {sa : Option Addr} {ls : List Sg} (h : Aw vb v sa ls) : Aw vb v sa ls := h

set_option maxRecDepth 20000 in
set_option maxHeartbeats 12800000 in
theorem ltB (wd : Int) (hwd : InN wd) (v : Vw) (sa : Option Addr) (sc : Nat) (ls : List Sg) (w wv : World) (H : LtAt w w.heap.size v sa ls wv) (HA : Aw w.heap.size v sa ls) (c0 c1 c3 c4 c5 c6 c9 c10 c11 c12 c13 c14 c15 c16 c17 c18 c19 c20 c21 c22 c23 c24 c25 c26 c27 c28 c29 c30 c31 c32 c33 c34 c35 c36 c37 c38 c39 c40 c41 c42 c43 c44 c45 c46 c47 c48 c49 c50 c51 c52 c53 c54 c55 c56 c57 c58 c59 c60 c61 c62 c63 c64 c65 c66 c67 c68 c69 c70 c71 c72 c73 c74 c75 c76 c77 c78 c79 c80 c81 c82 c83 c84 c85 c86 c87 c88 c89 c90 c91 c92 c93 c94 c95 c96 c97 c98 c99 c100 c101 c102 c103 c104 c105 c106 c107 c108 c109 c110 c111 c112 c113 c114 c115 c116 c117 c118 c119 c120 c121 c122 c123 c124 c125 c126 c127 c128 c129 c130 c131 c132 c133 c134 c135 c136 c137 c138 c139 c140 c141 c142 c143 c144 c145 c146 c147 c148 c149 c150 c151 c152 c153 c154 c155 c156 c157 c158 c159 c160 c161 c162 c163 c164 c165 c166 c167 c168 c169 c170 c171 c172 c173 c174 c175 c176 c177 c178 c179 c180 c181 c182 c183 c184 c185 c186 c187 : Value) :
    Code.wp Tryz.prog (dropSeq 7 (Tryz.f3.body.getD .skip)) (bodyPost Tryz.prog Tryz.f3 (fun e w' => e = .returned (.bool true) ∧ Below w.heap.size w w')) ⟨#[c0, c1, .pointer (some ⟨w.heap.size, 0, none⟩), c3, c4, c5, c6, .int .i64 wd, .slice sa ls.length sc, c9, c10, c11, c12, c13, c14, c15, c16, c17, c18, c19, c20, c21, c22, c23, c24, c25, c26, c27, c28, c29, c30, c31, c32, c33, c34, c35, c36, c37, c38, c39, c40, c41, c42, c43, c44, c45, c46, c47, c48, c49, c50, c51, c52, c53, c54, c55, c56, c57, c58, c59, c60, c61, c62, c63, c64, c65, c66, c67, c68, c69, c70, c71, c72, c73, c74, c75, c76, c77, c78, c79, c80, c81, c82, c83, c84, c85, c86, c87, c88, c89, c90, c91, c92, c93, c94, c95, c96, c97, c98, c99, c100, c101, c102, c103, c104, c105, c106, c107, c108, c109, c110, c111, c112, c113, c114, c115, c116, c117, c118, c119, c120, c121, c122, c123, c124, c125, c126, c127, c128, c129, c130, c131, c132, c133, c134, c135, c136, c137, c138, c139, c140, c141, c142, c143, c144, c145, c146, c147, c148, c149, c150, c151, c152, c153, c154, c155, c156, c157, c158, c159, c160, c161, c162, c163, c164, c165, c166, c167, c168, c169, c170, c171, c172, c173, c174, c175, c176, c177, c178, c179, c180, c181, c182, c183, c184, c185, c186, c187], []⟩ wv := by
  conv => arg 2; whnf
  conv => arg 4; dsimp only
  obtain ⟨c, wi, ep, h, st, a, cap, l⟩ := v
  have c3 := (H.kv.cell 3).trans rfl
  have zv := H.kv.lt
  go_wp2_with fail
  refine (pick_fn h 8 wv H.ok.ih (by omega)).mono ?_
  rintro e w1 ⟨rfl, rfl⟩
  generalize pickP h 8 = A at *
  go_upto_if 75 with fail
  go_cut [] (fun wx => ∃ v2 : Vw, LtAt w w.heap.size v2 sa ls wx)
  case first =>
    by_cases hA : 0 < A
    · have hAd : decide (A > 0) = true := by simpa using hA
      have g1 := (H.kv.cell 1).trans rfl
      have f1 := H.kv.frozen 1
      obtain ⟨H1, A1⟩ := H.set HA (Nat.le_refl _) 1 (.int .i64 wd) ⟨c, wd, ep, h, st, a, cap, l⟩ rfl (fun q => ⟨q.ic, hwd, q.iep, q.ih, q.ist, q.sl, q.few, q.in_⟩) HA.v_
      have k2 := (H1.kv.cell 2).trans rfl
      have z1 := H1.kv.lt
      clear c3 H HA
      go_upto_region 16 with fail
      generalize wv.setCell ⟨w.heap.size, 1, none⟩ (.int .i64 wd) = w2 at *
      clear g1 f1 zv
      go_wp2_with fail
      refine (pick_fn ep 9 w2 H1.ok.iep (by omega)).mono ?_
      rintro e w3 ⟨rfl, rfl⟩
      have hB := pickP_bd ep 9 (by omega)
      generalize pickP ep 9 = B at *
      have ww := wrapI (1 + B) (by omega) (by omega)
      have f2 := H1.kv.frozen 2
      obtain ⟨H2, A2⟩ := H1.set A1 (Nat.le_refl _) 2 (.int .i64 (1 + B)) ⟨c, wd, 1 + B, h, st, a, cap, l⟩ rfl (fun q => ⟨q.ic, q.iwi, (show InN (1 + B) by unfold InN; omega), q.ih, q.ist, q.sl, q.few, q.in_⟩) A1.v_
      have k5 := (H2.kv.cell 5).trans rfl
      have z2 := H2.kv.lt
      clear H1 A1
      go_upto_region 17 with fail
      generalize w2.setCell ⟨w.heap.size, 2, none⟩ (.int .i64 (1 + B)) = w4 at *
      clear k2 f2 z1
      have hfl := H2.ok.few
      go_wp2_with fail
      refine (seated_any a cap l w4 (by unfold maxLen; omega) H2.ok.in_ H2.ok.sl.at_).mono ?_
      rintro e w5 ⟨⟨sv, x, rfl, hgd, hox⟩, b5⟩
      obtain ⟨xa, xc, rfl, hsx, hfx⟩ := SL.of_owns hox
      have H5 := H2.next b5
      have hx7 := hgd.few
      have hxi := goodB_in hgd
      have k55 := (H5.kv.cell 5).trans rfl
      have f55 := H5.kv.frozen 5
      have z5 := H5.kv.lt
      obtain ⟨H6, A6⟩ := H5.set A2 (Nat.le_refl _) 5 (.slice xa x.length xc) ⟨c, wd, 1 + B, h, st, xa, xc, x⟩ rfl (fun q => ⟨q.ic, q.iwi, q.iep, q.ih, q.ist, hsx, (show x.length ≤ 4096 by omega), hxi⟩) (fun _ a ha => by have := hfx a ha; omega)
      clear hgd hox hsx hfx hxi H2 A2 H5 b5 k5
      go_wp2_with fail
      go_meet
      case rel => exact ⟨_, H6⟩
    · have hAd : decide (A > 0) = false := by simpa using hA
      go_wp2_with fail
      go_meet
      case rel => exact ⟨_, H⟩
  case rest =>
    clear H HA c3 zv
    obtain ⟨v2, H⟩ := hcut
    generalize wc = wk at *
    refine ‹∀ a w, Code.wp Tryz.prog _ _ a w → _› _ _ ?_
    exact ltC wd hwd v2 sa sc ls w wk H _ _ _ _ _ _ _ _ _ _ _ _ _ _ _ _ _ _ _ _ _ _ _ _ _ _ _ _ _ _ _ _ _ _ _ _ _ _ _ _ _ _ _ _ _ _ _ _ _ _ _ _ _ _ _ _ _ _ _ _ _ _ _ _ _ _ _ _ _ _ _ _ _ _ _ _ _ _ _ _ _ _ _ _ _ _ _ _ _ _ _ _ _ _ _ _ _ _ _ _ _ _ _ _ _ _ _ _ _ _ _ _ _ _ _ _ _ _ _ _ _ _ _ _ _ _ _ _ _ _ _ _ _ _ _ _ _ _ _ _ _ _ _ _ _ _ _ _ _ _ _ _ _ _ _ _ _ _ _ _ _ _ _ _ _ _ _ _ _ _ _ _ _ _ _ _ _ _ _ _ _ _ _ _ _

end Go.Proofs.YtblnlfcfjbfhiaaGreat
