/- LightExact: the sights that are shown. -/
import Derived.Test.YtblnlfcfjbfhiaaGreatM48
namespace Go.Proofs.YtblnlfcfjbfhiaaGreat
open Go.RowKit
set_option linter.unusedVariables false
set_option linter.unusedSimpArgs false

theorem IntsAt.grown {w w' : World} {row : Option Nat} {oa : Option Addr} {od : List Int} (h : IntsAt w oa od) (hg : w.grownBy w' row) (hne : od ≠ [] → ∀ a, oa = some a → row ≠ some a.block) : IntsAt w' oa od := by
  rcases h with e | ⟨b, off, e, hl, hc⟩
  · exact .inl e
  · by_cases hz : od = []
    · exact .inl hz
    have hn := hne hz _ e
    exact .inr ⟨b, off, e, Nat.lt_of_lt_of_le hl hg.size, fun i x hx => hg.cell (hc i x hx) (fun q => hn q.symm)⟩
theorem Sg.Ok.grown {w w' : World} {row : Option Nat} {s : Sg} (h : s.Ok w) (hg : w.grownBy w' row) (h1 : s.sl ≠ [] → ∀ a, s.sa = some a → row ≠ some a.block) (h2 : s.fr ≠ [] → ∀ a, s.fa = some a → row ≠ some a.block) : s.Ok w' := ⟨h.ihc, h.ihh, h.ihpa, h.ihtx, h.ihgu, h.ihst, h.ihre, h.ihbe, h.ihpr, h.ikh, h.ikr, h.iks, h.ikbl, h.fi.grown hg h2, h.fle, h.fcm, h.ffew, h.fin, h.sl_.grown hg h1, h.few, h.in_⟩
theorem SL.low {w : World} {la : Option Addr} {l : List (Int × Int)} {cap : Nat} (h : SL w la l cap) (hz : l ≠ []) (a : Addr) (ha : la = some a) : a.block < w.heap.size := by
  rcases h.at_ with e | ⟨b, off, e, hl, _⟩
  · exact absurd e hz
  · rw [ha] at e
    injection e with e
    rw [e]
    exact hl
theorem IntsAt.low {w : World} {la : Option Addr} {l : List Int} (h : IntsAt w la l) (hz : l ≠ []) (a : Addr) (ha : la = some a) : a.block < w.heap.size := by
  rcases h with e | ⟨b, off, e, hl, _⟩
  · exact absurd e hz
  · rw [ha] at e
    injection e with e
    rw [e]
    exact hl

/-- The second loop under way. -/
structure L2At (w0 : World) (vb : Nat) (v : Vw) (ls : List Sg) (sv : Value) (wv : World) : Prop where
  kv : Blk wv vb v.arr 26
  ok : v.Ok wv
  va : v.l ≠ [] → ∀ a, v.a = some a → a.block < w0.heap.size
  own : wv.ownsRow (vb + 1) 34 16 sv ls.length (flatG ls)
  oks : ∀ s ∈ ls, s.Ok wv
  aw : ∀ s ∈ ls, (s.sl ≠ [] → ∀ a, s.sa = some a → a.block ≠ vb ∧ sv.ownBlock ≠ some a.block) ∧ (s.fr ≠ [] → ∀ a, s.fa = some a → a.block ≠ vb ∧ sv.ownBlock ≠ some a.block)
  below : Below w0.heap.size w0 wv
  vb_ : w0.heap.size ≤ vb
theorem L2At.next {w0 wv w2 : World} {vb : Nat} {v : Vw} {ls : List Sg} {sv : Value} (h : L2At w0 vb v ls sv wv) (hb : Below wv.heap.size wv w2) : L2At w0 vb v ls sv w2 := ⟨h.kv.below hb h.kv.lt, h.ok.below hb, h.va, owns_keep h.own hb, fun s hs => (h.oks s hs).below hb, h.aw, h.below.trans (hb.mono h.below.size), h.vb_⟩
theorem L2At.app {w0 W w9 : World} {vb : Nat} {v : Vw} {ls : List Sg} {sv : Value} {s2 : Sg} {g n ec : Nat} (H : L2At w0 vb v ls sv W) (hn : ls.length = n) (ok2 : s2.Ok W) (aw2 : (s2.sl ≠ [] → ∀ a, s2.sa = some a → a.block ≠ vb ∧ sv.ownBlock ≠ some a.block) ∧ (s2.fr ≠ [] → ∀ a, s2.fa = some a → a.block ≠ vb ∧ sv.ownBlock ≠ some a.block))
    (ho : w9.ownsRow (vb + 1) 34 16 (.slice (some ⟨g, 0, none⟩) (n + 1) ec) (ls ++ [s2]).length (flatG (ls ++ [s2]))) (hg : (W.alloc (.cells s2.arr 34)).grownBy w9 sv.ownBlock) (hgb : sv.ownBlock = some g ∨ g = W.heap.size + 1) : L2At w0 vb v (ls ++ [s2]) (.slice (some ⟨g, 0, none⟩) (n + 1) ec) w9 := by
  have bA : Below W.heap.size W (W.alloc (.cells s2.arr 34)) := (Below.refl _ _).alloc (Nat.le_refl _) _
  have hbv : ∀ k, sv.ownBlock = some k → vb + 1 ≤ k := fun k hk => (H.own.lt k hk).1
  have hall : ∀ s ∈ ls ++ [s2], s.Ok W ∧ (s.sl ≠ [] → ∀ a, s.sa = some a → a.block ≠ vb ∧ sv.ownBlock ≠ some a.block) ∧ (s.fr ≠ [] → ∀ a, s.fa = some a → a.block ≠ vb ∧ sv.ownBlock ≠ some a.block) := by
    intro s hs
    rcases List.mem_append.1 hs with h | h
    · exact ⟨H.oks s h, H.aw s h⟩
    · have : s = s2 := by simpa using h
      rw [this]
      exact ⟨ok2, aw2⟩
  refine ⟨?_, ?_, H.va, ho, ?_, ?_, ?_, H.vb_⟩
  · exact (H.kv.below bA H.kv.lt).grown hg (fun e => by have := hbv _ e; omega)
  · exact (H.ok.below bA).grown hg (fun hz a ha e => by have := H.va hz a ha; have := hbv _ e; have := H.vb_; omega)
  · intro s hs
    obtain ⟨h1, h2, h3⟩ := hall s hs
    exact (h1.below bA).grown hg (fun hz a ha => (h2 hz a ha).2) (fun hz a ha => (h3 hz a ha).2)
  · intro s hs
    obtain ⟨h1, h2, h3⟩ := hall s hs
    refine ⟨fun hz a ha => ⟨(h2 hz a ha).1, fun e => ?_⟩, fun hz a ha => ⟨(h3 hz a ha).1, fun e => ?_⟩⟩
    · have e : g = a.block := by simpa [Value.ownBlock] using e
      rcases hgb with q | q
      · exact (h2 hz a ha).2 (by rw [q, e])
      · have := h1.sl_.low hz a ha
        omega
    · have e : g = a.block := by simpa [Value.ownBlock] using e
      rcases hgb with q | q
      · exact (h3 hz a ha).2 (by rw [q, e])
      · have := h1.fi.low hz a ha
        omega
  · exact (H.below.trans (bA.mono H.below.size)).grown hg (by have := H.below.size; simp; omega) (fun k e => by have := hbv k e; have := H.vb_; omega)

set_option maxRecDepth 20000 in
set_option maxHeartbeats 12800000 in
theorem ltA (v : Vw) (la : Option Addr) (lc : Nat) (xs : List (Sg × Int)) (w wv : World) (hx : ShsAt w la xs) (hok : ∀ x ∈ xs, x.1.Ok w ∧ InN x.2) (few : xs.length ≤ 4096) (H : L2At w w.heap.size v [] (.slice none 0 0) wv) (c0 c3 c4 c5 c6 c7 c8 c9 c10 c11 c12 c13 c14 c15 c16 c17 c18 c19 c20 c21 c22 c23 c24 c25 c26 c27 c28 c29 c30 c31 c32 c33 c34 c35 c36 c37 c38 c39 c40 c41 c42 c43 c44 c45 c46 c47 c48 c49 c50 c51 c52 c53 c54 c55 c56 c57 c58 c59 c60 c61 c62 c63 c64 c65 c66 c67 c68 c69 c70 c71 c72 c73 c74 c75 c76 c77 c78 c79 c80 c81 c82 c83 c84 c85 c86 c87 c88 c89 c90 c91 c92 c93 c94 c95 c96 c97 c98 c99 c100 c101 c102 c103 c104 c105 c106 c107 c108 c109 c110 c111 c112 c113 c114 c115 c116 c117 c118 c119 c120 c121 c122 c123 c124 c125 c126 c127 c128 c129 c130 c131 c132 c133 c134 c135 c136 c137 c138 c139 c140 c141 c142 c143 c144 c145 c146 c147 c148 c149 c150 c151 c152 c153 c154 c155 c156 c157 c158 c159 c160 c161 c162 c163 c164 c165 c166 c167 c168 c169 c170 c171 c172 c173 c174 c175 c176 c177 c178 c179 c180 c181 c182 c183 c184 c185 c186 c187 : Value) :
    Code.wp Tryz.prog (dropSeq 4 (Tryz.f3.body.getD .skip)) (bodyPost Tryz.prog Tryz.f3 (fun e w' => e = .returned (.bool true) ∧ Below w.heap.size w w')) ⟨#[c0, .slice la xs.length lc, .pointer (some ⟨w.heap.size, 0, none⟩), c3, c4, c5, c6, c7, c8, c9, c10, c11, c12, c13, c14, c15, c16, c17, c18, c19, c20, c21, c22, c23, c24, c25, c26, c27, c28, c29, c30, c31, c32, c33, c34, c35, c36, c37, c38, c39, c40, c41, c42, c43, c44, c45, c46, c47, c48, c49, c50, c51, c52, c53, c54, c55, c56, c57, c58, c59, c60, c61, c62, c63, c64, c65, c66, c67, c68, c69, c70, c71, c72, c73, c74, c75, c76, c77, c78, c79, c80, c81, c82, c83, c84, c85, c86, c87, c88, c89, c90, c91, c92, c93, c94, c95, c96, c97, c98, c99, c100, c101, c102, c103, c104, c105, c106, c107, c108, c109, c110, c111, c112, c113, c114, c115, c116, c117, c118, c119, c120, c121, c122, c123, c124, c125, c126, c127, c128, c129, c130, c131, c132, c133, c134, c135, c136, c137, c138, c139, c140, c141, c142, c143, c144, c145, c146, c147, c148, c149, c150, c151, c152, c153, c154, c155, c156, c157, c158, c159, c160, c161, c162, c163, c164, c165, c166, c167, c168, c169, c170, c171, c172, c173, c174, c175, c176, c177, c178, c179, c180, c181, c182, c183, c184, c185, c186, c187], []⟩ wv := by
  conv => arg 2; whnf
  conv => arg 4; dsimp only
  obtain ⟨c, wi, ep, h, st, a, cap, l⟩ := v
  have c1 := (H.kv.cell 1).trans rfl
  have zv := H.kv.lt
  go_upto_region 8 with fail
  go_cut [7] (fun rv wx => ∃ wd : Int, rv = .int .i64 wd ∧ InN wd ∧ wv = wx)
  case first =>
    go_wp2_with fail
    refine (pick_fn wi 8 wv H.ok.iwi (by omega)).mono ?_
    rintro e w1 ⟨rfl, rfl⟩
    have hB := pickP_bd wi 8 (by omega)
    generalize pickP wi 8 = B at *
    have ww := wrapI (1 + B) (by omega) (by omega)
    go_wp2_with fail
    go_meet
    case rel => exact ⟨1 + B, rfl, by unfold InN; omega, rfl⟩
  case rest =>
    obtain ⟨wd, rfl, hwd, rfl⟩ := hcut
    clear c1
    go_upto_block 2 with fail
    go_cut [8] (fun sv wx => ∃ ls : List Sg, ls.length = xs.length ∧ L2At w w.heap.size ⟨c, wi, ep, h, st, a, cap, l⟩ ls sv wx)
    case rest =>
      clear H
      obtain ⟨ls, hll, H⟩ := hcut
      generalize wc = wk at *
      obtain ⟨sa, sc, rfl, hsg⟩ := sights_at H.own rfl H.oks
      have HL : LtAt w w.heap.size ⟨c, wi, ep, h, st, a, cap, l⟩ sa ls wk := ⟨H.kv, H.ok, hsg, by omega, H.below⟩
      have HA : Aw w.heap.size ⟨c, wi, ep, h, st, a, cap, l⟩ sa ls := ⟨fun hz a ha => by have := H.va hz a ha; omega, fun a ha => by have := (H.own.lt a.block (by rw [ha]; rfl)).1; omega, fun s hs => ⟨fun hz a ha => ((H.aw s hs).1 hz a ha).1, fun hz a ha => ((H.aw s hs).2 hz a ha).1⟩⟩
      refine ‹∀ a w, Code.wp Tryz.prog _ _ a w → _› _ _ ?_
      exact ltB wd hwd ⟨c, wi, ep, h, st, a, cap, l⟩ sa sc ls w wk HL HA _ _ _ _ _ _ _ _ _ _ _ _ _ _ _ _ _ _ _ _ _ _ _ _ _ _ _ _ _ _ _ _ _ _ _ _ _ _ _ _ _ _ _ _ _ _ _ _ _ _ _ _ _ _ _ _ _ _ _ _ _ _ _ _ _ _ _ _ _ _ _ _ _ _ _ _ _ _ _ _ _ _ _ _ _ _ _ _ _ _ _ _ _ _ _ _ _ _ _ _ _ _ _ _ _ _ _ _ _ _ _ _ _ _ _ _ _ _ _ _ _ _ _ _ _ _ _ _ _ _ _ _ _ _ _ _ _ _ _ _ _ _ _ _ _ _ _ _ _ _ _ _ _ _ _ _ _ _ _ _ _ _ _ _ _ _ _ _ _ _ _ _ _ _ _ _ _ _ _ _ _ _ _ _ _
    case first =>
      go_wp2_with fail
      go_loopw [8, 9] (fun sv iv w2 => ∃ (i : Nat) (ls : List Sg), i ≤ xs.length ∧ iv = .int .i64 i ∧ ls.length = i ∧ L2At w w.heap.size ⟨c, wi, ep, h, st, a, cap, l⟩ ls sv w2) (fun sv iv _ => xs.length - (intOf iv).toNat)
      case atStart => exact ⟨0, [], Nat.zero_le _, rfl, rfl, H⟩
      case round =>
        clear H
        generalize u8 = sv at *
        obtain ⟨i, ls, hi, rfl, hli, G⟩ := hrel
        have HLI := show Hid (ls.length = i) from hli
        clear hli
        by_cases hlt : i < xs.length
        · have hlt' : (i : Int) < (xs.length : Int) := by omega
          obtain ⟨sb, so, e, hsb, hc0⟩ := hx.one hlt
          subst e
          have hoks := hok _ (List.getElem_mem hlt)
          generalize xs[i] = x at *
          obtain ⟨⟨hc, hh, hpa, htx, hgu, hst, hre, hbe, hpr, kh, kr, ks, khas, kbl, fa, fcap, fr, ta, tcap, tl⟩, t⟩ := x
          have hsb1 : sb < wr.heap.size := Nat.lt_of_lt_of_le hsb G.below.size
          have hcs := fun (k : Nat) (y : Value) (hy : ((Sg.arr ⟨hc, hh, hpa, htx, hgu, hst, hre, hbe, hpr, kh, kr, ks, khas, kbl, fa, fcap, fr, ta, tcap, tl⟩).push (.int .i64 t))[k]? = some y) => hc0 wr G.below k y hy
          clear hc0
          have s0 := hcs 0 _ rfl
          have s1 := hcs 1 _ rfl
          have s2 := hcs 2 _ rfl
          have s3 := hcs 3 _ rfl
          have s4 := hcs 4 _ rfl
          have s5 := hcs 5 _ rfl
          have s6 := hcs 6 _ rfl
          have s7 := hcs 7 _ rfl
          have s8 := hcs 8 _ rfl
          have s9 := hcs 9 _ rfl
          have s10 := hcs 10 _ rfl
          have s11 := hcs 11 _ rfl
          have s12 := hcs 12 _ rfl
          have s13 := hcs 13 _ rfl
          have s14 := hcs 14 _ rfl
          have s15 := hcs 15 _ rfl
          have s16 := hcs 16 _ rfl
          simp only [Nat.add_zero] at s0
          have hso := hoks.1.below G.below
          have KS : Calls Tryz.prog 5 #[.int .i64 wd, .agg #[.int .i64 hc, .int .i64 hh, .int .u64 hpa, .int .u64 htx, .int .u64 hgu, .int .u64 hst, .int .u64 hre, .int .u64 hbe, .int .i64 hpr, .int .i64 kh, .int .i64 kr, .int .i64 ks, .bool khas, .int .u64 kbl, .slice fa fr.length fcap, .slice ta tl.length tcap, .int .i64 t]] wr fun e w' => ∃ s2 : Sg, e = .returned (.agg s2.arr) ∧ s2.Ok w' ∧ Below wr.heap.size wr w' ∧ (s2.fr = (⟨hc, hh, hpa, htx, hgu, hst, hre, hbe, hpr, kh, kr, ks, khas, kbl, fa, fcap, fr, ta, tcap, tl⟩ : Sg).fr ∧ s2.fa = (⟨hc, hh, hpa, htx, hgu, hst, hre, hbe, hpr, kh, kr, ks, khas, kbl, fa, fcap, fr, ta, tcap, tl⟩ : Sg).fa) ∧ ((s2.sl = (⟨hc, hh, hpa, htx, hgu, hst, hre, hbe, hpr, kh, kr, ks, khas, kbl, fa, fcap, fr, ta, tcap, tl⟩ : Sg).sl ∧ s2.sa = (⟨hc, hh, hpa, htx, hgu, hst, hre, hbe, hpr, kh, kr, ks, khas, kbl, fa, fcap, fr, ta, tcap, tl⟩ : Sg).sa) ∨ ∀ a, s2.sa = some a → wr.heap.size ≤ a.block) := shown_any wd t ⟨hc, hh, hpa, htx, hgu, hst, hre, hbe, hpr, kh, kr, ks, khas, kbl, fa, fcap, fr, ta, tcap, tl⟩ wr hso hwd hoks.2
          have lows := hoks.1.sl_.low
          have lowf := hoks.1.fi.low
          have HLW := show Hid (_ ∧ _) from ⟨lows, lowf⟩
          clear hcs hso hoks lows lowf
          go_wp2_with fail
          refine KS.mono ?_
          rintro e w4 ⟨sz, rfl, ok2, b4, ⟨hfr, hfa⟩, hss⟩
          have G4 := G.next b4
          have zv4 : w.heap.size < wr.heap.size := G.kv.lt
          have aw2 : (sz.sl ≠ [] → ∀ a, sz.sa = some a → a.block ≠ w.heap.size ∧ sv.ownBlock ≠ some a.block) ∧ (sz.fr ≠ [] → ∀ a, sz.fa = some a → a.block ≠ w.heap.size ∧ sv.ownBlock ≠ some a.block) := by
            refine ⟨fun hz a ha => ?_, fun hz a ha => ?_⟩
            · rcases hss with ⟨q1, q2⟩ | q
              · rw [q1] at hz
                rw [q2] at ha
                have h1 := HLW.out.1 hz a ha
                exact ⟨by omega, fun e => by have := (G.own.lt _ e).1; omega⟩
              · have h1 := q a ha
                exact ⟨by omega, fun e => by have := (G.own.lt _ e).2; omega⟩
            · rw [hfr] at hz
              rw [hfa] at ha
              have h1 := HLW.out.2 hz a ha
              exact ⟨by omega, fun e => by have := (G.own.lt _ e).1; omega⟩
          obtain ⟨g, ec, w9, hr, ho9, hg9, hgb⟩ := app_sight w4 (w.heap.size + 1) sv ls G4.own sz (by rw [HLI.out]; omega) (by have := G4.kv.lt; omega) i HLI.out
          have F9 := G4.app HLI.out ok2 aw2 ho9 hg9 hgb
          have HL9 : Hid ((ls ++ [sz]).length = i + 1) := by show _ = _; rw [List.length_append, HLI.out]; rfl
          clear ho9 hg9 hgb aw2 hss hfr hfa ok2 b4 G4 G KS HLW s0 s1 s2 s3 s4 s5 s6 s7 s8 s9 s10 s11 s12 s13 s14 s15 s16
          obtain ⟨q0, q1, q2, q3, q4, q5, q6, q7, q8, q9, q10, q11, q12, q13, qa, qb, qc, qd, qe, qf⟩ := sz
          go_wp2_with (at_builtin; refine wpList_append_run rfl _ _ 38 rfl _ _ _ w9 rfl rfl hr ?_)
          exact ⟨⟨i + 1, _, by omega, by go_num, HL9.out, F9⟩, by simp [intOf]; omega⟩
        · have hge : ¬ (i : Int) < (xs.length : Int) := by omega
          go_wp2_with fail
          go_meet
          case rel => exact ⟨ls, by rw [HLI.out]; omega, G⟩

end Go.Proofs.YtblnlfcfjbfhiaaGreat
