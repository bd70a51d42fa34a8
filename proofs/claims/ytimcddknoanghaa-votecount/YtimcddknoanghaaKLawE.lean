/- VoteCount: where it is asked. -/
import Derived.Test.YtimcddknoanghaaKBoth
namespace Go.Proofs.Ytimcddknoanghaa
open Go.RowKit
set_option linter.unusedVariables false
set_option linter.unusedSimpArgs false

def dropSeq : Nat → Code → Code
  | 0, c => c
  | n + 1, .seq _ b => dropSeq n b
  | _ + 1, c => c
theorem blk_six0 {w : World} {b : Nat} {a0 a1 a2 a3 a4 a5 : Value} {t : TypeId} (k : Blk w b #[a0, a1, a2, a3, a4, a5] t) (v0 v1 v2 v3 v4 v5 : Value) : Blk (sixW w b v0 v1 v2 v3 v4 v5) b #[v0, v1, v2, v3, v4, v5] t :=
  ((((((k.set 0 v0).set 1 v1).set 2 v2).set 3 v3).set 4 v4).set 5 v5)
theorem blk_sixO {w : World} {b c : Nat} {cs : Array Value} {t : TypeId} (k : Blk w c cs t) (h : c ≠ b) (v0 v1 v2 v3 v4 v5 : Value) : Blk (sixW w b v0 v1 v2 v3 v4 v5) c cs t :=
  ((((((k.setOther ⟨b, 0, none⟩ h v0).setOther ⟨b, 1, none⟩ h v1).setOther ⟨b, 2, none⟩ h v2).setOther ⟨b, 3, none⟩ h v3).setOther ⟨b, 4, none⟩ h v4).setOther ⟨b, 5, none⟩ h v5)
/-- Under way in the last loop: both variables that hold a cert. -/
structure LoopE (wv : World) (ab bb : Nat) (w2 : World) : Prop where
  bel : Below wv.heap.size wv w2
  ka : ∃ a0 a1 a2 a3 a4 a5 : Value, Blk w2 ab #[a0, a1, a2, a3, a4, a5] 42
  kb : ∃ a0 a1 a2 a3 a4 a5 : Value, Blk w2 bb #[a0, a1, a2, a3, a4, a5] 42
  a0 : wv.heap.size ≤ ab
  b0 : wv.heap.size ≤ bb
  ne : ab ≠ bb
theorem LoopE.next {wv w2 w3 : World} {ab bb : Nat} (h : LoopE wv ab bb w2) (hb : Below w2.heap.size w2 w3) : LoopE wv ab bb w3 := by
  obtain ⟨a0, a1, a2, a3, a4, a5, k1⟩ := h.ka
  obtain ⟨d0, d1, d2, d3, d4, d5, k2⟩ := h.kb
  exact ⟨h.bel.trans (hb.mono h.bel.size), ⟨a0, a1, a2, a3, a4, a5, k1.below hb k1.lt⟩, ⟨d0, d1, d2, d3, d4, d5, k2.below hb k2.lt⟩, h.a0, h.b0, h.ne⟩
theorem LoopE.setA {wv w2 : World} {ab bb : Nat} (h : LoopE wv ab bb w2) (v0 v1 v2 v3 v4 v5 : Value) : LoopE wv ab bb (sixW w2 ab v0 v1 v2 v3 v4 v5) ∧ Blk (sixW w2 ab v0 v1 v2 v3 v4 v5) ab #[v0, v1, v2, v3, v4, v5] 42 := by
  obtain ⟨a0, a1, a2, a3, a4, a5, k1⟩ := h.ka
  obtain ⟨d0, d1, d2, d3, d4, d5, k2⟩ := h.kb
  exact ⟨⟨bel_six0 h.bel h.a0 _ _ _ _ _ _, ⟨_, _, _, _, _, _, blk_six0 k1 v0 v1 v2 v3 v4 v5⟩, ⟨_, _, _, _, _, _, blk_sixO k2 h.ne.symm v0 v1 v2 v3 v4 v5⟩, h.a0, h.b0, h.ne⟩, blk_six0 k1 v0 v1 v2 v3 v4 v5⟩
theorem LoopE.setB {wv w2 : World} {ab bb : Nat} (h : LoopE wv ab bb w2) (v0 v1 v2 v3 v4 v5 : Value) : LoopE wv ab bb (sixW w2 bb v0 v1 v2 v3 v4 v5) ∧ Blk (sixW w2 bb v0 v1 v2 v3 v4 v5) bb #[v0, v1, v2, v3, v4, v5] 42 := by
  obtain ⟨a0, a1, a2, a3, a4, a5, k1⟩ := h.ka
  obtain ⟨d0, d1, d2, d3, d4, d5, k2⟩ := h.kb
  exact ⟨⟨bel_six0 h.bel h.b0 _ _ _ _ _ _, ⟨_, _, _, _, _, _, blk_sixO k1 h.ne v0 v1 v2 v3 v4 v5⟩, ⟨_, _, _, _, _, _, blk_six0 k2 v0 v1 v2 v3 v4 v5⟩, h.a0, h.b0, h.ne⟩, blk_six0 k2 v0 v1 v2 v3 v4 v5⟩
theorem quo9 (x : Int) (h : -9223372036854775808 ≤ x ∧ x ≤ 9223372036854775807) : -9223372036854775808 ≤ x.tdiv 9 ∧ x.tdiv 9 ≤ 9223372036854775807 := by
  have h1 : (x.tdiv 9).natAbs = x.natAbs / 9 := by rw [Int.natAbs_tdiv]; rfl
  omega

set_option maxRecDepth 20000 in
set_option maxHeartbeats 12800000 in
theorem vcE (x : List (Int × Int)) (ht : Int) (L : List Vt) (la : Option Addr) (lc n : Nat) (hn : n ≤ 512) (cb rb ab bb : Nat) (aa : Option Addr) (ac : Nat) (ask : List Int) (hask : ask.length ≤ 64) (hai : ∀ y ∈ ask, -9223372036854775808 ≤ y ∧ y ≤ 9223372036854775807) (w wv wq : World) (H : Both w wv cb rb x ht L la lc n) (hI : IntsAt w aa ask) (E0 : LoopE wv ab bb wq) (c0 c1 c2 c4 c5 c6 c7 c8 c9 c12 c13 c14 c15 c16 c17 c18 c20 c22 c23 c24 c25 c26 c27 c28 c29 c30 c31 c32 c33 c34 c35 c36 c37 c38 c39 c40 c41 c42 c43 c44 c45 c46 c47 c48 c49 c50 c51 c52 c53 c54 c55 c56 c57 c58 c59 c60 c61 c62 c63 c64 c65 c66 c67 c68 c69 c70 c71 c72 c73 c74 c75 c76 c77 c78 c79 c80 c81 c82 c83 c84 c85 c86 c87 c88 c89 c90 c91 c92 c93 c94 c95 c96 c97 c98 c99 c100 c101 c102 c103 c104 c105 c106 c107 c108 c109 c110 c111 c112 c113 c114 c115 c116 c117 c118 c119 c120 c121 c122 c123 c124 c125 c126 c127 c128 c129 c130 c131 c132 c133 c134 c135 c136 c137 c138 c139 c140 c141 c142 c143 c144 c145 c146 c147 c148 c149 c150 c151 c152 c153 c154 c155 c156 c157 c158 c159 c160 c161 c162 c163 c164 c165 c166 c167 c168 c169 c170 c171 c172 c173 c174 c175 c176 c177 c178 c179 c180 c181 c182 c183 c184 c185 c186 c187 c188 c189 c190 c191 c192 c193 c194 c195 c196 c197 c198 c199 c200 c201 c202 c203 c204 c205 c206 c207 c208 : Value) :
    Code.wp Try.prog (dropSeq 12 (Try.f3.body.getD .skip)) (bodyPost Try.prog Try.f3 (fun e w' => e = .returned (.bool true) ∧ Below w.heap.size w w')) ⟨#[c0, c1, c2, .slice aa ask.length ac, c4, c5, c6, c7, c8, c9, .pointer (some ⟨cb, 0, none⟩), .pointer (some ⟨rb, 0, none⟩), c12, c13, c14, c15, c16, c17, c18, .pointer (some ⟨ab, 0, none⟩), c20, .pointer (some ⟨bb, 0, none⟩), c22, c23, c24, c25, c26, c27, c28, c29, c30, c31, c32, c33, c34, c35, c36, c37, c38, c39, c40, c41, c42, c43, c44, c45, c46, c47, c48, c49, c50, c51, c52, c53, c54, c55, c56, c57, c58, c59, c60, c61, c62, c63, c64, c65, c66, c67, c68, c69, c70, c71, c72, c73, c74, c75, c76, c77, c78, c79, c80, c81, c82, c83, c84, c85, c86, c87, c88, c89, c90, c91, c92, c93, c94, c95, c96, c97, c98, c99, c100, c101, c102, c103, c104, c105, c106, c107, c108, c109, c110, c111, c112, c113, c114, c115, c116, c117, c118, c119, c120, c121, c122, c123, c124, c125, c126, c127, c128, c129, c130, c131, c132, c133, c134, c135, c136, c137, c138, c139, c140, c141, c142, c143, c144, c145, c146, c147, c148, c149, c150, c151, c152, c153, c154, c155, c156, c157, c158, c159, c160, c161, c162, c163, c164, c165, c166, c167, c168, c169, c170, c171, c172, c173, c174, c175, c176, c177, c178, c179, c180, c181, c182, c183, c184, c185, c186, c187, c188, c189, c190, c191, c192, c193, c194, c195, c196, c197, c198, c199, c200, c201, c202, c203, c204, c205, c206, c207, c208], []⟩ wq := by
  conv => arg 2; whnf
  conv => arg 4; dsimp only
  go_wp2_with fail
  go_loopw [20, 22, 23] (fun okv tov iv w2 => ∃ i : Nat, i ≤ ask.length ∧ iv = .int .i64 i ∧ LoopE wv ab bb w2) (fun _ _ iv _ => ask.length - (intOf iv).toNat)
  case atStart => exact ⟨0, Nat.zero_le _, rfl, E0⟩
  case round =>
    obtain ⟨i, hi, rfl, hE⟩ := hrel
    clear E0
    by_cases hlt : i < ask.length
    · have hlt' : (i : Int) < (ask.length : Int) := by omega
      have B1 := H.bel.trans (hE.bel.mono H.bel.size)
      obtain ⟨sb, so, e, hsb, hc0⟩ := (hI.below B1).one hlt
      subst e
      have hA := hai _ (List.getElem_mem hlt)
      generalize ask[i] = A at *
      clear B1
      go_wp2_with fail
      refine (pick_any A 9 wr hA (by omega)).mono ?_
      rintro e w1 ⟨⟨R, rfl, hR0, hR9⟩, rfl⟩
      have wR := wrapI (R - 1) (by omega) (by omega)
      have hR : -9223372036854775808 ≤ R - 1 ∧ R - 1 ≤ 9223372036854775807 := by omega
      have hQ := quo9 A hA
      have wQ := wrapI (A.tdiv 9) hQ.1 hQ.2
      go_wp2_with fail
      refine (pick_any (A.tdiv 9) 4 wr hQ (by omega)).mono ?_
      rintro e w1 ⟨⟨S, rfl, hS0, hS4⟩, rfl⟩
      have hS : -9223372036854775808 ≤ S ∧ S ≤ 9223372036854775807 := by omega
      clear hc0 hQ wQ hA
      obtain ⟨h1, r1, s1, has1, bl1, fr1, ok1, hl1, F11, F21⟩ := H.lead hn (R - 1) S hR hS
      obtain ⟨h2, r2, s2, has2, bl2, fr2, ok2, hl2, F12, F22⟩ := H.best hn (R - 1)
      obtain ⟨an, A1, A2⟩ := H.any hn (R - 1) S hR hS
      obtain ⟨ah, G1, G2⟩ := H.ahead hn (R - 1)
      go_upto_region 30 with fail
      generalize R - 1 = R1 at *
      clear wR hR0 hR9 hS0 hS4
      have hdn : (an != an) = false := by simp
      have hdh : (ah != ah) = false := by simp
      go_wp2_with fail
      refine (F11 wr hE.bel).mono ?_
      rintro e wa1 ⟨⟨fa1, fc1, rfl, ia1, hfa1⟩, ba1⟩
      have Ea1 := hE.next ba1
      obtain ⟨x0, x1, x2, x3, x4, x5, kx⟩ := Ea1.ka
      have zx := kx.lt
      have xc0 := (kx.cell 0).trans rfl
      have xc1 := (kx.cell 1).trans rfl
      have xc2 := (kx.cell 2).trans rfl
      have xc3 := (kx.cell 3).trans rfl
      have xc4 := (kx.cell 4).trans rfl
      have xc5 := (kx.cell 5).trans rfl
      have xf0 := kx.frozen 0
      have xf1 := kx.frozen 1
      have xf2 := kx.frozen 2
      have xf3 := kx.frozen 3
      have xf4 := kx.frozen 4
      have xf5 := kx.frozen 5
      have hab : ab < wr.heap.size := by obtain ⟨_, _, _, _, _, _, q⟩ := hE.ka; exact q.lt
      have hbb : bb < wr.heap.size := by obtain ⟨_, _, _, _, _, _, q⟩ := hE.kb; exact q.lt
      obtain ⟨Eb1, kA1⟩ := Ea1.setA (.int .i64 h1) (.int .i64 r1) (.int .i64 s1) (.bool has1) (.int .u64 bl1) (.slice fa1 fr1.length fc1)
      have ib1 := ints_six ia1 (b := ab) (fun a ha => by have := hfa1 a ha; omega) (.int .i64 h1) (.int .i64 r1) (.int .i64 s1) (.bool has1) (.int .u64 bl1) (.slice fa1 fr1.length fc1)
      have szb : (sixW wa1 ab (.int .i64 h1) (.int .i64 r1) (.int .i64 s1) (.bool has1) (.int .u64 bl1) (.slice fa1 fr1.length fc1)).heap.size = wa1.heap.size := by simp only [sixW, World.size_setCell]
      have hsz := ba1.size
      unfold sixW at Eb1 kA1 ib1 szb
      clear hE Ea1
      go_upto_region 31 with fail
      generalize ((((((wa1.setCell ⟨ab, 0, none⟩ (.int .i64 h1)).setCell ⟨ab, 1, none⟩ (.int .i64 r1)).setCell ⟨ab, 2, none⟩ (.int .i64 s1)).setCell ⟨ab, 3, none⟩ (.bool has1)).setCell ⟨ab, 4, none⟩ (.int .u64 bl1)).setCell ⟨ab, 5, none⟩ (.slice fa1 fr1.length fc1)) = wb1 at *
      clear xc0 xc1 xc2 xc3 xc4 xc5 xf0 xf1 xf2 xf3 xf4 xf5 kx zx ia1 ba1
      go_wp2_with fail
      refine (F21 wb1 Eb1.bel).mono ?_
      rintro e wc1 ⟨⟨ga1, gc1, rfl, ja1, hga1⟩, bb1⟩
      have Ec1 := Eb1.next bb1
      have kA21 := kA1.below bb1 kA1.lt
      have ic1 := ib1.below bb1
      clear x0 x1 x2 x3 x4 x5
      obtain ⟨x0, x1, x2, x3, x4, x5, kx⟩ := Ec1.kb
      have zx := kx.lt
      have xc0 := (kx.cell 0).trans rfl
      have xc1 := (kx.cell 1).trans rfl
      have xc2 := (kx.cell 2).trans rfl
      have xc3 := (kx.cell 3).trans rfl
      have xc4 := (kx.cell 4).trans rfl
      have xc5 := (kx.cell 5).trans rfl
      have xf0 := kx.frozen 0
      have xf1 := kx.frozen 1
      have xf2 := kx.frozen 2
      have xf3 := kx.frozen 3
      have xf4 := kx.frozen 4
      have xf5 := kx.frozen 5
      obtain ⟨Ed1, kB1⟩ := Ec1.setB (.int .i64 h1) (.int .i64 r1) (.int .i64 s1) (.bool has1) (.int .u64 bl1) (.slice ga1 fr1.length gc1)
      have id1 := ints_six ic1 (b := bb) (fun a ha => by have := hfa1 a ha; omega) (.int .i64 h1) (.int .i64 r1) (.int .i64 s1) (.bool has1) (.int .u64 bl1) (.slice ga1 fr1.length gc1)
      have jd1 := ints_six ja1 (b := bb) (fun a ha => by have := hga1 a ha; omega) (.int .i64 h1) (.int .i64 r1) (.int .i64 s1) (.bool has1) (.int .u64 bl1) (.slice ga1 fr1.length gc1)
      have kA31 := blk_sixO kA21 Ec1.ne (.int .i64 h1) (.int .i64 r1) (.int .i64 s1) (.bool has1) (.int .u64 bl1) (.slice ga1 fr1.length gc1)
      unfold sixW at Ed1 kB1 id1 jd1 kA31
      clear Eb1 Ec1 kA1 kA21 ib1 ic1 hsz szb
      go_upto_region 32 with fail
      generalize ((((((wc1.setCell ⟨bb, 0, none⟩ (.int .i64 h1)).setCell ⟨bb, 1, none⟩ (.int .i64 r1)).setCell ⟨bb, 2, none⟩ (.int .i64 s1)).setCell ⟨bb, 3, none⟩ (.bool has1)).setCell ⟨bb, 4, none⟩ (.int .u64 bl1)).setCell ⟨bb, 5, none⟩ (.slice ga1 fr1.length gc1)) = wd1 at *
      clear xc0 xc1 xc2 xc3 xc4 xc5 xf0 xf1 xf2 xf3 xf4 xf5 kx zx ja1 bb1
      have ya0 := (kA31.cell 0).trans rfl
      have ya1 := (kA31.cell 1).trans rfl
      have ya2 := (kA31.cell 2).trans rfl
      have ya3 := (kA31.cell 3).trans rfl
      have ya4 := (kA31.cell 4).trans rfl
      have ya5 := (kA31.cell 5).trans rfl
      have yb0 := (kB1.cell 0).trans rfl
      have yb1 := (kB1.cell 1).trans rfl
      have yb2 := (kB1.cell 2).trans rfl
      have yb3 := (kB1.cell 3).trans rfl
      have yb4 := (kB1.cell 4).trans rfl
      have yb5 := (kB1.cell 5).trans rfl
      have zA := kA31.lt
      have zB := kB1.lt
      have hd : (ok1 != ok1) = false := by simp
      go_wp2_with fail
      refine (sameCert_any h1 r1 s1 has1 bl1 fa1 ga1 fc1 gc1 fr1 wd1 (by omega) id1 jd1).mono ?_
      rintro e we1 ⟨rfl, be1⟩
      have Ee1 := Ed1.next be1
      clear ya0 ya1 ya2 ya3 ya4 ya5 yb0 yb1 yb2 yb3 yb4 yb5 zA zB kA31 kB1 id1 jd1 Ed1 be1 hfa1 hga1
      go_wp2_with fail
      refine (A1 we1 Ee1.bel).mono ?_
      rintro e w3 ⟨rfl, b3⟩
      have E3 := Ee1.next b3
      clear Ee1 b3
      go_wp2_with fail
      refine (A2 w3 E3.bel).mono ?_
      rintro e w4 ⟨rfl, b4⟩
      have E4 := E3.next b4
      clear E3 b4
      go_wp2_with fail
      refine (G1 w4 E4.bel).mono ?_
      rintro e w5 ⟨rfl, b5⟩
      have E5 := E4.next b5
      clear E4 b5
      go_wp2_with fail
      refine (G2 w5 E5.bel).mono ?_
      rintro e w6 ⟨rfl, b6⟩
      have E6 := E5.next b6
      clear E5 b6 A1 A2 G1 G2 F11 F21
      go_wp2_with fail
      refine (F12 w6 E6.bel).mono ?_
      rintro e wa2 ⟨⟨fa2, fc2, rfl, ia2, hfa2⟩, ba2⟩
      have Ea2 := E6.next ba2
      obtain ⟨x0, x1, x2, x3, x4, x5, kx⟩ := Ea2.ka
      have zx := kx.lt
      have xc0 := (kx.cell 0).trans rfl
      have xc1 := (kx.cell 1).trans rfl
      have xc2 := (kx.cell 2).trans rfl
      have xc3 := (kx.cell 3).trans rfl
      have xc4 := (kx.cell 4).trans rfl
      have xc5 := (kx.cell 5).trans rfl
      have xf0 := kx.frozen 0
      have xf1 := kx.frozen 1
      have xf2 := kx.frozen 2
      have xf3 := kx.frozen 3
      have xf4 := kx.frozen 4
      have xf5 := kx.frozen 5
      have hab : ab < w6.heap.size := by obtain ⟨_, _, _, _, _, _, q⟩ := E6.ka; exact q.lt
      have hbb : bb < w6.heap.size := by obtain ⟨_, _, _, _, _, _, q⟩ := E6.kb; exact q.lt
      obtain ⟨Eb2, kA2⟩ := Ea2.setA (.int .i64 h2) (.int .i64 r2) (.int .i64 s2) (.bool has2) (.int .u64 bl2) (.slice fa2 fr2.length fc2)
      have ib2 := ints_six ia2 (b := ab) (fun a ha => by have := hfa2 a ha; omega) (.int .i64 h2) (.int .i64 r2) (.int .i64 s2) (.bool has2) (.int .u64 bl2) (.slice fa2 fr2.length fc2)
      have szb : (sixW wa2 ab (.int .i64 h2) (.int .i64 r2) (.int .i64 s2) (.bool has2) (.int .u64 bl2) (.slice fa2 fr2.length fc2)).heap.size = wa2.heap.size := by simp only [sixW, World.size_setCell]
      have hsz := ba2.size
      unfold sixW at Eb2 kA2 ib2 szb
      clear E6 Ea2
      go_upto_region 35 with fail
      generalize ((((((wa2.setCell ⟨ab, 0, none⟩ (.int .i64 h2)).setCell ⟨ab, 1, none⟩ (.int .i64 r2)).setCell ⟨ab, 2, none⟩ (.int .i64 s2)).setCell ⟨ab, 3, none⟩ (.bool has2)).setCell ⟨ab, 4, none⟩ (.int .u64 bl2)).setCell ⟨ab, 5, none⟩ (.slice fa2 fr2.length fc2)) = wb2 at *
      clear xc0 xc1 xc2 xc3 xc4 xc5 xf0 xf1 xf2 xf3 xf4 xf5 kx zx ia2 ba2
      go_wp2_with fail
      refine (F22 wb2 Eb2.bel).mono ?_
      rintro e wc2 ⟨⟨ga2, gc2, rfl, ja2, hga2⟩, bb2⟩
      have Ec2 := Eb2.next bb2
      have kA22 := kA2.below bb2 kA2.lt
      have ic2 := ib2.below bb2
      clear x0 x1 x2 x3 x4 x5
      obtain ⟨x0, x1, x2, x3, x4, x5, kx⟩ := Ec2.kb
      have zx := kx.lt
      have xc0 := (kx.cell 0).trans rfl
      have xc1 := (kx.cell 1).trans rfl
      have xc2 := (kx.cell 2).trans rfl
      have xc3 := (kx.cell 3).trans rfl
      have xc4 := (kx.cell 4).trans rfl
      have xc5 := (kx.cell 5).trans rfl
      have xf0 := kx.frozen 0
      have xf1 := kx.frozen 1
      have xf2 := kx.frozen 2
      have xf3 := kx.frozen 3
      have xf4 := kx.frozen 4
      have xf5 := kx.frozen 5
      obtain ⟨Ed2, kB2⟩ := Ec2.setB (.int .i64 h2) (.int .i64 r2) (.int .i64 s2) (.bool has2) (.int .u64 bl2) (.slice ga2 fr2.length gc2)
      have id2 := ints_six ic2 (b := bb) (fun a ha => by have := hfa2 a ha; omega) (.int .i64 h2) (.int .i64 r2) (.int .i64 s2) (.bool has2) (.int .u64 bl2) (.slice ga2 fr2.length gc2)
      have jd2 := ints_six ja2 (b := bb) (fun a ha => by have := hga2 a ha; omega) (.int .i64 h2) (.int .i64 r2) (.int .i64 s2) (.bool has2) (.int .u64 bl2) (.slice ga2 fr2.length gc2)
      have kA32 := blk_sixO kA22 Ec2.ne (.int .i64 h2) (.int .i64 r2) (.int .i64 s2) (.bool has2) (.int .u64 bl2) (.slice ga2 fr2.length gc2)
      unfold sixW at Ed2 kB2 id2 jd2 kA32
      clear Eb2 Ec2 kA2 kA22 ib2 ic2 hsz szb
      go_upto_region 36 with fail
      generalize ((((((wc2.setCell ⟨bb, 0, none⟩ (.int .i64 h2)).setCell ⟨bb, 1, none⟩ (.int .i64 r2)).setCell ⟨bb, 2, none⟩ (.int .i64 s2)).setCell ⟨bb, 3, none⟩ (.bool has2)).setCell ⟨bb, 4, none⟩ (.int .u64 bl2)).setCell ⟨bb, 5, none⟩ (.slice ga2 fr2.length gc2)) = wd2 at *
      clear xc0 xc1 xc2 xc3 xc4 xc5 xf0 xf1 xf2 xf3 xf4 xf5 kx zx ja2 bb2
      have ya0 := (kA32.cell 0).trans rfl
      have ya1 := (kA32.cell 1).trans rfl
      have ya2 := (kA32.cell 2).trans rfl
      have ya3 := (kA32.cell 3).trans rfl
      have ya4 := (kA32.cell 4).trans rfl
      have ya5 := (kA32.cell 5).trans rfl
      have yb0 := (kB2.cell 0).trans rfl
      have yb1 := (kB2.cell 1).trans rfl
      have yb2 := (kB2.cell 2).trans rfl
      have yb3 := (kB2.cell 3).trans rfl
      have yb4 := (kB2.cell 4).trans rfl
      have yb5 := (kB2.cell 5).trans rfl
      have zA := kA32.lt
      have zB := kB2.lt
      have hd : (ok2 != ok2) = false := by simp
      go_wp2_with fail
      refine (sameCert_any h2 r2 s2 has2 bl2 fa2 ga2 fc2 gc2 fr2 wd2 (by omega) id2 jd2).mono ?_
      rintro e we2 ⟨rfl, be2⟩
      have Ee2 := Ed2.next be2
      clear ya0 ya1 ya2 ya3 ya4 ya5 yb0 yb1 yb2 yb3 yb4 yb5 zA zB kA32 kB2 id2 jd2 Ed2 be2 hfa2 hga2
      go_wp2
      exact ⟨⟨i + 1, by omega, by go_num, Ee2⟩, by simp [intOf]; omega⟩
    · have hge : ¬ (i : Int) < (ask.length : Int) := by omega
      go_wp2
      go_ret
      exact ⟨rfl, H.bel.trans (hE.bel.mono H.bel.size)⟩

end Go.Proofs.Ytimcddknoanghaa
