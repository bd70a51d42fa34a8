/- FetchTrue: whatever liars say. -/
import Derived.Test.YtemlbcagkjmjgaaDoorFLaw7
import Derived.Test.YtemlbcagkjmjgaaDoorFLawC
import Derived.Test.YtemlbcagkjmjgaaDoorM27
import Derived.Deep.CutBlock
import Derived.Deep.RegionHeld3
namespace Go.Proofs.YtemlbcagkjmjgaaDoor
open Go.RowKit Go.Maps
set_option linter.unusedVariables false
set_option linter.unusedSimpArgs false

set_option maxRecDepth 20000 in
set_option maxHeartbeats 25600000 in
theorem ft6 (w0 wN wq : World) (bt bu fb mb : Nat) (wd : Int) (o0 : Option Tr) (q0 la ls : Option Addr) (cap lc n : Nat) (hn : n ≤ 2047) (xs : List Fs) (hxs : xs.length ≤ 256) (hin : ∀ x ∈ xs, x.In) (HXS : StepsF wN ls xs) (L : List (Key × Int)) (o : Option Tr) (bar : List Int) (BN : Below w0.heap.size w0 wN) (H : LawAt wN bt bu fb mb wd o0 q0 la cap 0 L o bar n wq) (c1 c3 c4 c5 c6 c7 c11 c12 c13 c14 c15 c16 c17 c18 c19 c20 c21 c22 c23 c24 c25 c26 c27 c28 c29 c30 c31 c32 c33 c34 c35 c36 c37 c38 c39 c40 c41 c42 c43 c44 c45 c46 c47 c48 c49 c50 c51 c52 c53 c54 c55 c56 c57 c58 c59 c60 c61 c62 c63 c64 c65 c66 c67 c68 c69 c70 c71 c72 c73 c74 c75 c76 c77 c78 c79 c80 c81 c82 c83 c84 c85 c86 c87 c88 c89 c90 c91 c92 c93 c94 c95 c96 c97 c98 c99 c100 c101 c102 c103 c104 c105 c106 c107 c108 c109 c110 c111 c112 c113 c114 c115 c116 c117 c118 c119 c120 c121 c122 c123 c124 c125 c126 c127 c128 c129 c130 c131 c132 c133 c134 c135 c136 c137 c138 c139 c140 c141 c142 c143 c144 c145 c146 c147 c148 c149 c150 c151 c152 c153 c154 c155 c156 c157 c158 c159 c160 c161 c162 c163 c164 c165 c166 c167 c168 c169 c170 c171 c172 c173 c174 c175 c176 c177 c178 c179 c180 c181 c182 c183 c184 c185 c186 c187 c188 c189 c190 c191 c192 c193 c194 c195 c196 c197 c198 c199 c200 c201 c202 c203 c204 c205 c206 c207 c208 c209 c210 c211 c212 : Value) :
    Code.wp Tryd.prog (dropSeq 6 (Tryd.f3.body.getD .skip)) (bodyPost Tryd.prog Tryd.f3 (fun e w' => e = .returned (.bool true) ∧ Below w0.heap.size w0 w')) ⟨#[.int .i64 wd, c1, .slice ls xs.length lc, c3, c4, c5, c6, c7, .pointer (some ⟨bt, 0, none⟩), .pointer (some ⟨bu, 0, none⟩), .pointer (some ⟨fb, 0, none⟩), c11, c12, c13, c14, c15, c16, c17, c18, c19, c20, c21, c22, c23, c24, c25, c26, c27, c28, c29, c30, c31, c32, c33, c34, c35, c36, c37, c38, c39, c40, c41, c42, c43, c44, c45, c46, c47, c48, c49, c50, c51, c52, c53, c54, c55, c56, c57, c58, c59, c60, c61, c62, c63, c64, c65, c66, c67, c68, c69, c70, c71, c72, c73, c74, c75, c76, c77, c78, c79, c80, c81, c82, c83, c84, c85, c86, c87, c88, c89, c90, c91, c92, c93, c94, c95, c96, c97, c98, c99, c100, c101, c102, c103, c104, c105, c106, c107, c108, c109, c110, c111, c112, c113, c114, c115, c116, c117, c118, c119, c120, c121, c122, c123, c124, c125, c126, c127, c128, c129, c130, c131, c132, c133, c134, c135, c136, c137, c138, c139, c140, c141, c142, c143, c144, c145, c146, c147, c148, c149, c150, c151, c152, c153, c154, c155, c156, c157, c158, c159, c160, c161, c162, c163, c164, c165, c166, c167, c168, c169, c170, c171, c172, c173, c174, c175, c176, c177, c178, c179, c180, c181, c182, c183, c184, c185, c186, c187, c188, c189, c190, c191, c192, c193, c194, c195, c196, c197, c198, c199, c200, c201, c202, c203, c204, c205, c206, c207, c208, c209, c210, c211, c212], []⟩ wq := by
  conv => arg 2; whnf
  conv => arg 4; dsimp only
  go_upto_block 2 with fail
  go_cut [] (fun wx => ∃ k n L o bar, k ≤ 1000 ∧ n ≤ 2047 ∧ LawAt wN bt bu fb mb wd o0 q0 la cap k L o bar n wx)
  case rest =>
    obtain ⟨k, n, L, o, bar, hk, hn, H⟩ := hcut
    refine ‹∀ a w, Code.wp Tryd.prog _ _ a w → _› _ _ ?_
    exact ft7 w0 wN wc bt bu fb mb wd o0 q0 la cap k n hk hn L o bar BN H _ _ _ _ _ _ _ _ _ _ _ _ _ _ _ _ _ _ _ _ _ _ _ _ _ _ _ _ _ _ _ _ _ _ _ _ _ _ _ _ _ _ _ _ _ _ _ _ _ _ _ _ _ _ _ _ _ _ _ _ _ _ _ _ _ _ _ _ _ _ _ _ _ _ _ _ _ _ _ _ _ _ _ _ _ _ _ _ _ _ _ _ _ _ _ _ _ _ _ _ _ _ _ _ _ _ _ _ _ _ _ _ _ _ _ _ _ _ _ _ _ _ _ _ _ _ _ _ _ _ _ _ _ _ _ _ _ _ _ _ _ _ _ _ _ _ _ _ _ _ _ _ _ _ _ _ _ _ _ _ _ _ _ _ _ _ _ _ _ _ _ _ _ _ _ _ _ _ _ _ _ _ _ _ _ _ _ _ _ _ _ _ _ _ _ _ _ _ _ _ _ _ _ _ _ _ _ _ _
  case first =>
    have H0 : Hid (LawAt wN bt bu fb mb wd o0 q0 la cap 0 L o bar n wq) := H
    have HOK : Hid (okW wd) := H.okw
    have HIN : Hid (∀ x ∈ xs, x.In) := hin
    have HSX : Hid (StepsF wN ls xs) := HXS
    clear H hin HXS
    go_wp2_with fail
    go_loopw [11] (fun iv wv => ∃ (i n : Nat) (L : List (Key × Int)) (o : Option Tr) (bar : List Int), i ≤ xs.length ∧ iv = .int .i64 i ∧ n ≤ 2047 ∧ Hid (LawAt wN bt bu fb mb wd o0 q0 la cap i L o bar n wv)) (fun iv _ => xs.length - (intOf iv).toNat)
    case atStart => exact ⟨0, n, L, o, bar, Nat.zero_le _, rfl, hn, H0⟩
    case round =>
      clear hn H0
      obtain ⟨i, n, L, o, bar, hi, rfl, hn, HL⟩ := hrel
      by_cases hlt : i < xs.length
      rotate_left
      · have hge : ¬ (i : Int) < (xs.length : Int) := by omega
        go_wp2_with fail
        go_meet
        case rel => exact ⟨i, n, L, o, bar, by omega, hn, HL.out⟩
      have hlt' : (i : Int) < (xs.length : Int) := by omega
      have K1 := LawAt.wants HL.out
      go_wp2_with fail
      refine K1.mono ?_
      clear K1
      rintro e w1 ⟨b1, (⟨hL, sa, sc, rfl⟩ | ⟨way, d, R, g, c, cs, hL, rfl, hg, kg, cg⟩)⟩
      · have HL1 : Hid (LawAt wN bt bu fb mb wd o0 q0 la cap i L o bar n w1) := LawAt.next HL.out b1
        clear HL b1 hL
        go_wp2_with fail
        go_meet
        case rel => exact ⟨i, n, L, o, bar, by omega, hn, HL1.out⟩
      have HL1 : Hid (LawAt wN bt bu fb mb wd o0 q0 la cap i L o bar n w1) := LawAt.next HL.out b1
      obtain ⟨s, hs⟩ := LawAt.step HL.out hL
      have HST : Hid (Step wd o0 way d R o n s) := hs
      have HLL : Hid (L = (way, d) :: R) := hL
      have hgN : wN.heap.size ≤ g := Nat.le_trans HL.out.bel.size hg
      clear HL b1 hs hL
      go_upto_region 16 with fail
      obtain ⟨y, hy⟩ : ∃ y, toldO wd s = y := ⟨_, rfl⟩
      have HY : Hid (toldO wd s = y) := hy
      have KA : ∀ w', Below w1.heap.size w1 w' → Calls Tryd.prog 10 #[.agg #[.int .i64 wd, .pointer q0], .string (str way)] w' fun e w'' => e = .returned (.tuple #[y.v, .int .i64 0]) ∧ Below w'.heap.size w' w'' := fun w' h => hy ▸ LawAt.at_ HL1.out HST.out (HL1.out.bel.trans (h.mono HL1.out.bel.size))
      have kt := HL1.out.kt.below HL1.out.bel HL1.out.kt.lt
      have T0 : ∀ w', Below w1.heap.size w1 w' → w'.cell? ⟨bt, 0, none⟩ = some (.int .i64 wd) := fun w' h => ((kt.below h kt.lt).cell 0).trans rfl
      have T1 : ∀ w', Below w1.heap.size w1 w' → w'.cell? ⟨bt, 1, none⟩ = some (.pointer q0) := fun w' h => ((kt.below h kt.lt).cell 1).trans rfl
      have G0 : ∀ w', Below w1.heap.size w1 w' → w'.cell? ⟨g, 0, none⟩ = some (.string (str way)) := fun w' h => ((kg.below h kg.lt).cell 0).trans cg
      have bw : Below w1.heap.size w1 w1 := Below.refl _ _
      clear hy kt
      obtain ⟨yk, ykey, yval, ypos, yl, yr⟩ := y
      simp only [Nd.v] at KA
      go_cut [13, 14] (fun nv ev wx => ToldAt w1 ⟨yk, ykey, yval, ypos, yl, yr⟩ nv ev wx)
      case first =>
        have bd : Below w1.heap.size w1 w1.drew := (Below.refl _ _).drew
        refine wp_region_held (S := fun w' => Below w1.heap.size w1 w') (by kernel_rfl) ?_
        refine wpAnyH_take (i := 0) (v := ?_) rfl (by kernel_rfl) (by kernel_rfl) (by kernel_rfl) (fun _ _ _ h => h) (Or.inl ⟨by kernel_rfl, ?_⟩) (by assumption) ?_
        rotate_left
        · intro w' hSw
          have y_T0 := T0 _ hSw
          have y_T1 := T1 _ hSw
          have y_G0 := G0 _ hSw
          go_simp
          try (with_reducible rfl)
        simp only [Act.put, List.getElem_toArray, List.getElem_cons_succ, List.getElem_cons_zero, List.setIfInBounds_toArray, List.set_cons_zero, List.set_cons_succ]
        refine wpAnyH_take (i := 1) (v := ?_) rfl (by kernel_rfl) (by kernel_rfl) (by kernel_rfl) (fun _ _ _ h => h) (Or.inl ⟨by kernel_rfl, ?_⟩) (by assumption) ?_
        rotate_left
        · intro w' hSw
          have y_T0 := T0 _ hSw
          have y_T1 := T1 _ hSw
          have y_G0 := G0 _ hSw
          go_simp
          try (with_reducible rfl)
        simp only [Act.put, List.getElem_toArray, List.getElem_cons_succ, List.getElem_cons_zero, List.setIfInBounds_toArray, List.set_cons_zero, List.set_cons_succ]
        refine wpAnyH_take (i := 2) (v := ?_) rfl (by kernel_rfl) (by kernel_rfl) (by kernel_rfl) (fun _ _ _ h => h) (Or.inl ⟨by kernel_rfl, ?_⟩) (by assumption) ?_
        rotate_left
        · intro w' hSw
          have y_T0 := T0 _ hSw
          have y_T1 := T1 _ hSw
          have y_G0 := G0 _ hSw
          go_simp
          try (with_reducible rfl)
        simp only [Act.put, List.getElem_toArray, List.getElem_cons_succ, List.getElem_cons_zero, List.setIfInBounds_toArray, List.set_cons_zero, List.set_cons_succ]
        refine wpAnyH_take (i := 3) (v := ?_) rfl (by kernel_rfl) (by kernel_rfl) (by kernel_rfl) (fun _ _ _ h => h) (Or.inl ⟨by kernel_rfl, ?_⟩) (by assumption) ?_
        rotate_left
        · intro w' hSw
          have y_T0 := T0 _ hSw
          have y_T1 := T1 _ hSw
          have y_G0 := G0 _ hSw
          go_simp
          try (with_reducible rfl)
        simp only [Act.put, List.getElem_toArray, List.getElem_cons_succ, List.getElem_cons_zero, List.setIfInBounds_toArray, List.set_cons_zero, List.set_cons_succ]
        refine wpAnyH_ready (rs := [4, 8]) (by kernel_rfl) (by simp) ?_
        refine AllReadyH.cons rfl (fun K hK => ?_) (AllReadyH.cons rfl (fun K hK => ?_) AllReadyH.nil)
        · go_simp
          refine (KA _ bd).mono ?_
          rintro e w3 ⟨rfl, b3⟩
          have hN3 : Below w1.heap.size w1 w3 := bel_in bd b3
          refine hK.out _ _ hN3 (fun _ => ?_)
          clear hK K
          try simp only [Act.put, List.getElem_toArray, List.getElem_cons_succ, List.getElem_cons_zero, List.setIfInBounds_toArray, List.set_cons_zero, List.set_cons_succ]
          refine wpAnyH_take (i := 5) (v := ?_) rfl (by kernel_rfl) (by kernel_rfl) (by kernel_rfl) (fun _ _ _ h => h) (Or.inl ⟨by kernel_rfl, ?_⟩) (by assumption) ?_
          rotate_left
          · intro w' hSw
            have y_T0 := T0 _ hSw
            have y_T1 := T1 _ hSw
            have y_G0 := G0 _ hSw
            go_simp
            try (with_reducible rfl)
          simp only [Act.put, List.getElem_toArray, List.getElem_cons_succ, List.getElem_cons_zero, List.setIfInBounds_toArray, List.set_cons_zero, List.set_cons_succ]
          refine wpAnyH_take (i := 6) (v := ?_) rfl (by kernel_rfl) (by kernel_rfl) (by kernel_rfl) (fun _ _ _ h => h) (Or.inl ⟨by kernel_rfl, ?_⟩) (by assumption) ?_
          rotate_left
          · intro w' hSw
            have y_T0 := T0 _ hSw
            have y_T1 := T1 _ hSw
            have y_G0 := G0 _ hSw
            go_simp
            try (with_reducible rfl)
          simp only [Act.put, List.getElem_toArray, List.getElem_cons_succ, List.getElem_cons_zero, List.setIfInBounds_toArray, List.set_cons_zero, List.set_cons_succ]
          refine wpAnyH_take (i := 7) (v := ?_) rfl (by kernel_rfl) (by kernel_rfl) (by kernel_rfl) (fun _ _ _ h => h) (Or.inl ⟨by kernel_rfl, ?_⟩) (by assumption) ?_
          rotate_left
          · intro w' hSw
            have y_T0 := T0 _ hSw
            have y_T1 := T1 _ hSw
            have y_G0 := G0 _ hSw
            go_simp
            try (with_reducible rfl)
          simp only [Act.put, List.getElem_toArray, List.getElem_cons_succ, List.getElem_cons_zero, List.setIfInBounds_toArray, List.set_cons_zero, List.set_cons_succ]
          refine wpAnyH_ready (rs := [8]) (by kernel_rfl) (by simp) ?_
          refine AllReadyH.cons rfl (fun K hK => ?_) AllReadyH.nil
          go_simp
          refine hK.out _ _ (by first | exact bel_al hN3 _ | exact (bel_al hN3 _).drew) (fun _ => ?_)
          clear hK K
          try simp only [Act.put, List.getElem_toArray, List.getElem_cons_succ, List.getElem_cons_zero, List.setIfInBounds_toArray, List.set_cons_zero, List.set_cons_succ]
          refine wpAnyH_ready (rs := [9]) (by kernel_rfl) (by simp) ?_
          refine AllReadyH.cons rfl (fun K hK => ?_) AllReadyH.nil
          go_simp
          refine hK.out _ _ (by first | exact bel_al hN3 _ | exact (bel_al hN3 _).drew) (fun _ => ?_)
          clear hK K
          try simp only [Act.put, List.getElem_toArray, List.getElem_cons_succ, List.getElem_cons_zero, List.setIfInBounds_toArray, List.set_cons_zero, List.set_cons_succ]
          refine wpAnyH_ready (rs := [10]) (by kernel_rfl) (by simp) ?_
          refine AllReadyH.cons rfl (fun K hK => ?_) AllReadyH.nil
          go_simp
          refine hK.out _ _ (by first | exact bel_al hN3 _ | exact (bel_al hN3 _).drew) (fun _ => ?_)
          clear hK K
          try simp only [Act.put, List.getElem_toArray, List.getElem_cons_succ, List.getElem_cons_zero, List.setIfInBounds_toArray, List.set_cons_zero, List.set_cons_succ]
          refine wpAnyH_done (by kernel_rfl) ?_ _
          go_wp2
          go_meet
          exact told_late (y := ⟨yk, ykey, yval, ypos, yl, yr⟩) hN3
        · go_simp
          have bz : Below w1.heap.size w1 (w1.alloc zeroN).drew := (bel_al bw _).drew
          refine hK.out _ _ bz (fun _ => ?_)
          clear hK K
          try simp only [Act.put, List.getElem_toArray, List.getElem_cons_succ, List.getElem_cons_zero, List.setIfInBounds_toArray, List.set_cons_zero, List.set_cons_succ]
          refine wpAnyH_ready (rs := [4]) (by kernel_rfl) (by simp) ?_
          refine AllReadyH.cons rfl (fun K hK => ?_) AllReadyH.nil
          go_simp
          refine (KA _ bz).mono ?_
          rintro e w3 ⟨rfl, b3⟩
          have hN3 : Below w1.heap.size w1 w3 := bel_in bz b3
          obtain ⟨ob1, ⟨oc0, oc1, oc2, oc3, oc4, oc5⟩, ⟨of0, of1, of2, of3, of4, of5⟩, olt⟩ := own6 b3
          refine hK.out _ _ hN3 (fun _ => ?_)
          clear hK K
          try simp only [Act.put, List.getElem_toArray, List.getElem_cons_succ, List.getElem_cons_zero, List.setIfInBounds_toArray, List.set_cons_zero, List.set_cons_succ]
          refine wpAnyH_take (i := 5) (v := ?_) rfl (by kernel_rfl) (by kernel_rfl) (by kernel_rfl) (fun _ _ _ h => h) (Or.inl ⟨by kernel_rfl, ?_⟩) (by assumption) ?_
          rotate_left
          · intro w' hSw
            have y_T0 := T0 _ hSw
            have y_T1 := T1 _ hSw
            have y_G0 := G0 _ hSw
            go_simp
            try (with_reducible rfl)
          simp only [Act.put, List.getElem_toArray, List.getElem_cons_succ, List.getElem_cons_zero, List.setIfInBounds_toArray, List.set_cons_zero, List.set_cons_succ]
          refine wpAnyH_take (i := 6) (v := ?_) rfl (by kernel_rfl) (by kernel_rfl) (by kernel_rfl) (fun _ _ _ h => h) (Or.inl ⟨by kernel_rfl, ?_⟩) (by assumption) ?_
          rotate_left
          · intro w' hSw
            have y_T0 := T0 _ hSw
            have y_T1 := T1 _ hSw
            have y_G0 := G0 _ hSw
            go_simp
            try (with_reducible rfl)
          simp only [Act.put, List.getElem_toArray, List.getElem_cons_succ, List.getElem_cons_zero, List.setIfInBounds_toArray, List.set_cons_zero, List.set_cons_succ]
          refine wpAnyH_take (i := 7) (v := ?_) rfl (by kernel_rfl) (by kernel_rfl) (by kernel_rfl) (fun _ _ _ h => h) (Or.inl ⟨by kernel_rfl, ?_⟩) (by assumption) ?_
          rotate_left
          · intro w' hSw
            have y_T0 := T0 _ hSw
            have y_T1 := T1 _ hSw
            have y_G0 := G0 _ hSw
            go_simp
            try (with_reducible rfl)
          simp only [Act.put, List.getElem_toArray, List.getElem_cons_succ, List.getElem_cons_zero, List.setIfInBounds_toArray, List.set_cons_zero, List.set_cons_succ]
          refine wpAnyH_ready (rs := [9]) (by kernel_rfl) (by simp) ?_
          refine AllReadyH.cons rfl (fun K hK => ?_) AllReadyH.nil
          go_simp
          refine hK.out _ _ (six_bel hN3 (Nat.le_refl _) _ _ _ _ _ _) (fun _ => ?_)
          clear hK K
          try simp only [Act.put, List.getElem_toArray, List.getElem_cons_succ, List.getElem_cons_zero, List.setIfInBounds_toArray, List.set_cons_zero, List.set_cons_succ]
          refine wpAnyH_ready (rs := [10]) (by kernel_rfl) (by simp) ?_
          refine AllReadyH.cons rfl (fun K hK => ?_) AllReadyH.nil
          go_simp
          refine hK.out _ _ (six_bel hN3 (Nat.le_refl _) _ _ _ _ _ _) (fun _ => ?_)
          clear hK K
          try simp only [Act.put, List.getElem_toArray, List.getElem_cons_succ, List.getElem_cons_zero, List.setIfInBounds_toArray, List.set_cons_zero, List.set_cons_succ]
          refine wpAnyH_done (by kernel_rfl) ?_ _
          go_wp2
          go_meet
          exact told_early (y := ⟨yk, ykey, yval, ypos, yl, yr⟩) (Nat.le_refl _) ob1 hN3
      case rest =>
        obtain ⟨nb, rfl, rfl, hnb, kn, bx⟩ := hcut
        have hnbN : wN.heap.size ≤ nb := Nat.le_trans HL1.out.bel.size hnb
        have HYO : Hid ((⟨yk, ykey, yval, ypos, yl, yr⟩ : Nd).Ok) := HY.out ▸ HST.out.ok
        have HL2 : Hid (LawAt wN bt bu fb mb wd o0 q0 la cap i L o bar n wc) := LawAt.next HL1.out bx
        have kg2 := kg.below bx kg.lt
        clear KA T0 T1 G0 HL1 kg bx bw
        generalize wc = w2 at *
        obtain ⟨sb, off, e, hsb, hsc⟩ := HSX.out.one hlt
        subst e
        have hix := HIN.out _ (List.getElem_mem hlt)
        generalize xs[i] = sx at *
        obtain ⟨sfr, sa, st, ⟨sk, skey, sval, spos, sl, sr⟩, sway⟩ := sx
        have HSfr : Hid (InF sfr) := hix.hf
        have hNw : Below wN.heap.size wN w2 := HL2.out.bel
        have A0 : ∀ w', Below w2.heap.size w2 w' → w'.cell? ⟨sb, off + i * 10, none⟩ = some (.int .i64 sfr) := fun w' h => hsc w' ((hNw.trans (h.mono hNw.size)).block sb hsb) 0 _ rfl
        have A1 : ∀ w', Below w2.heap.size w2 w' → w'.cell? ⟨sb, off + i * 10 + 1, none⟩ = some (.int .i64 sa) := fun w' h => hsc w' ((hNw.trans (h.mono hNw.size)).block sb hsb) 1 _ rfl
        have A2 : ∀ w', Below w2.heap.size w2 w' → w'.cell? ⟨sb, off + i * 10 + 2, none⟩ = some (.int .i64 st) := fun w' h => hsc w' ((hNw.trans (h.mono hNw.size)).block sb hsb) 2 _ rfl
        have A3 : ∀ w', Below w2.heap.size w2 w' → w'.cell? ⟨sb, off + i * 10 + 3, none⟩ = some (.int .i64 sk) := fun w' h => hsc w' ((hNw.trans (h.mono hNw.size)).block sb hsb) 3 _ rfl
        have A4 : ∀ w', Below w2.heap.size w2 w' → w'.cell? ⟨sb, off + i * 10 + 4, none⟩ = some (.string (str skey)) := fun w' h => hsc w' ((hNw.trans (h.mono hNw.size)).block sb hsb) 4 _ rfl
        have A5 : ∀ w', Below w2.heap.size w2 w' → w'.cell? ⟨sb, off + i * 10 + 5, none⟩ = some (.string (str sval)) := fun w' h => hsc w' ((hNw.trans (h.mono hNw.size)).block sb hsb) 5 _ rfl
        have A6 : ∀ w', Below w2.heap.size w2 w' → w'.cell? ⟨sb, off + i * 10 + 6, none⟩ = some (.int .i64 spos) := fun w' h => hsc w' ((hNw.trans (h.mono hNw.size)).block sb hsb) 6 _ rfl
        have A7 : ∀ w', Below w2.heap.size w2 w' → w'.cell? ⟨sb, off + i * 10 + 7, none⟩ = some (.int .u64 sl) := fun w' h => hsc w' ((hNw.trans (h.mono hNw.size)).block sb hsb) 7 _ rfl
        have A8 : ∀ w', Below w2.heap.size w2 w' → w'.cell? ⟨sb, off + i * 10 + 8, none⟩ = some (.int .u64 sr) := fun w' h => hsc w' ((hNw.trans (h.mono hNw.size)).block sb hsb) 8 _ rfl
        have A9 : ∀ w', Below w2.heap.size w2 w' → w'.cell? ⟨sb, off + i * 10 + 9, none⟩ = some (.string (str sway)) := fun w' h => hsc w' ((hNw.trans (h.mono hNw.size)).block sb hsb) 9 _ rfl
        have N0 : ∀ w', Below w2.heap.size w2 w' → w'.cell? ⟨nb, 0, none⟩ = some (.int .i64 yk) := fun w' h => ((kn.below h kn.lt).cell 0).trans rfl
        have N1 : ∀ w', Below w2.heap.size w2 w' → w'.cell? ⟨nb, 1, none⟩ = some (.string (str ykey)) := fun w' h => ((kn.below h kn.lt).cell 1).trans rfl
        have N2 : ∀ w', Below w2.heap.size w2 w' → w'.cell? ⟨nb, 2, none⟩ = some (.string (str yval)) := fun w' h => ((kn.below h kn.lt).cell 2).trans rfl
        have N3 : ∀ w', Below w2.heap.size w2 w' → w'.cell? ⟨nb, 3, none⟩ = some (.int .i64 ypos) := fun w' h => ((kn.below h kn.lt).cell 3).trans rfl
        have N4 : ∀ w', Below w2.heap.size w2 w' → w'.cell? ⟨nb, 4, none⟩ = some (.int .u64 yl) := fun w' h => ((kn.below h kn.lt).cell 4).trans rfl
        have N5 : ∀ w', Below w2.heap.size w2 w' → w'.cell? ⟨nb, 5, none⟩ = some (.int .u64 yr) := fun w' h => ((kn.below h kn.lt).cell 5).trans rfl
        have KW := fun w => swapped_any ⟨yk, ykey, yval, ypos, yl, yr⟩ ⟨sk, skey, sval, spos, sl, sr⟩ sfr sa st sway w HYO.out hix.hn hix.ht
        simp only [Nd.v] at KW
        have bw2 : Below w2.heap.size w2 w2 := Below.refl _ _
        have bd : Below w2.heap.size w2 w2.drew := (Below.refl _ _).drew
        have hsl : sb < w2.heap.size := Nat.lt_of_lt_of_le hsb hNw.size
        go_upto_region 19 with fail
        go_cut [15] (fun xv wx => SwapAt w2 xv wx)
        case first =>
          refine wp_region_held (S := fun w' => Below w2.heap.size w2 w') (by kernel_rfl) ?_
          refine wpAnyH_take (i := 0) (v := ?_) rfl (by kernel_rfl) (by kernel_rfl) (by kernel_rfl) (fun _ _ _ h => h) (Or.inl ⟨by kernel_rfl, ?_⟩) (by assumption) ?_
          rotate_left
          · intro w' hSw
            have y_N0 := N0 _ hSw
            have y_N1 := N1 _ hSw
            have y_N2 := N2 _ hSw
            have y_N3 := N3 _ hSw
            have y_N4 := N4 _ hSw
            have y_N5 := N5 _ hSw
            have y_A0 := A0 _ hSw
            have y_A1 := A1 _ hSw
            have y_A2 := A2 _ hSw
            have y_A3 := A3 _ hSw
            have y_A4 := A4 _ hSw
            have y_A5 := A5 _ hSw
            have y_A6 := A6 _ hSw
            have y_A7 := A7 _ hSw
            have y_A8 := A8 _ hSw
            have y_A9 := A9 _ hSw
            go_simp
            try (with_reducible rfl)
          simp only [Act.put, List.getElem_toArray, List.getElem_cons_succ, List.getElem_cons_zero, List.setIfInBounds_toArray, List.set_cons_zero, List.set_cons_succ]
          refine wpAnyH_take (i := 1) (v := ?_) rfl (by kernel_rfl) (by kernel_rfl) (by kernel_rfl) (fun _ _ _ h => h) (Or.inl ⟨by kernel_rfl, ?_⟩) (by assumption) ?_
          rotate_left
          · intro w' hSw
            have y_N0 := N0 _ hSw
            have y_N1 := N1 _ hSw
            have y_N2 := N2 _ hSw
            have y_N3 := N3 _ hSw
            have y_N4 := N4 _ hSw
            have y_N5 := N5 _ hSw
            have y_A0 := A0 _ hSw
            have y_A1 := A1 _ hSw
            have y_A2 := A2 _ hSw
            have y_A3 := A3 _ hSw
            have y_A4 := A4 _ hSw
            have y_A5 := A5 _ hSw
            have y_A6 := A6 _ hSw
            have y_A7 := A7 _ hSw
            have y_A8 := A8 _ hSw
            have y_A9 := A9 _ hSw
            go_simp
            try (with_reducible rfl)
          simp only [Act.put, List.getElem_toArray, List.getElem_cons_succ, List.getElem_cons_zero, List.setIfInBounds_toArray, List.set_cons_zero, List.set_cons_succ]
          refine wpAnyH_take (i := 2) (v := ?_) rfl (by kernel_rfl) (by kernel_rfl) (by kernel_rfl) (fun _ _ _ h => h) (Or.inl ⟨by kernel_rfl, ?_⟩) (by assumption) ?_
          rotate_left
          · intro w' hSw
            have y_N0 := N0 _ hSw
            have y_N1 := N1 _ hSw
            have y_N2 := N2 _ hSw
            have y_N3 := N3 _ hSw
            have y_N4 := N4 _ hSw
            have y_N5 := N5 _ hSw
            have y_A0 := A0 _ hSw
            have y_A1 := A1 _ hSw
            have y_A2 := A2 _ hSw
            have y_A3 := A3 _ hSw
            have y_A4 := A4 _ hSw
            have y_A5 := A5 _ hSw
            have y_A6 := A6 _ hSw
            have y_A7 := A7 _ hSw
            have y_A8 := A8 _ hSw
            have y_A9 := A9 _ hSw
            go_simp
            try (with_reducible rfl)
          simp only [Act.put, List.getElem_toArray, List.getElem_cons_succ, List.getElem_cons_zero, List.setIfInBounds_toArray, List.set_cons_zero, List.set_cons_succ]
          refine wpAnyH_take (i := 3) (v := ?_) rfl (by kernel_rfl) (by kernel_rfl) (by kernel_rfl) (fun _ _ _ h => h) (Or.inl ⟨by kernel_rfl, ?_⟩) (by assumption) ?_
          rotate_left
          · intro w' hSw
            have y_N0 := N0 _ hSw
            have y_N1 := N1 _ hSw
            have y_N2 := N2 _ hSw
            have y_N3 := N3 _ hSw
            have y_N4 := N4 _ hSw
            have y_N5 := N5 _ hSw
            have y_A0 := A0 _ hSw
            have y_A1 := A1 _ hSw
            have y_A2 := A2 _ hSw
            have y_A3 := A3 _ hSw
            have y_A4 := A4 _ hSw
            have y_A5 := A5 _ hSw
            have y_A6 := A6 _ hSw
            have y_A7 := A7 _ hSw
            have y_A8 := A8 _ hSw
            have y_A9 := A9 _ hSw
            go_simp
            try (with_reducible rfl)
          simp only [Act.put, List.getElem_toArray, List.getElem_cons_succ, List.getElem_cons_zero, List.setIfInBounds_toArray, List.set_cons_zero, List.set_cons_succ]
          refine wpAnyH_take (i := 4) (v := ?_) rfl (by kernel_rfl) (by kernel_rfl) (by kernel_rfl) (fun _ _ _ h => h) (Or.inl ⟨by kernel_rfl, ?_⟩) (by assumption) ?_
          rotate_left
          · intro w' hSw
            have y_N0 := N0 _ hSw
            have y_N1 := N1 _ hSw
            have y_N2 := N2 _ hSw
            have y_N3 := N3 _ hSw
            have y_N4 := N4 _ hSw
            have y_N5 := N5 _ hSw
            have y_A0 := A0 _ hSw
            have y_A1 := A1 _ hSw
            have y_A2 := A2 _ hSw
            have y_A3 := A3 _ hSw
            have y_A4 := A4 _ hSw
            have y_A5 := A5 _ hSw
            have y_A6 := A6 _ hSw
            have y_A7 := A7 _ hSw
            have y_A8 := A8 _ hSw
            have y_A9 := A9 _ hSw
            go_simp
            try (with_reducible rfl)
          simp only [Act.put, List.getElem_toArray, List.getElem_cons_succ, List.getElem_cons_zero, List.setIfInBounds_toArray, List.set_cons_zero, List.set_cons_succ]
          refine wpAnyH_ready (rs := [5, 6]) (by kernel_rfl) (by simp) ?_
          refine AllReadyH.cons rfl (fun K hK => ?_) (AllReadyH.cons rfl (fun K hK => ?_) AllReadyH.nil)
          · go_simp
            refine (KW _).mono ?_
            rintro e w3 ⟨z, rfl, hz, b3⟩
            have hN3 : Below w2.heap.size w2 w3 := bel_in bd b3
            obtain ⟨zk, zkey, zval, zpos, zl, zr⟩ := z
            simp only [Nd.v]
            refine hK.out _ _ hN3 (fun _ => ?_)
            clear hK K
            try simp only [Act.put, List.getElem_toArray, List.getElem_cons_succ, List.getElem_cons_zero, List.setIfInBounds_toArray, List.set_cons_zero, List.set_cons_succ]
            refine wpAnyH_ready (rs := [6]) (by kernel_rfl) (by simp) ?_
            refine AllReadyH.cons rfl (fun K hK => ?_) AllReadyH.nil
            go_simp
            refine hK.out _ _ (by first | exact bel_al hN3 _ | exact (bel_al hN3 _).drew) (fun _ => ?_)
            clear hK K
            try simp only [Act.put, List.getElem_toArray, List.getElem_cons_succ, List.getElem_cons_zero, List.setIfInBounds_toArray, List.set_cons_zero, List.set_cons_succ]
            refine wpAnyH_ready (rs := [7]) (by kernel_rfl) (by simp) ?_
            refine AllReadyH.cons rfl (fun K hK => ?_) AllReadyH.nil
            go_simp
            refine hK.out _ _ (by first | exact bel_al hN3 _ | exact (bel_al hN3 _).drew) (fun _ => ?_)
            clear hK K
            try simp only [Act.put, List.getElem_toArray, List.getElem_cons_succ, List.getElem_cons_zero, List.setIfInBounds_toArray, List.set_cons_zero, List.set_cons_succ]
            refine wpAnyH_done (by kernel_rfl) ?_ _
            go_wp2
            go_meet
            exact ⟨⟨zk, zkey, zval, zpos, zl, zr⟩, _, hz, rfl, hN3.size, Blk.new w3 _ _, bel_al hN3 _⟩
          · go_simp
            have bz : Below w2.heap.size w2 (w2.alloc zeroN).drew := (bel_al bw2 _).drew
            refine hK.out _ _ bz (fun _ => ?_)
            clear hK K
            try simp only [Act.put, List.getElem_toArray, List.getElem_cons_succ, List.getElem_cons_zero, List.setIfInBounds_toArray, List.set_cons_zero, List.set_cons_succ]
            refine wpAnyH_ready (rs := [5]) (by kernel_rfl) (by simp) ?_
            refine AllReadyH.cons rfl (fun K hK => ?_) AllReadyH.nil
            go_simp
            refine (KW _).mono ?_
            rintro e w3 ⟨z, rfl, hz, b3⟩
            have hN3 : Below w2.heap.size w2 w3 := bel_in bz b3
            obtain ⟨zk, zkey, zval, zpos, zl, zr⟩ := z
            simp only [Nd.v]
            obtain ⟨ob1, ⟨oc0, oc1, oc2, oc3, oc4, oc5⟩, ⟨of0, of1, of2, of3, of4, of5⟩, olt⟩ := own6 b3
            refine hK.out _ _ hN3 (fun _ => ?_)
            clear hK K
            try simp only [Act.put, List.getElem_toArray, List.getElem_cons_succ, List.getElem_cons_zero, List.setIfInBounds_toArray, List.set_cons_zero, List.set_cons_succ]
            refine wpAnyH_ready (rs := [7]) (by kernel_rfl) (by simp) ?_
            refine AllReadyH.cons rfl (fun K hK => ?_) AllReadyH.nil
            go_simp
            refine hK.out _ _ (six_bel hN3 (Nat.le_refl _) _ _ _ _ _ _) (fun _ => ?_)
            clear hK K
            try simp only [Act.put, List.getElem_toArray, List.getElem_cons_succ, List.getElem_cons_zero, List.setIfInBounds_toArray, List.set_cons_zero, List.set_cons_succ]
            refine wpAnyH_done (by kernel_rfl) ?_ _
            go_wp2
            go_meet
            exact ⟨⟨zk, zkey, zval, zpos, zl, zr⟩, _, hz, rfl, Nat.le_refl _, six_blk ob1 _ _ _ _ _ _, six_bel hN3 (Nat.le_refl _) _ _ _ _ _ _⟩
        case rest =>
          obtain ⟨z, xb, hz, rfl, hxb, kx4, bx⟩ := hcut
          obtain ⟨zk, zkey, zval, zpos, zl, zr⟩ := z
          have HL4 : Hid (LawAt wN bt bu fb mb wd o0 q0 la cap i L o bar n wc) := LawAt.next HL2.out bx
          have kn4 := kn.below bx kn.lt
          have kg4 := kg2.below bx kg2.lt
          have hNw4 : Below wN.heap.size wN wc := HL4.out.bel
          clear A0 A1 A2 A3 A4 A5 A6 A7 A8 A9 N0 N1 N2 N3 N4 N5 KW bw2 bd HL2 kg2 kn bx hNw
          generalize wc = w4 at *
          have A0 : ∀ w', (Kt w4 w' ∧ Below wN.heap.size wN w') → w'.cell? ⟨sb, off + i * 10, none⟩ = some (.int .i64 sfr) := fun w' h => hsc w' (h.2.block sb hsb) 0 _ rfl
          have G0 : ∀ w', (Kt w4 w' ∧ Below wN.heap.size wN w') → w'.cell? ⟨g, 0, none⟩ = some (.string (str way)) := fun w' h => ((h.1.same _ _ _ kg4 (by decide) (by decide)).cell 0).trans cg
          have N0 : ∀ w', (Kt w4 w' ∧ Below wN.heap.size wN w') → w'.cell? ⟨nb, 0, none⟩ = some (.int .i64 yk) := fun w' h => ((h.1.same _ _ _ kn4 (by decide) (by decide)).cell 0).trans rfl
          have N1 : ∀ w', (Kt w4 w' ∧ Below wN.heap.size wN w') → w'.cell? ⟨nb, 1, none⟩ = some (.string (str ykey)) := fun w' h => ((h.1.same _ _ _ kn4 (by decide) (by decide)).cell 1).trans rfl
          have N2 : ∀ w', (Kt w4 w' ∧ Below wN.heap.size wN w') → w'.cell? ⟨nb, 2, none⟩ = some (.string (str yval)) := fun w' h => ((h.1.same _ _ _ kn4 (by decide) (by decide)).cell 2).trans rfl
          have N3 : ∀ w', (Kt w4 w' ∧ Below wN.heap.size wN w') → w'.cell? ⟨nb, 3, none⟩ = some (.int .i64 ypos) := fun w' h => ((h.1.same _ _ _ kn4 (by decide) (by decide)).cell 3).trans rfl
          have N4 : ∀ w', (Kt w4 w' ∧ Below wN.heap.size wN w') → w'.cell? ⟨nb, 4, none⟩ = some (.int .u64 yl) := fun w' h => ((h.1.same _ _ _ kn4 (by decide) (by decide)).cell 4).trans rfl
          have N5 : ∀ w', (Kt w4 w' ∧ Below wN.heap.size wN w') → w'.cell? ⟨nb, 5, none⟩ = some (.int .u64 yr) := fun w' h => ((h.1.same _ _ _ kn4 (by decide) (by decide)).cell 5).trans rfl
          have Z0 : ∀ w', (Kt w4 w' ∧ Below wN.heap.size wN w') → w'.cell? ⟨xb, 0, none⟩ = some (.int .i64 zk) := fun w' h => ((h.1.same _ _ _ kx4 (by decide) (by decide)).cell 0).trans rfl
          have Z1 : ∀ w', (Kt w4 w' ∧ Below wN.heap.size wN w') → w'.cell? ⟨xb, 1, none⟩ = some (.string (str zkey)) := fun w' h => ((h.1.same _ _ _ kx4 (by decide) (by decide)).cell 1).trans rfl
          have Z2 : ∀ w', (Kt w4 w' ∧ Below wN.heap.size wN w') → w'.cell? ⟨xb, 2, none⟩ = some (.string (str zval)) := fun w' h => ((h.1.same _ _ _ kx4 (by decide) (by decide)).cell 2).trans rfl
          have Z3 : ∀ w', (Kt w4 w' ∧ Below wN.heap.size wN w') → w'.cell? ⟨xb, 3, none⟩ = some (.int .i64 zpos) := fun w' h => ((h.1.same _ _ _ kx4 (by decide) (by decide)).cell 3).trans rfl
          have Z4 : ∀ w', (Kt w4 w' ∧ Below wN.heap.size wN w') → w'.cell? ⟨xb, 4, none⟩ = some (.int .u64 zl) := fun w' h => ((h.1.same _ _ _ kx4 (by decide) (by decide)).cell 4).trans rfl
          have Z5 : ∀ w', (Kt w4 w' ∧ Below wN.heap.size wN w') → w'.cell? ⟨xb, 5, none⟩ = some (.int .u64 zr) := fun w' h => ((h.1.same _ _ _ kx4 (by decide) (by decide)).cell 5).trans rfl
          have bd : Below w4.heap.size w4 w4.drew := (Below.refl _ _).drew
          have kd : Kt w4 w4.drew := Kt.of_below bd
          have hS4 : Kt w4 w4.drew ∧ Below wN.heap.size wN w4.drew := ⟨kd, hNw4.drew⟩
          have KG := fun x hx => LawAt.said (LawAt.next HL4.out bd) (by omega) HLL.out HST.out ⟨zk, zkey, zval, zpos, zl, zr⟩ hz x hx
          simp only [Nd.v] at KG
          have HYZ : Hid ((⟨yk, ykey, yval, ypos, yl, yr⟩ : Nd) = toldO wd s) := HY.out.symm
          go_upto_region 20 with fail
          go_cut [117] (fun tv wx => (tv = .bool false ∧ ∃ L5 o5 bar5 n5, n5 ≤ 2047 ∧ LawAt wN bt bu fb mb wd o0 q0 la cap (i + 1) L5 o5 bar5 n5 wx ∧ ∃ a0 a1 a2 a3 a4 a5 : Value, Blk wx nb #[a0, a1, a2, a3, a4, a5] 28) ∨ (tv = .bool true ∧ ClashAt wN wx wd way g cs nb xb ⟨yk, ykey, yval, ypos, yl, yr⟩ ⟨zk, zkey, zval, zpos, zl, zr⟩))
          case first =>
            refine wp_region_held (S := fun w' => Kt w4 w' ∧ Below wN.heap.size wN w') (by kernel_rfl) ?_
            refine wpAnyH_take (i := 0) (v := ?_) rfl (by kernel_rfl) (by kernel_rfl) (by kernel_rfl) (fun _ _ _ h => h) (Or.inl ⟨by kernel_rfl, ?_⟩) (by assumption) ?_
            rotate_left
            · intro w' hSw
              have y_G0 := G0 _ hSw
              have y_N0 := N0 _ hSw
              have y_N1 := N1 _ hSw
              have y_N2 := N2 _ hSw
              have y_N3 := N3 _ hSw
              have y_N4 := N4 _ hSw
              have y_N5 := N5 _ hSw
              have y_Z0 := Z0 _ hSw
              have y_Z1 := Z1 _ hSw
              have y_Z2 := Z2 _ hSw
              have y_Z3 := Z3 _ hSw
              have y_Z4 := Z4 _ hSw
              have y_Z5 := Z5 _ hSw
              have y_A0 := A0 _ hSw
              go_simp
              try (with_reducible rfl)
            simp only [Act.put, List.getElem_toArray, List.getElem_cons_succ, List.getElem_cons_zero, List.setIfInBounds_toArray, List.set_cons_zero, List.set_cons_succ]
            refine wpAnyH_take (i := 1) (v := ?_) rfl (by kernel_rfl) (by kernel_rfl) (by kernel_rfl) (fun _ _ _ h => h) (Or.inl ⟨by kernel_rfl, ?_⟩) (by assumption) ?_
            rotate_left
            · intro w' hSw
              have y_G0 := G0 _ hSw
              have y_N0 := N0 _ hSw
              have y_N1 := N1 _ hSw
              have y_N2 := N2 _ hSw
              have y_N3 := N3 _ hSw
              have y_N4 := N4 _ hSw
              have y_N5 := N5 _ hSw
              have y_Z0 := Z0 _ hSw
              have y_Z1 := Z1 _ hSw
              have y_Z2 := Z2 _ hSw
              have y_Z3 := Z3 _ hSw
              have y_Z4 := Z4 _ hSw
              have y_Z5 := Z5 _ hSw
              have y_A0 := A0 _ hSw
              go_simp
              try (with_reducible rfl)
            simp only [Act.put, List.getElem_toArray, List.getElem_cons_succ, List.getElem_cons_zero, List.setIfInBounds_toArray, List.set_cons_zero, List.set_cons_succ]
            refine wpAnyH_take (i := 2) (v := ?_) rfl (by kernel_rfl) (by kernel_rfl) (by kernel_rfl) (fun _ _ _ h => h) (Or.inl ⟨by kernel_rfl, ?_⟩) (by assumption) ?_
            rotate_left
            · intro w' hSw
              have y_G0 := G0 _ hSw
              have y_N0 := N0 _ hSw
              have y_N1 := N1 _ hSw
              have y_N2 := N2 _ hSw
              have y_N3 := N3 _ hSw
              have y_N4 := N4 _ hSw
              have y_N5 := N5 _ hSw
              have y_Z0 := Z0 _ hSw
              have y_Z1 := Z1 _ hSw
              have y_Z2 := Z2 _ hSw
              have y_Z3 := Z3 _ hSw
              have y_Z4 := Z4 _ hSw
              have y_Z5 := Z5 _ hSw
              have y_A0 := A0 _ hSw
              go_simp
              try (with_reducible rfl)
            simp only [Act.put, List.getElem_toArray, List.getElem_cons_succ, List.getElem_cons_zero, List.setIfInBounds_toArray, List.set_cons_zero, List.set_cons_succ]
            refine wpAnyH_take (i := 3) (v := ?_) rfl (by kernel_rfl) (by kernel_rfl) (by kernel_rfl) (fun _ _ _ h => h) (Or.inl ⟨by kernel_rfl, ?_⟩) (by assumption) ?_
            rotate_left
            · intro w' hSw
              have y_G0 := G0 _ hSw
              have y_N0 := N0 _ hSw
              have y_N1 := N1 _ hSw
              have y_N2 := N2 _ hSw
              have y_N3 := N3 _ hSw
              have y_N4 := N4 _ hSw
              have y_N5 := N5 _ hSw
              have y_Z0 := Z0 _ hSw
              have y_Z1 := Z1 _ hSw
              have y_Z2 := Z2 _ hSw
              have y_Z3 := Z3 _ hSw
              have y_Z4 := Z4 _ hSw
              have y_Z5 := Z5 _ hSw
              have y_A0 := A0 _ hSw
              go_simp
              try (with_reducible rfl)
            simp only [Act.put, List.getElem_toArray, List.getElem_cons_succ, List.getElem_cons_zero, List.setIfInBounds_toArray, List.set_cons_zero, List.set_cons_succ]
            refine wpAnyH_take (i := 4) (v := ?_) rfl (by kernel_rfl) (by kernel_rfl) (by kernel_rfl) (fun _ _ _ h => h) (Or.inl ⟨by kernel_rfl, ?_⟩) (by assumption) ?_
            rotate_left
            · intro w' hSw
              have y_G0 := G0 _ hSw
              have y_N0 := N0 _ hSw
              have y_N1 := N1 _ hSw
              have y_N2 := N2 _ hSw
              have y_N3 := N3 _ hSw
              have y_N4 := N4 _ hSw
              have y_N5 := N5 _ hSw
              have y_Z0 := Z0 _ hSw
              have y_Z1 := Z1 _ hSw
              have y_Z2 := Z2 _ hSw
              have y_Z3 := Z3 _ hSw
              have y_Z4 := Z4 _ hSw
              have y_Z5 := Z5 _ hSw
              have y_A0 := A0 _ hSw
              go_simp
              try (with_reducible rfl)
            simp only [Act.put, List.getElem_toArray, List.getElem_cons_succ, List.getElem_cons_zero, List.setIfInBounds_toArray, List.set_cons_zero, List.set_cons_succ]
            refine wpAnyH_take (i := 5) (v := ?_) rfl (by kernel_rfl) (by kernel_rfl) (by kernel_rfl) (fun _ _ _ h => h) (Or.inl ⟨by kernel_rfl, ?_⟩) (by assumption) ?_
            rotate_left
            · intro w' hSw
              have y_G0 := G0 _ hSw
              have y_N0 := N0 _ hSw
              have y_N1 := N1 _ hSw
              have y_N2 := N2 _ hSw
              have y_N3 := N3 _ hSw
              have y_N4 := N4 _ hSw
              have y_N5 := N5 _ hSw
              have y_Z0 := Z0 _ hSw
              have y_Z1 := Z1 _ hSw
              have y_Z2 := Z2 _ hSw
              have y_Z3 := Z3 _ hSw
              have y_Z4 := Z4 _ hSw
              have y_Z5 := Z5 _ hSw
              have y_A0 := A0 _ hSw
              go_simp
              try (with_reducible rfl)
            simp only [Act.put, List.getElem_toArray, List.getElem_cons_succ, List.getElem_cons_zero, List.setIfInBounds_toArray, List.set_cons_zero, List.set_cons_succ]
            refine wpAnyH_take (i := 8) (v := ?_) rfl (by kernel_rfl) (by kernel_rfl) (by kernel_rfl) (fun _ _ _ h => h) (Or.inl ⟨by kernel_rfl, ?_⟩) (by assumption) ?_
            rotate_left
            · intro w' hSw
              have y_G0 := G0 _ hSw
              have y_N0 := N0 _ hSw
              have y_N1 := N1 _ hSw
              have y_N2 := N2 _ hSw
              have y_N3 := N3 _ hSw
              have y_N4 := N4 _ hSw
              have y_N5 := N5 _ hSw
              have y_Z0 := Z0 _ hSw
              have y_Z1 := Z1 _ hSw
              have y_Z2 := Z2 _ hSw
              have y_Z3 := Z3 _ hSw
              have y_Z4 := Z4 _ hSw
              have y_Z5 := Z5 _ hSw
              have y_A0 := A0 _ hSw
              go_simp
              try (with_reducible rfl)
            simp only [Act.put, List.getElem_toArray, List.getElem_cons_succ, List.getElem_cons_zero, List.setIfInBounds_toArray, List.set_cons_zero, List.set_cons_succ]
            refine wpAnyH_take (i := 9) (v := ?_) rfl (by kernel_rfl) (by kernel_rfl) (by kernel_rfl) (fun _ _ _ h => h) (Or.inl ⟨by kernel_rfl, ?_⟩) (by assumption) ?_
            rotate_left
            · intro w' hSw
              have y_G0 := G0 _ hSw
              have y_N0 := N0 _ hSw
              have y_N1 := N1 _ hSw
              have y_N2 := N2 _ hSw
              have y_N3 := N3 _ hSw
              have y_N4 := N4 _ hSw
              have y_N5 := N5 _ hSw
              have y_Z0 := Z0 _ hSw
              have y_Z1 := Z1 _ hSw
              have y_Z2 := Z2 _ hSw
              have y_Z3 := Z3 _ hSw
              have y_Z4 := Z4 _ hSw
              have y_Z5 := Z5 _ hSw
              have y_A0 := A0 _ hSw
              go_simp
              try (with_reducible rfl)
            simp only [Act.put, List.getElem_toArray, List.getElem_cons_succ, List.getElem_cons_zero, List.setIfInBounds_toArray, List.set_cons_zero, List.set_cons_succ]
            refine wpAnyH_take (i := 10) (v := ?_) rfl (by kernel_rfl) (by kernel_rfl) (by kernel_rfl) (fun _ _ _ h => h) (Or.inl ⟨by kernel_rfl, ?_⟩) (by assumption) ?_
            rotate_left
            · intro w' hSw
              have y_G0 := G0 _ hSw
              have y_N0 := N0 _ hSw
              have y_N1 := N1 _ hSw
              have y_N2 := N2 _ hSw
              have y_N3 := N3 _ hSw
              have y_N4 := N4 _ hSw
              have y_N5 := N5 _ hSw
              have y_Z0 := Z0 _ hSw
              have y_Z1 := Z1 _ hSw
              have y_Z2 := Z2 _ hSw
              have y_Z3 := Z3 _ hSw
              have y_Z4 := Z4 _ hSw
              have y_Z5 := Z5 _ hSw
              have y_A0 := A0 _ hSw
              go_simp
              try (with_reducible rfl)
            simp only [Act.put, List.getElem_toArray, List.getElem_cons_succ, List.getElem_cons_zero, List.setIfInBounds_toArray, List.set_cons_zero, List.set_cons_succ]
            refine wpAnyH_take (i := 11) (v := ?_) rfl (by kernel_rfl) (by kernel_rfl) (by kernel_rfl) (fun _ _ _ h => h) (Or.inl ⟨by kernel_rfl, ?_⟩) (by assumption) ?_
            rotate_left
            · intro w' hSw
              have y_G0 := G0 _ hSw
              have y_N0 := N0 _ hSw
              have y_N1 := N1 _ hSw
              have y_N2 := N2 _ hSw
              have y_N3 := N3 _ hSw
              have y_N4 := N4 _ hSw
              have y_N5 := N5 _ hSw
              have y_Z0 := Z0 _ hSw
              have y_Z1 := Z1 _ hSw
              have y_Z2 := Z2 _ hSw
              have y_Z3 := Z3 _ hSw
              have y_Z4 := Z4 _ hSw
              have y_Z5 := Z5 _ hSw
              have y_A0 := A0 _ hSw
              go_simp
              try (with_reducible rfl)
            simp only [Act.put, List.getElem_toArray, List.getElem_cons_succ, List.getElem_cons_zero, List.setIfInBounds_toArray, List.set_cons_zero, List.set_cons_succ]
            refine wpAnyH_ready (rs := [6]) (by kernel_rfl) (by simp) ?_
            refine AllReadyH.cons rfl (fun K hK => ?_) AllReadyH.nil
            go_simp
            refine (pick_any sfr 50 _ HSfr.out (by omega)).mono ?_
            rintro e w5 ⟨⟨p, rfl, hp0, hp1⟩, rfl⟩
            refine hK.out _ _ hS4 (fun _ => ?_)
            clear hK K
            try simp only [Act.put, List.getElem_toArray, List.getElem_cons_succ, List.getElem_cons_zero, List.setIfInBounds_toArray, List.set_cons_zero, List.set_cons_succ]
            have wsp : IntKind.i64.wrap (1 + p) = 1 + p := by simp [IntKind.wrap, IntKind.min, IntKind.max, IntKind.signed, IntKind.bits]; omega
            refine wpAnyH_take (i := 7) (v := ?_) rfl (by kernel_rfl) (by kernel_rfl) (by kernel_rfl) (fun _ _ _ h => h) (Or.inl ⟨by kernel_rfl, ?_⟩) (by assumption) ?_
            rotate_left
            · intro w' hSw
              have y_G0 := G0 _ hSw
              have y_N0 := N0 _ hSw
              have y_N1 := N1 _ hSw
              have y_N2 := N2 _ hSw
              have y_N3 := N3 _ hSw
              have y_N4 := N4 _ hSw
              have y_N5 := N5 _ hSw
              have y_Z0 := Z0 _ hSw
              have y_Z1 := Z1 _ hSw
              have y_Z2 := Z2 _ hSw
              have y_Z3 := Z3 _ hSw
              have y_Z4 := Z4 _ hSw
              have y_Z5 := Z5 _ hSw
              have y_A0 := A0 _ hSw
              go_simp
              try (with_reducible rfl)
            simp only [Act.put, List.getElem_toArray, List.getElem_cons_succ, List.getElem_cons_zero, List.setIfInBounds_toArray, List.set_cons_zero, List.set_cons_succ]
            refine wpAnyH_ready (rs := [12]) (by kernel_rfl) (by simp) ?_
            refine AllReadyH.cons rfl (fun K hK => ?_) AllReadyH.nil
            go_simp
            refine (KG (1 + p) (by omega)).mono ?_
            rintro e w5 ⟨kt5, code, rfl, hcase⟩
            have bN5 : Below wN.heap.size wN w5 := by
              rcases hcase with ⟨_, _, hh⟩ | ⟨_, hh, _⟩
              · exact hh.bel
              · exact hh
            have hS5 : Kt w4 w5 ∧ Below wN.heap.size wN w5 := ⟨kd.trans kt5, bN5⟩
            refine hK.out _ _ hS5 (fun _ => ?_)
            clear hK K KG wsp
            try simp only [Act.put, List.getElem_toArray, List.getElem_cons_succ, List.getElem_cons_zero, List.setIfInBounds_toArray, List.set_cons_zero, List.set_cons_succ]
            have kn5 := hS5.1.same _ _ _ kn4 (by decide) (by decide)
            rcases hcase with ⟨hc, bar', HL5⟩ | ⟨rfl, _, heq, hcl⟩
            · have hcb : (code == 0) = false := by simpa using hc
              refine wpAnyH_take (i := 13) (v := .bool false) rfl (by kernel_rfl) (by kernel_rfl) (by kernel_rfl) (fun _ _ _ h => h) (Or.inl ⟨by kernel_rfl, ?_⟩) (by assumption) ?_
              · intro w' hSw
                have y_G0 := G0 _ hSw
                have y_N0 := N0 _ hSw
                have y_N1 := N1 _ hSw
                have y_N2 := N2 _ hSw
                have y_N3 := N3 _ hSw
                have y_N4 := N4 _ hSw
                have y_N5 := N5 _ hSw
                have y_Z0 := Z0 _ hSw
                have y_Z1 := Z1 _ hSw
                have y_Z2 := Z2 _ hSw
                have y_Z3 := Z3 _ hSw
                have y_Z4 := Z4 _ hSw
                have y_Z5 := Z5 _ hSw
                have y_A0 := A0 _ hSw
                go_simp
                try (with_reducible rfl)
              simp only [Act.put, List.getElem_toArray, List.getElem_cons_succ, List.getElem_cons_zero, List.setIfInBounds_toArray, List.set_cons_zero, List.set_cons_succ]
              refine wpAnyH_take (i := 14) (v := .bool false) rfl (by kernel_rfl) (by kernel_rfl) (by kernel_rfl) (fun _ _ _ h => h) (Or.inl ⟨by kernel_rfl, ?_⟩) (by assumption) ?_
              · intro w' hSw
                have y_G0 := G0 _ hSw
                have y_N0 := N0 _ hSw
                have y_N1 := N1 _ hSw
                have y_N2 := N2 _ hSw
                have y_N3 := N3 _ hSw
                have y_N4 := N4 _ hSw
                have y_N5 := N5 _ hSw
                have y_Z0 := Z0 _ hSw
                have y_Z1 := Z1 _ hSw
                have y_Z2 := Z2 _ hSw
                have y_Z3 := Z3 _ hSw
                have y_Z4 := Z4 _ hSw
                have y_Z5 := Z5 _ hSw
                have y_A0 := A0 _ hSw
                go_simp
                try (with_reducible rfl)
              simp only [Act.put, List.getElem_toArray, List.getElem_cons_succ, List.getElem_cons_zero, List.setIfInBounds_toArray, List.set_cons_zero, List.set_cons_succ]
              refine wpAnyH_take (i := 15) (v := undef) rfl (by kernel_rfl) (by kernel_rfl) (by kernel_rfl) (fun _ _ _ h => h) (Or.inr ⟨by kernel_rfl, rfl⟩) (by assumption) ?_
              simp only [Act.put, List.getElem_toArray, List.getElem_cons_succ, List.getElem_cons_zero, List.setIfInBounds_toArray, List.set_cons_zero, List.set_cons_succ]
              refine wpAnyH_take (i := 16) (v := undef) rfl (by kernel_rfl) (by kernel_rfl) (by kernel_rfl) (fun _ _ _ h => h) (Or.inr ⟨by kernel_rfl, rfl⟩) (by assumption) ?_
              simp only [Act.put, List.getElem_toArray, List.getElem_cons_succ, List.getElem_cons_zero, List.setIfInBounds_toArray, List.set_cons_zero, List.set_cons_succ]
              refine wpAnyH_take (i := 17) (v := undef) rfl (by kernel_rfl) (by kernel_rfl) (by kernel_rfl) (fun _ _ _ h => h) (Or.inr ⟨by kernel_rfl, rfl⟩) (by assumption) ?_
              simp only [Act.put, List.getElem_toArray, List.getElem_cons_succ, List.getElem_cons_zero, List.setIfInBounds_toArray, List.set_cons_zero, List.set_cons_succ]
              refine wpAnyH_take (i := 18) (v := .bool false) rfl (by kernel_rfl) (by kernel_rfl) (by kernel_rfl) (fun _ _ _ h => h) (Or.inl ⟨by kernel_rfl, ?_⟩) (by assumption) ?_
              · intro w' hSw
                have y_G0 := G0 _ hSw
                have y_N0 := N0 _ hSw
                have y_N1 := N1 _ hSw
                have y_N2 := N2 _ hSw
                have y_N3 := N3 _ hSw
                have y_N4 := N4 _ hSw
                have y_N5 := N5 _ hSw
                have y_Z0 := Z0 _ hSw
                have y_Z1 := Z1 _ hSw
                have y_Z2 := Z2 _ hSw
                have y_Z3 := Z3 _ hSw
                have y_Z4 := Z4 _ hSw
                have y_Z5 := Z5 _ hSw
                have y_A0 := A0 _ hSw
                go_simp
                try (with_reducible rfl)
              simp only [Act.put, List.getElem_toArray, List.getElem_cons_succ, List.getElem_cons_zero, List.setIfInBounds_toArray, List.set_cons_zero, List.set_cons_succ]
              refine wpAnyH_done (by kernel_rfl) ?_ _
              go_wp2
              go_meet
              exact .inl ⟨rfl, _, _, _, _, hn, HL5, _, _, _, _, _, _, kn5⟩
            · refine wpAnyH_take (i := 13) (v := .bool true) rfl (by kernel_rfl) (by kernel_rfl) (by kernel_rfl) (fun _ _ _ h => h) (Or.inl ⟨by kernel_rfl, ?_⟩) (by assumption) ?_
              · intro w' hSw
                have y_G0 := G0 _ hSw
                have y_N0 := N0 _ hSw
                have y_N1 := N1 _ hSw
                have y_N2 := N2 _ hSw
                have y_N3 := N3 _ hSw
                have y_N4 := N4 _ hSw
                have y_N5 := N5 _ hSw
                have y_Z0 := Z0 _ hSw
                have y_Z1 := Z1 _ hSw
                have y_Z2 := Z2 _ hSw
                have y_Z3 := Z3 _ hSw
                have y_Z4 := Z4 _ hSw
                have y_Z5 := Z5 _ hSw
                have y_A0 := A0 _ hSw
                go_simp
                try (with_reducible rfl)
              simp only [Act.put, List.getElem_toArray, List.getElem_cons_succ, List.getElem_cons_zero, List.setIfInBounds_toArray, List.set_cons_zero, List.set_cons_succ]
              refine wpAnyH_take (i := 14) (v := .bool true) rfl (by kernel_rfl) (by kernel_rfl) (by kernel_rfl) (fun _ _ _ h => h) (Or.inl ⟨by kernel_rfl, ?_⟩) (by assumption) ?_
              · intro w' hSw
                have y_G0 := G0 _ hSw
                have y_N0 := N0 _ hSw
                have y_N1 := N1 _ hSw
                have y_N2 := N2 _ hSw
                have y_N3 := N3 _ hSw
                have y_N4 := N4 _ hSw
                have y_N5 := N5 _ hSw
                have y_Z0 := Z0 _ hSw
                have y_Z1 := Z1 _ hSw
                have y_Z2 := Z2 _ hSw
                have y_Z3 := Z3 _ hSw
                have y_Z4 := Z4 _ hSw
                have y_Z5 := Z5 _ hSw
                have y_A0 := A0 _ hSw
                go_simp
                try (with_reducible rfl)
              simp only [Act.put, List.getElem_toArray, List.getElem_cons_succ, List.getElem_cons_zero, List.setIfInBounds_toArray, List.set_cons_zero, List.set_cons_succ]
              refine wpAnyH_take (i := 15) (v := ?_) rfl (by kernel_rfl) (by kernel_rfl) (by kernel_rfl) (fun _ _ _ h => h) (Or.inl ⟨by kernel_rfl, ?_⟩) (by assumption) ?_
              rotate_left
              · intro w' hSw
                have y_G0 := G0 _ hSw
                have y_N0 := N0 _ hSw
                have y_N1 := N1 _ hSw
                have y_N2 := N2 _ hSw
                have y_N3 := N3 _ hSw
                have y_N4 := N4 _ hSw
                have y_N5 := N5 _ hSw
                have y_Z0 := Z0 _ hSw
                have y_Z1 := Z1 _ hSw
                have y_Z2 := Z2 _ hSw
                have y_Z3 := Z3 _ hSw
                have y_Z4 := Z4 _ hSw
                have y_Z5 := Z5 _ hSw
                have y_A0 := A0 _ hSw
                go_simp
                try (with_reducible rfl)
              simp only [Act.put, List.getElem_toArray, List.getElem_cons_succ, List.getElem_cons_zero, List.setIfInBounds_toArray, List.set_cons_zero, List.set_cons_succ]
              refine wpAnyH_take (i := 16) (v := ?_) rfl (by kernel_rfl) (by kernel_rfl) (by kernel_rfl) (fun _ _ _ h => h) (Or.inl ⟨by kernel_rfl, ?_⟩) (by assumption) ?_
              rotate_left
              · intro w' hSw
                have y_G0 := G0 _ hSw
                have y_N0 := N0 _ hSw
                have y_N1 := N1 _ hSw
                have y_N2 := N2 _ hSw
                have y_N3 := N3 _ hSw
                have y_N4 := N4 _ hSw
                have y_N5 := N5 _ hSw
                have y_Z0 := Z0 _ hSw
                have y_Z1 := Z1 _ hSw
                have y_Z2 := Z2 _ hSw
                have y_Z3 := Z3 _ hSw
                have y_Z4 := Z4 _ hSw
                have y_Z5 := Z5 _ hSw
                have y_A0 := A0 _ hSw
                go_simp
                try (with_reducible rfl)
              simp only [Act.put, List.getElem_toArray, List.getElem_cons_succ, List.getElem_cons_zero, List.setIfInBounds_toArray, List.set_cons_zero, List.set_cons_succ]
              by_cases hyz : (⟨zk, zkey, zval, zpos, zl, zr⟩ : Nd) = ⟨yk, ykey, yval, ypos, yl, yr⟩
              · obtain ⟨rfl, rfl, rfl, rfl, rfl, rfl⟩ : zk = yk ∧ zkey = ykey ∧ zval = yval ∧ zpos = ypos ∧ zl = yl ∧ zr = yr := by simpa using hyz
                obtain ⟨L5, o5, bar5, m5, hm5, HL5⟩ := heq HYZ.out
                have NE := neq_same (⟨zk, zkey, zval, zpos, zl, zr⟩ : Nd)
                simp only [Nd.v] at NE
                refine wpAnyH_take (i := 17) (v := .bool false) rfl (by kernel_rfl) (by kernel_rfl) (by kernel_rfl) (fun _ _ _ h => h) (Or.inl ⟨by kernel_rfl, ?_⟩) (by assumption) ?_
                · intro w' hSw
                  have y_G0 := G0 _ hSw
                  have y_N0 := N0 _ hSw
                  have y_N1 := N1 _ hSw
                  have y_N2 := N2 _ hSw
                  have y_N3 := N3 _ hSw
                  have y_N4 := N4 _ hSw
                  have y_N5 := N5 _ hSw
                  have y_Z0 := Z0 _ hSw
                  have y_Z1 := Z1 _ hSw
                  have y_Z2 := Z2 _ hSw
                  have y_Z3 := Z3 _ hSw
                  have y_Z4 := Z4 _ hSw
                  have y_Z5 := Z5 _ hSw
                  have y_A0 := A0 _ hSw
                  go_simp
                  try (with_reducible rfl)
                simp only [Act.put, List.getElem_toArray, List.getElem_cons_succ, List.getElem_cons_zero, List.setIfInBounds_toArray, List.set_cons_zero, List.set_cons_succ]
                refine wpAnyH_take (i := 18) (v := .bool false) rfl (by kernel_rfl) (by kernel_rfl) (by kernel_rfl) (fun _ _ _ h => h) (Or.inl ⟨by kernel_rfl, ?_⟩) (by assumption) ?_
                · intro w' hSw
                  have y_G0 := G0 _ hSw
                  have y_N0 := N0 _ hSw
                  have y_N1 := N1 _ hSw
                  have y_N2 := N2 _ hSw
                  have y_N3 := N3 _ hSw
                  have y_N4 := N4 _ hSw
                  have y_N5 := N5 _ hSw
                  have y_Z0 := Z0 _ hSw
                  have y_Z1 := Z1 _ hSw
                  have y_Z2 := Z2 _ hSw
                  have y_Z3 := Z3 _ hSw
                  have y_Z4 := Z4 _ hSw
                  have y_Z5 := Z5 _ hSw
                  have y_A0 := A0 _ hSw
                  go_simp
                  try (with_reducible rfl)
                simp only [Act.put, List.getElem_toArray, List.getElem_cons_succ, List.getElem_cons_zero, List.setIfInBounds_toArray, List.set_cons_zero, List.set_cons_succ]
                refine wpAnyH_done (by kernel_rfl) ?_ _
                go_wp2
                go_meet
                exact .inl ⟨rfl, _, _, _, _, by omega, HL5, _, _, _, _, _, _, kn5⟩
              · have NE := fun w => neq_other (⟨zk, zkey, zval, zpos, zl, zr⟩ : Nd) ⟨yk, ykey, yval, ypos, yl, yr⟩ w hyz
                simp only [Nd.v] at NE
                refine wpAnyH_take (i := 17) (v := .bool true) rfl (by kernel_rfl) (by kernel_rfl) (by kernel_rfl) (fun _ _ _ h => h) (Or.inl ⟨by kernel_rfl, ?_⟩) (by assumption) ?_
                · intro w' hSw
                  have y_G0 := G0 _ hSw
                  have y_N0 := N0 _ hSw
                  have y_N1 := N1 _ hSw
                  have y_N2 := N2 _ hSw
                  have y_N3 := N3 _ hSw
                  have y_N4 := N4 _ hSw
                  have y_N5 := N5 _ hSw
                  have y_Z0 := Z0 _ hSw
                  have y_Z1 := Z1 _ hSw
                  have y_Z2 := Z2 _ hSw
                  have y_Z3 := Z3 _ hSw
                  have y_Z4 := Z4 _ hSw
                  have y_Z5 := Z5 _ hSw
                  have y_A0 := A0 _ hSw
                  go_simp
                  try (with_reducible rfl)
                simp only [Act.put, List.getElem_toArray, List.getElem_cons_succ, List.getElem_cons_zero, List.setIfInBounds_toArray, List.set_cons_zero, List.set_cons_succ]
                refine wpAnyH_take (i := 18) (v := .bool true) rfl (by kernel_rfl) (by kernel_rfl) (by kernel_rfl) (fun _ _ _ h => h) (Or.inl ⟨by kernel_rfl, ?_⟩) (by assumption) ?_
                · intro w' hSw
                  have y_G0 := G0 _ hSw
                  have y_N0 := N0 _ hSw
                  have y_N1 := N1 _ hSw
                  have y_N2 := N2 _ hSw
                  have y_N3 := N3 _ hSw
                  have y_N4 := N4 _ hSw
                  have y_N5 := N5 _ hSw
                  have y_Z0 := Z0 _ hSw
                  have y_Z1 := Z1 _ hSw
                  have y_Z2 := Z2 _ hSw
                  have y_Z3 := Z3 _ hSw
                  have y_Z4 := Z4 _ hSw
                  have y_Z5 := Z5 _ hSw
                  have y_A0 := A0 _ hSw
                  go_simp
                  try (with_reducible rfl)
                simp only [Act.put, List.getElem_toArray, List.getElem_cons_succ, List.getElem_cons_zero, List.setIfInBounds_toArray, List.set_cons_zero, List.set_cons_succ]
                refine wpAnyH_done (by kernel_rfl) ?_ _
                rw [HY.out] at hcl
                go_wp2
                go_meet
                exact .inr ⟨rfl, bN5, kn5, hS5.1.same _ _ _ kx4 (by decide) (by decide), hS5.1.same _ _ _ kg4 (by decide) (by decide), hcl⟩
          case rest =>
            rcases hcut with ⟨rfl, L5, o5, bar5, n5, hn5, H5, a0, a1, a2, a3, a4, a5, kn6⟩ | ⟨rfl, bN5, kn5, kx5, kg5, hcl⟩
            rotate_left
            · clear G0 N0 N1 N2 N3 N4 N5 Z0 Z1 Z2 Z3 Z4 Z5 A0 KG kd bd hS4 HL4 kn4 kx4 kg4 hNw4 HST HLL HY HYZ hsc hg hgN
              generalize wc = w5 at *
              have M0 : ∀ w', Below w5.heap.size w5 w' → w'.cell? ⟨nb, 0, none⟩ = some (.int .i64 yk) := fun w' h => ((kn5.below h kn5.lt).cell 0).trans rfl
              have M1 : ∀ w', Below w5.heap.size w5 w' → w'.cell? ⟨nb, 1, none⟩ = some (.string (str ykey)) := fun w' h => ((kn5.below h kn5.lt).cell 1).trans rfl
              have M2 : ∀ w', Below w5.heap.size w5 w' → w'.cell? ⟨nb, 2, none⟩ = some (.string (str yval)) := fun w' h => ((kn5.below h kn5.lt).cell 2).trans rfl
              have M3 : ∀ w', Below w5.heap.size w5 w' → w'.cell? ⟨nb, 3, none⟩ = some (.int .i64 ypos) := fun w' h => ((kn5.below h kn5.lt).cell 3).trans rfl
              have M4 : ∀ w', Below w5.heap.size w5 w' → w'.cell? ⟨nb, 4, none⟩ = some (.int .u64 yl) := fun w' h => ((kn5.below h kn5.lt).cell 4).trans rfl
              have M5 : ∀ w', Below w5.heap.size w5 w' → w'.cell? ⟨nb, 5, none⟩ = some (.int .u64 yr) := fun w' h => ((kn5.below h kn5.lt).cell 5).trans rfl
              have X0 : ∀ w', Below w5.heap.size w5 w' → w'.cell? ⟨xb, 0, none⟩ = some (.int .i64 zk) := fun w' h => ((kx5.below h kx5.lt).cell 0).trans rfl
              have X1 : ∀ w', Below w5.heap.size w5 w' → w'.cell? ⟨xb, 1, none⟩ = some (.string (str zkey)) := fun w' h => ((kx5.below h kx5.lt).cell 1).trans rfl
              have X2 : ∀ w', Below w5.heap.size w5 w' → w'.cell? ⟨xb, 2, none⟩ = some (.string (str zval)) := fun w' h => ((kx5.below h kx5.lt).cell 2).trans rfl
              have X3 : ∀ w', Below w5.heap.size w5 w' → w'.cell? ⟨xb, 3, none⟩ = some (.int .i64 zpos) := fun w' h => ((kx5.below h kx5.lt).cell 3).trans rfl
              have X4 : ∀ w', Below w5.heap.size w5 w' → w'.cell? ⟨xb, 4, none⟩ = some (.int .u64 zl) := fun w' h => ((kx5.below h kx5.lt).cell 4).trans rfl
              have X5 : ∀ w', Below w5.heap.size w5 w' → w'.cell? ⟨xb, 5, none⟩ = some (.int .u64 zr) := fun w' h => ((kx5.below h kx5.lt).cell 5).trans rfl
              have G1 : ∀ w', Below w5.heap.size w5 w' → w'.cell? ⟨g, 0, none⟩ = some (.string (str way)) := fun w' h => ((kg5.below h kg5.lt).cell 0).trans cg
              have KOx := fun w => over_any wd zk (str zkey) (str zval) zpos zl zr w HOK.out (by rw [str_size]; exact hz.hk) (by rw [str_size]; exact hz.hv) hz.hl hz.hr
              have KOy := fun w => over_any wd yk (str ykey) (str yval) ypos yl yr w HOK.out (by rw [str_size]; exact HYO.out.hk) (by rw [str_size]; exact HYO.out.hv) HYO.out.hl HYO.out.hr
              have KTx := fun w => top_any wd zk (str zkey) (str zval) zpos zl zr w HOK.out (by rw [str_size]; exact hz.hk) (by rw [str_size]; exact hz.hv) hz.hl hz.hr
              have KTy := fun w => top_any wd yk (str ykey) (str yval) ypos yl yr w HOK.out (by rw [str_size]; exact HYO.out.hk) (by rw [str_size]; exact HYO.out.hv) HYO.out.hl HYO.out.hr
              have bd5 : Below w5.heap.size w5 w5.drew := (Below.refl _ _).drew
              clear kn5 kx5 kg5
              simp only at hcl
              generalize hox : overP wd zk (str zkey) (str zval) zpos zl zr = ox at *
              generalize hoy : overP wd yk (str ykey) (str yval) ypos yl yr = oy at *
              generalize htx : wholeP wd zk (str zkey) (str zval) zpos zl zr = tx at *
              generalize hty : wholeP wd yk (str ykey) (str yval) ypos yl yr = ty at *
              clear hox hoy htx hty
              go_upto_region 21 with fail
              by_cases hov : ox = oy
              · subst hov
                refine wp_region_held (S := fun w' => Below w5.heap.size w5 w') (by kernel_rfl) ?_
                refine wpAnyH_take (i := 0) (v := ?_) rfl (by kernel_rfl) (by kernel_rfl) (by kernel_rfl) (fun _ _ _ h => h) (Or.inl ⟨by kernel_rfl, ?_⟩) (by assumption) ?_
                rotate_left
                · intro w' hSw
                  have y_G1 := G1 _ hSw
                  have y_M0 := M0 _ hSw
                  have y_M1 := M1 _ hSw
                  have y_M2 := M2 _ hSw
                  have y_M3 := M3 _ hSw
                  have y_M4 := M4 _ hSw
                  have y_M5 := M5 _ hSw
                  have y_X0 := X0 _ hSw
                  have y_X1 := X1 _ hSw
                  have y_X2 := X2 _ hSw
                  have y_X3 := X3 _ hSw
                  have y_X4 := X4 _ hSw
                  have y_X5 := X5 _ hSw
                  go_simp
                  try (with_reducible rfl)
                simp only [Act.put, List.getElem_toArray, List.getElem_cons_succ, List.getElem_cons_zero, List.setIfInBounds_toArray, List.set_cons_zero, List.set_cons_succ]
                refine wpAnyH_take (i := 1) (v := ?_) rfl (by kernel_rfl) (by kernel_rfl) (by kernel_rfl) (fun _ _ _ h => h) (Or.inl ⟨by kernel_rfl, ?_⟩) (by assumption) ?_
                rotate_left
                · intro w' hSw
                  have y_G1 := G1 _ hSw
                  have y_M0 := M0 _ hSw
                  have y_M1 := M1 _ hSw
                  have y_M2 := M2 _ hSw
                  have y_M3 := M3 _ hSw
                  have y_M4 := M4 _ hSw
                  have y_M5 := M5 _ hSw
                  have y_X0 := X0 _ hSw
                  have y_X1 := X1 _ hSw
                  have y_X2 := X2 _ hSw
                  have y_X3 := X3 _ hSw
                  have y_X4 := X4 _ hSw
                  have y_X5 := X5 _ hSw
                  go_simp
                  try (with_reducible rfl)
                simp only [Act.put, List.getElem_toArray, List.getElem_cons_succ, List.getElem_cons_zero, List.setIfInBounds_toArray, List.set_cons_zero, List.set_cons_succ]
                refine wpAnyH_take (i := 3) (v := ?_) rfl (by kernel_rfl) (by kernel_rfl) (by kernel_rfl) (fun _ _ _ h => h) (Or.inl ⟨by kernel_rfl, ?_⟩) (by assumption) ?_
                rotate_left
                · intro w' hSw
                  have y_G1 := G1 _ hSw
                  have y_M0 := M0 _ hSw
                  have y_M1 := M1 _ hSw
                  have y_M2 := M2 _ hSw
                  have y_M3 := M3 _ hSw
                  have y_M4 := M4 _ hSw
                  have y_M5 := M5 _ hSw
                  have y_X0 := X0 _ hSw
                  have y_X1 := X1 _ hSw
                  have y_X2 := X2 _ hSw
                  have y_X3 := X3 _ hSw
                  have y_X4 := X4 _ hSw
                  have y_X5 := X5 _ hSw
                  go_simp
                  try (with_reducible rfl)
                simp only [Act.put, List.getElem_toArray, List.getElem_cons_succ, List.getElem_cons_zero, List.setIfInBounds_toArray, List.set_cons_zero, List.set_cons_succ]
                refine wpAnyH_take (i := 4) (v := ?_) rfl (by kernel_rfl) (by kernel_rfl) (by kernel_rfl) (fun _ _ _ h => h) (Or.inl ⟨by kernel_rfl, ?_⟩) (by assumption) ?_
                rotate_left
                · intro w' hSw
                  have y_G1 := G1 _ hSw
                  have y_M0 := M0 _ hSw
                  have y_M1 := M1 _ hSw
                  have y_M2 := M2 _ hSw
                  have y_M3 := M3 _ hSw
                  have y_M4 := M4 _ hSw
                  have y_M5 := M5 _ hSw
                  have y_X0 := X0 _ hSw
                  have y_X1 := X1 _ hSw
                  have y_X2 := X2 _ hSw
                  have y_X3 := X3 _ hSw
                  have y_X4 := X4 _ hSw
                  have y_X5 := X5 _ hSw
                  go_simp
                  try (with_reducible rfl)
                simp only [Act.put, List.getElem_toArray, List.getElem_cons_succ, List.getElem_cons_zero, List.setIfInBounds_toArray, List.set_cons_zero, List.set_cons_succ]
                refine wpAnyH_ready (rs := [2]) (by kernel_rfl) (by simp) ?_
                refine AllReadyH.cons rfl (fun K hK => ?_) AllReadyH.nil
                go_simp
                refine (KOx _).mono ?_
                rintro e w6 ⟨rfl, b6⟩
                have hN6 : Below w5.heap.size w5 w6 := bel_in bd5 b6
                refine hK.out _ _ hN6 (fun _ => ?_)
                clear hK K
                try simp only [Act.put, List.getElem_toArray, List.getElem_cons_succ, List.getElem_cons_zero, List.setIfInBounds_toArray, List.set_cons_zero, List.set_cons_succ]
                refine wpAnyH_ready (rs := [5]) (by kernel_rfl) (by simp) ?_
                refine AllReadyH.cons rfl (fun K hK => ?_) AllReadyH.nil
                go_simp
                refine (KOy _).mono ?_
                rintro e w7 ⟨rfl, b7⟩
                have hN7 : Below w5.heap.size w5 w7 := bel_in hN6 b7
                refine hK.out _ _ hN7 (fun _ => ?_)
                clear hK K
                try simp only [Act.put, List.getElem_toArray, List.getElem_cons_succ, List.getElem_cons_zero, List.setIfInBounds_toArray, List.set_cons_zero, List.set_cons_succ]
                refine wpAnyH_take (i := 6) (v := .bool true) rfl (by kernel_rfl) (by kernel_rfl) (by kernel_rfl) (fun _ _ _ h => h) (Or.inl ⟨by kernel_rfl, ?_⟩) (by assumption) ?_
                · intro w' hSw
                  have y_G1 := G1 _ hSw
                  have y_M0 := M0 _ hSw
                  have y_M1 := M1 _ hSw
                  have y_M2 := M2 _ hSw
                  have y_M3 := M3 _ hSw
                  have y_M4 := M4 _ hSw
                  have y_M5 := M5 _ hSw
                  have y_X0 := X0 _ hSw
                  have y_X1 := X1 _ hSw
                  have y_X2 := X2 _ hSw
                  have y_X3 := X3 _ hSw
                  have y_X4 := X4 _ hSw
                  have y_X5 := X5 _ hSw
                  go_simp
                  try (with_reducible rfl)
                simp only [Act.put, List.getElem_toArray, List.getElem_cons_succ, List.getElem_cons_zero, List.setIfInBounds_toArray, List.set_cons_zero, List.set_cons_succ]
                refine wpAnyH_take (i := 7) (v := .bool true) rfl (by kernel_rfl) (by kernel_rfl) (by kernel_rfl) (fun _ _ _ h => h) (Or.inl ⟨by kernel_rfl, ?_⟩) (by assumption) ?_
                · intro w' hSw
                  have y_G1 := G1 _ hSw
                  have y_M0 := M0 _ hSw
                  have y_M1 := M1 _ hSw
                  have y_M2 := M2 _ hSw
                  have y_M3 := M3 _ hSw
                  have y_M4 := M4 _ hSw
                  have y_M5 := M5 _ hSw
                  have y_X0 := X0 _ hSw
                  have y_X1 := X1 _ hSw
                  have y_X2 := X2 _ hSw
                  have y_X3 := X3 _ hSw
                  have y_X4 := X4 _ hSw
                  have y_X5 := X5 _ hSw
                  go_simp
                  try (with_reducible rfl)
                simp only [Act.put, List.getElem_toArray, List.getElem_cons_succ, List.getElem_cons_zero, List.setIfInBounds_toArray, List.set_cons_zero, List.set_cons_succ]
                refine wpAnyH_take (i := 8) (v := undef) rfl (by kernel_rfl) (by kernel_rfl) (by kernel_rfl) (fun _ _ _ h => h) (Or.inr ⟨by kernel_rfl, rfl⟩) (by assumption) ?_
                simp only [Act.put, List.getElem_toArray, List.getElem_cons_succ, List.getElem_cons_zero, List.setIfInBounds_toArray, List.set_cons_zero, List.set_cons_succ]
                refine wpAnyH_take (i := 9) (v := undef) rfl (by kernel_rfl) (by kernel_rfl) (by kernel_rfl) (fun _ _ _ h => h) (Or.inr ⟨by kernel_rfl, rfl⟩) (by assumption) ?_
                simp only [Act.put, List.getElem_toArray, List.getElem_cons_succ, List.getElem_cons_zero, List.setIfInBounds_toArray, List.set_cons_zero, List.set_cons_succ]
                refine wpAnyH_take (i := 10) (v := undef) rfl (by kernel_rfl) (by kernel_rfl) (by kernel_rfl) (fun _ _ _ h => h) (Or.inr ⟨by kernel_rfl, rfl⟩) (by assumption) ?_
                simp only [Act.put, List.getElem_toArray, List.getElem_cons_succ, List.getElem_cons_zero, List.setIfInBounds_toArray, List.set_cons_zero, List.set_cons_succ]
                refine wpAnyH_take (i := 11) (v := undef) rfl (by kernel_rfl) (by kernel_rfl) (by kernel_rfl) (fun _ _ _ h => h) (Or.inr ⟨by kernel_rfl, rfl⟩) (by assumption) ?_
                simp only [Act.put, List.getElem_toArray, List.getElem_cons_succ, List.getElem_cons_zero, List.setIfInBounds_toArray, List.set_cons_zero, List.set_cons_succ]
                refine wpAnyH_take (i := 12) (v := undef) rfl (by kernel_rfl) (by kernel_rfl) (by kernel_rfl) (fun _ _ _ h => h) (Or.inr ⟨by kernel_rfl, rfl⟩) (by assumption) ?_
                simp only [Act.put, List.getElem_toArray, List.getElem_cons_succ, List.getElem_cons_zero, List.setIfInBounds_toArray, List.set_cons_zero, List.set_cons_succ]
                refine wpAnyH_take (i := 13) (v := undef) rfl (by kernel_rfl) (by kernel_rfl) (by kernel_rfl) (fun _ _ _ h => h) (Or.inr ⟨by kernel_rfl, rfl⟩) (by assumption) ?_
                simp only [Act.put, List.getElem_toArray, List.getElem_cons_succ, List.getElem_cons_zero, List.setIfInBounds_toArray, List.set_cons_zero, List.set_cons_succ]
                refine wpAnyH_take (i := 14) (v := undef) rfl (by kernel_rfl) (by kernel_rfl) (by kernel_rfl) (fun _ _ _ h => h) (Or.inr ⟨by kernel_rfl, rfl⟩) (by assumption) ?_
                simp only [Act.put, List.getElem_toArray, List.getElem_cons_succ, List.getElem_cons_zero, List.setIfInBounds_toArray, List.set_cons_zero, List.set_cons_succ]
                refine wpAnyH_take (i := 16) (v := undef) rfl (by kernel_rfl) (by kernel_rfl) (by kernel_rfl) (fun _ _ _ h => h) (Or.inr ⟨by kernel_rfl, rfl⟩) (by assumption) ?_
                simp only [Act.put, List.getElem_toArray, List.getElem_cons_succ, List.getElem_cons_zero, List.setIfInBounds_toArray, List.set_cons_zero, List.set_cons_succ]
                refine wpAnyH_take (i := 17) (v := undef) rfl (by kernel_rfl) (by kernel_rfl) (by kernel_rfl) (fun _ _ _ h => h) (Or.inr ⟨by kernel_rfl, rfl⟩) (by assumption) ?_
                simp only [Act.put, List.getElem_toArray, List.getElem_cons_succ, List.getElem_cons_zero, List.setIfInBounds_toArray, List.set_cons_zero, List.set_cons_succ]
                refine wpAnyH_ready (rs := [15]) (by kernel_rfl) (by simp) ?_
                refine AllReadyH.cons rfl (fun K hK => ?_) AllReadyH.nil
                go_simp
                refine hK.out _ _ (hN7) (fun _ => ?_)
                clear hK K
                try simp only [Act.put, List.getElem_toArray, List.getElem_cons_succ, List.getElem_cons_zero, List.setIfInBounds_toArray, List.set_cons_zero, List.set_cons_succ]
                refine wpAnyH_ready (rs := [18]) (by kernel_rfl) (by simp) ?_
                refine AllReadyH.cons rfl (fun K hK => ?_) AllReadyH.nil
                go_simp
                refine hK.out _ _ (hN7) (fun _ => ?_)
                clear hK K
                try simp only [Act.put, List.getElem_toArray, List.getElem_cons_succ, List.getElem_cons_zero, List.setIfInBounds_toArray, List.set_cons_zero, List.set_cons_succ]
                refine wpAnyH_take (i := 19) (v := undef) rfl (by kernel_rfl) (by kernel_rfl) (by kernel_rfl) (fun _ _ _ h => h) (Or.inr ⟨by kernel_rfl, rfl⟩) (by assumption) ?_
                simp only [Act.put, List.getElem_toArray, List.getElem_cons_succ, List.getElem_cons_zero, List.setIfInBounds_toArray, List.set_cons_zero, List.set_cons_succ]
                refine wpAnyH_take (i := 20) (v := undef) rfl (by kernel_rfl) (by kernel_rfl) (by kernel_rfl) (fun _ _ _ h => h) (Or.inr ⟨by kernel_rfl, rfl⟩) (by assumption) ?_
                simp only [Act.put, List.getElem_toArray, List.getElem_cons_succ, List.getElem_cons_zero, List.setIfInBounds_toArray, List.set_cons_zero, List.set_cons_succ]
                refine wpAnyH_take (i := 21) (v := .bool true) rfl (by kernel_rfl) (by kernel_rfl) (by kernel_rfl) (fun _ _ _ h => h) (Or.inl ⟨by kernel_rfl, ?_⟩) (by assumption) ?_
                · intro w' hSw
                  have y_G1 := G1 _ hSw
                  have y_M0 := M0 _ hSw
                  have y_M1 := M1 _ hSw
                  have y_M2 := M2 _ hSw
                  have y_M3 := M3 _ hSw
                  have y_M4 := M4 _ hSw
                  have y_M5 := M5 _ hSw
                  have y_X0 := X0 _ hSw
                  have y_X1 := X1 _ hSw
                  have y_X2 := X2 _ hSw
                  have y_X3 := X3 _ hSw
                  have y_X4 := X4 _ hSw
                  have y_X5 := X5 _ hSw
                  go_simp
                  try (with_reducible rfl)
                simp only [Act.put, List.getElem_toArray, List.getElem_cons_succ, List.getElem_cons_zero, List.setIfInBounds_toArray, List.set_cons_zero, List.set_cons_succ]
                refine wpAnyH_ready (rs := [22]) (by kernel_rfl) (by simp) ?_
                refine AllReadyH.cons rfl (fun K hK => ?_) AllReadyH.nil
                go_simp
                refine hK.out _ _ (hN7) (fun _ => ?_)
                clear hK K
                try simp only [Act.put, List.getElem_toArray, List.getElem_cons_succ, List.getElem_cons_zero, List.setIfInBounds_toArray, List.set_cons_zero, List.set_cons_succ]
                refine wpAnyH_done (by kernel_rfl) ?_ _
                go_wp2
                go_ret
                exact ⟨rfl, BN.trans ((bN5.trans (hN7.mono bN5.size)).mono BN.size)⟩
              · have hw2 : way = [] ∧ tx = ty := hcl.elim (fun q => (hov q).elim) id
                obtain ⟨rfl, rfl⟩ := hw2
                have hovb : (ox == oy) = false := by simpa using hov
                refine wp_region_held (S := fun w' => Below w5.heap.size w5 w') (by kernel_rfl) ?_
                refine wpAnyH_take (i := 0) (v := ?_) rfl (by kernel_rfl) (by kernel_rfl) (by kernel_rfl) (fun _ _ _ h => h) (Or.inl ⟨by kernel_rfl, ?_⟩) (by assumption) ?_
                rotate_left
                · intro w' hSw
                  have y_G1 := G1 _ hSw
                  have y_M0 := M0 _ hSw
                  have y_M1 := M1 _ hSw
                  have y_M2 := M2 _ hSw
                  have y_M3 := M3 _ hSw
                  have y_M4 := M4 _ hSw
                  have y_M5 := M5 _ hSw
                  have y_X0 := X0 _ hSw
                  have y_X1 := X1 _ hSw
                  have y_X2 := X2 _ hSw
                  have y_X3 := X3 _ hSw
                  have y_X4 := X4 _ hSw
                  have y_X5 := X5 _ hSw
                  go_simp
                  try (with_reducible rfl)
                simp only [Act.put, List.getElem_toArray, List.getElem_cons_succ, List.getElem_cons_zero, List.setIfInBounds_toArray, List.set_cons_zero, List.set_cons_succ]
                refine wpAnyH_take (i := 1) (v := ?_) rfl (by kernel_rfl) (by kernel_rfl) (by kernel_rfl) (fun _ _ _ h => h) (Or.inl ⟨by kernel_rfl, ?_⟩) (by assumption) ?_
                rotate_left
                · intro w' hSw
                  have y_G1 := G1 _ hSw
                  have y_M0 := M0 _ hSw
                  have y_M1 := M1 _ hSw
                  have y_M2 := M2 _ hSw
                  have y_M3 := M3 _ hSw
                  have y_M4 := M4 _ hSw
                  have y_M5 := M5 _ hSw
                  have y_X0 := X0 _ hSw
                  have y_X1 := X1 _ hSw
                  have y_X2 := X2 _ hSw
                  have y_X3 := X3 _ hSw
                  have y_X4 := X4 _ hSw
                  have y_X5 := X5 _ hSw
                  go_simp
                  try (with_reducible rfl)
                simp only [Act.put, List.getElem_toArray, List.getElem_cons_succ, List.getElem_cons_zero, List.setIfInBounds_toArray, List.set_cons_zero, List.set_cons_succ]
                refine wpAnyH_take (i := 3) (v := ?_) rfl (by kernel_rfl) (by kernel_rfl) (by kernel_rfl) (fun _ _ _ h => h) (Or.inl ⟨by kernel_rfl, ?_⟩) (by assumption) ?_
                rotate_left
                · intro w' hSw
                  have y_G1 := G1 _ hSw
                  have y_M0 := M0 _ hSw
                  have y_M1 := M1 _ hSw
                  have y_M2 := M2 _ hSw
                  have y_M3 := M3 _ hSw
                  have y_M4 := M4 _ hSw
                  have y_M5 := M5 _ hSw
                  have y_X0 := X0 _ hSw
                  have y_X1 := X1 _ hSw
                  have y_X2 := X2 _ hSw
                  have y_X3 := X3 _ hSw
                  have y_X4 := X4 _ hSw
                  have y_X5 := X5 _ hSw
                  go_simp
                  try (with_reducible rfl)
                simp only [Act.put, List.getElem_toArray, List.getElem_cons_succ, List.getElem_cons_zero, List.setIfInBounds_toArray, List.set_cons_zero, List.set_cons_succ]
                refine wpAnyH_take (i := 4) (v := ?_) rfl (by kernel_rfl) (by kernel_rfl) (by kernel_rfl) (fun _ _ _ h => h) (Or.inl ⟨by kernel_rfl, ?_⟩) (by assumption) ?_
                rotate_left
                · intro w' hSw
                  have y_G1 := G1 _ hSw
                  have y_M0 := M0 _ hSw
                  have y_M1 := M1 _ hSw
                  have y_M2 := M2 _ hSw
                  have y_M3 := M3 _ hSw
                  have y_M4 := M4 _ hSw
                  have y_M5 := M5 _ hSw
                  have y_X0 := X0 _ hSw
                  have y_X1 := X1 _ hSw
                  have y_X2 := X2 _ hSw
                  have y_X3 := X3 _ hSw
                  have y_X4 := X4 _ hSw
                  have y_X5 := X5 _ hSw
                  go_simp
                  try (with_reducible rfl)
                simp only [Act.put, List.getElem_toArray, List.getElem_cons_succ, List.getElem_cons_zero, List.setIfInBounds_toArray, List.set_cons_zero, List.set_cons_succ]
                refine wpAnyH_ready (rs := [2]) (by kernel_rfl) (by simp) ?_
                refine AllReadyH.cons rfl (fun K hK => ?_) AllReadyH.nil
                go_simp
                refine (KOx _).mono ?_
                rintro e w6 ⟨rfl, b6⟩
                have hN6 : Below w5.heap.size w5 w6 := bel_in bd5 b6
                refine hK.out _ _ hN6 (fun _ => ?_)
                clear hK K
                try simp only [Act.put, List.getElem_toArray, List.getElem_cons_succ, List.getElem_cons_zero, List.setIfInBounds_toArray, List.set_cons_zero, List.set_cons_succ]
                refine wpAnyH_ready (rs := [5]) (by kernel_rfl) (by simp) ?_
                refine AllReadyH.cons rfl (fun K hK => ?_) AllReadyH.nil
                go_simp
                refine (KOy _).mono ?_
                rintro e w7 ⟨rfl, b7⟩
                have hN7 : Below w5.heap.size w5 w7 := bel_in hN6 b7
                refine hK.out _ _ hN7 (fun _ => ?_)
                clear hK K
                try simp only [Act.put, List.getElem_toArray, List.getElem_cons_succ, List.getElem_cons_zero, List.setIfInBounds_toArray, List.set_cons_zero, List.set_cons_succ]
                refine wpAnyH_take (i := 6) (v := .bool false) rfl (by kernel_rfl) (by kernel_rfl) (by kernel_rfl) (fun _ _ _ h => h) (Or.inl ⟨by kernel_rfl, ?_⟩) (by assumption) ?_
                · intro w' hSw
                  have y_G1 := G1 _ hSw
                  have y_M0 := M0 _ hSw
                  have y_M1 := M1 _ hSw
                  have y_M2 := M2 _ hSw
                  have y_M3 := M3 _ hSw
                  have y_M4 := M4 _ hSw
                  have y_M5 := M5 _ hSw
                  have y_X0 := X0 _ hSw
                  have y_X1 := X1 _ hSw
                  have y_X2 := X2 _ hSw
                  have y_X3 := X3 _ hSw
                  have y_X4 := X4 _ hSw
                  have y_X5 := X5 _ hSw
                  go_simp
                  try (with_reducible rfl)
                simp only [Act.put, List.getElem_toArray, List.getElem_cons_succ, List.getElem_cons_zero, List.setIfInBounds_toArray, List.set_cons_zero, List.set_cons_succ]
                refine wpAnyH_take (i := 7) (v := .bool false) rfl (by kernel_rfl) (by kernel_rfl) (by kernel_rfl) (fun _ _ _ h => h) (Or.inl ⟨by kernel_rfl, ?_⟩) (by assumption) ?_
                · intro w' hSw
                  have y_G1 := G1 _ hSw
                  have y_M0 := M0 _ hSw
                  have y_M1 := M1 _ hSw
                  have y_M2 := M2 _ hSw
                  have y_M3 := M3 _ hSw
                  have y_M4 := M4 _ hSw
                  have y_M5 := M5 _ hSw
                  have y_X0 := X0 _ hSw
                  have y_X1 := X1 _ hSw
                  have y_X2 := X2 _ hSw
                  have y_X3 := X3 _ hSw
                  have y_X4 := X4 _ hSw
                  have y_X5 := X5 _ hSw
                  go_simp
                  try (with_reducible rfl)
                simp only [Act.put, List.getElem_toArray, List.getElem_cons_succ, List.getElem_cons_zero, List.setIfInBounds_toArray, List.set_cons_zero, List.set_cons_succ]
                refine wpAnyH_take (i := 8) (v := ?_) rfl (by kernel_rfl) (by kernel_rfl) (by kernel_rfl) (fun _ _ _ h => h) (Or.inl ⟨by kernel_rfl, ?_⟩) (by assumption) ?_
                rotate_left
                · intro w' hSw
                  have y_G1 := G1 _ hSw
                  have y_M0 := M0 _ hSw
                  have y_M1 := M1 _ hSw
                  have y_M2 := M2 _ hSw
                  have y_M3 := M3 _ hSw
                  have y_M4 := M4 _ hSw
                  have y_M5 := M5 _ hSw
                  have y_X0 := X0 _ hSw
                  have y_X1 := X1 _ hSw
                  have y_X2 := X2 _ hSw
                  have y_X3 := X3 _ hSw
                  have y_X4 := X4 _ hSw
                  have y_X5 := X5 _ hSw
                  go_simp
                  try (with_reducible rfl)
                simp only [Act.put, List.getElem_toArray, List.getElem_cons_succ, List.getElem_cons_zero, List.setIfInBounds_toArray, List.set_cons_zero, List.set_cons_succ]
                refine wpAnyH_take (i := 9) (v := ?_) rfl (by kernel_rfl) (by kernel_rfl) (by kernel_rfl) (fun _ _ _ h => h) (Or.inl ⟨by kernel_rfl, ?_⟩) (by assumption) ?_
                rotate_left
                · intro w' hSw
                  have y_G1 := G1 _ hSw
                  have y_M0 := M0 _ hSw
                  have y_M1 := M1 _ hSw
                  have y_M2 := M2 _ hSw
                  have y_M3 := M3 _ hSw
                  have y_M4 := M4 _ hSw
                  have y_M5 := M5 _ hSw
                  have y_X0 := X0 _ hSw
                  have y_X1 := X1 _ hSw
                  have y_X2 := X2 _ hSw
                  have y_X3 := X3 _ hSw
                  have y_X4 := X4 _ hSw
                  have y_X5 := X5 _ hSw
                  go_simp
                  try (with_reducible rfl)
                simp only [Act.put, List.getElem_toArray, List.getElem_cons_succ, List.getElem_cons_zero, List.setIfInBounds_toArray, List.set_cons_zero, List.set_cons_succ]
                refine wpAnyH_take (i := 10) (v := ?_) rfl (by kernel_rfl) (by kernel_rfl) (by kernel_rfl) (fun _ _ _ h => h) (Or.inl ⟨by kernel_rfl, ?_⟩) (by assumption) ?_
                rotate_left
                · intro w' hSw
                  have y_G1 := G1 _ hSw
                  have y_M0 := M0 _ hSw
                  have y_M1 := M1 _ hSw
                  have y_M2 := M2 _ hSw
                  have y_M3 := M3 _ hSw
                  have y_M4 := M4 _ hSw
                  have y_M5 := M5 _ hSw
                  have y_X0 := X0 _ hSw
                  have y_X1 := X1 _ hSw
                  have y_X2 := X2 _ hSw
                  have y_X3 := X3 _ hSw
                  have y_X4 := X4 _ hSw
                  have y_X5 := X5 _ hSw
                  go_simp
                  try (with_reducible rfl)
                simp only [Act.put, List.getElem_toArray, List.getElem_cons_succ, List.getElem_cons_zero, List.setIfInBounds_toArray, List.set_cons_zero, List.set_cons_succ]
                refine wpAnyH_take (i := 11) (v := .bool true) rfl (by kernel_rfl) (by kernel_rfl) (by kernel_rfl) (fun _ _ _ h => h) (Or.inl ⟨by kernel_rfl, ?_⟩) (by assumption) ?_
                · intro w' hSw
                  have y_G1 := G1 _ hSw
                  have y_M0 := M0 _ hSw
                  have y_M1 := M1 _ hSw
                  have y_M2 := M2 _ hSw
                  have y_M3 := M3 _ hSw
                  have y_M4 := M4 _ hSw
                  have y_M5 := M5 _ hSw
                  have y_X0 := X0 _ hSw
                  have y_X1 := X1 _ hSw
                  have y_X2 := X2 _ hSw
                  have y_X3 := X3 _ hSw
                  have y_X4 := X4 _ hSw
                  have y_X5 := X5 _ hSw
                  go_simp
                  try (with_reducible rfl)
                  try exact str_toList []
                simp only [Act.put, List.getElem_toArray, List.getElem_cons_succ, List.getElem_cons_zero, List.setIfInBounds_toArray, List.set_cons_zero, List.set_cons_succ]
                refine wpAnyH_take (i := 12) (v := .bool true) rfl (by kernel_rfl) (by kernel_rfl) (by kernel_rfl) (fun _ _ _ h => h) (Or.inl ⟨by kernel_rfl, ?_⟩) (by assumption) ?_
                · intro w' hSw
                  have y_G1 := G1 _ hSw
                  have y_M0 := M0 _ hSw
                  have y_M1 := M1 _ hSw
                  have y_M2 := M2 _ hSw
                  have y_M3 := M3 _ hSw
                  have y_M4 := M4 _ hSw
                  have y_M5 := M5 _ hSw
                  have y_X0 := X0 _ hSw
                  have y_X1 := X1 _ hSw
                  have y_X2 := X2 _ hSw
                  have y_X3 := X3 _ hSw
                  have y_X4 := X4 _ hSw
                  have y_X5 := X5 _ hSw
                  go_simp
                  try (with_reducible rfl)
                simp only [Act.put, List.getElem_toArray, List.getElem_cons_succ, List.getElem_cons_zero, List.setIfInBounds_toArray, List.set_cons_zero, List.set_cons_succ]
                refine wpAnyH_take (i := 13) (v := ?_) rfl (by kernel_rfl) (by kernel_rfl) (by kernel_rfl) (fun _ _ _ h => h) (Or.inl ⟨by kernel_rfl, ?_⟩) (by assumption) ?_
                rotate_left
                · intro w' hSw
                  have y_G1 := G1 _ hSw
                  have y_M0 := M0 _ hSw
                  have y_M1 := M1 _ hSw
                  have y_M2 := M2 _ hSw
                  have y_M3 := M3 _ hSw
                  have y_M4 := M4 _ hSw
                  have y_M5 := M5 _ hSw
                  have y_X0 := X0 _ hSw
                  have y_X1 := X1 _ hSw
                  have y_X2 := X2 _ hSw
                  have y_X3 := X3 _ hSw
                  have y_X4 := X4 _ hSw
                  have y_X5 := X5 _ hSw
                  go_simp
                  try (with_reducible rfl)
                simp only [Act.put, List.getElem_toArray, List.getElem_cons_succ, List.getElem_cons_zero, List.setIfInBounds_toArray, List.set_cons_zero, List.set_cons_succ]
                refine wpAnyH_take (i := 14) (v := ?_) rfl (by kernel_rfl) (by kernel_rfl) (by kernel_rfl) (fun _ _ _ h => h) (Or.inl ⟨by kernel_rfl, ?_⟩) (by assumption) ?_
                rotate_left
                · intro w' hSw
                  have y_G1 := G1 _ hSw
                  have y_M0 := M0 _ hSw
                  have y_M1 := M1 _ hSw
                  have y_M2 := M2 _ hSw
                  have y_M3 := M3 _ hSw
                  have y_M4 := M4 _ hSw
                  have y_M5 := M5 _ hSw
                  have y_X0 := X0 _ hSw
                  have y_X1 := X1 _ hSw
                  have y_X2 := X2 _ hSw
                  have y_X3 := X3 _ hSw
                  have y_X4 := X4 _ hSw
                  have y_X5 := X5 _ hSw
                  go_simp
                  try (with_reducible rfl)
                simp only [Act.put, List.getElem_toArray, List.getElem_cons_succ, List.getElem_cons_zero, List.setIfInBounds_toArray, List.set_cons_zero, List.set_cons_succ]
                refine wpAnyH_take (i := 16) (v := ?_) rfl (by kernel_rfl) (by kernel_rfl) (by kernel_rfl) (fun _ _ _ h => h) (Or.inl ⟨by kernel_rfl, ?_⟩) (by assumption) ?_
                rotate_left
                · intro w' hSw
                  have y_G1 := G1 _ hSw
                  have y_M0 := M0 _ hSw
                  have y_M1 := M1 _ hSw
                  have y_M2 := M2 _ hSw
                  have y_M3 := M3 _ hSw
                  have y_M4 := M4 _ hSw
                  have y_M5 := M5 _ hSw
                  have y_X0 := X0 _ hSw
                  have y_X1 := X1 _ hSw
                  have y_X2 := X2 _ hSw
                  have y_X3 := X3 _ hSw
                  have y_X4 := X4 _ hSw
                  have y_X5 := X5 _ hSw
                  go_simp
                  try (with_reducible rfl)
                simp only [Act.put, List.getElem_toArray, List.getElem_cons_succ, List.getElem_cons_zero, List.setIfInBounds_toArray, List.set_cons_zero, List.set_cons_succ]
                refine wpAnyH_take (i := 17) (v := ?_) rfl (by kernel_rfl) (by kernel_rfl) (by kernel_rfl) (fun _ _ _ h => h) (Or.inl ⟨by kernel_rfl, ?_⟩) (by assumption) ?_
                rotate_left
                · intro w' hSw
                  have y_G1 := G1 _ hSw
                  have y_M0 := M0 _ hSw
                  have y_M1 := M1 _ hSw
                  have y_M2 := M2 _ hSw
                  have y_M3 := M3 _ hSw
                  have y_M4 := M4 _ hSw
                  have y_M5 := M5 _ hSw
                  have y_X0 := X0 _ hSw
                  have y_X1 := X1 _ hSw
                  have y_X2 := X2 _ hSw
                  have y_X3 := X3 _ hSw
                  have y_X4 := X4 _ hSw
                  have y_X5 := X5 _ hSw
                  go_simp
                  try (with_reducible rfl)
                simp only [Act.put, List.getElem_toArray, List.getElem_cons_succ, List.getElem_cons_zero, List.setIfInBounds_toArray, List.set_cons_zero, List.set_cons_succ]
                refine wpAnyH_ready (rs := [15]) (by kernel_rfl) (by simp) ?_
                refine AllReadyH.cons rfl (fun K hK => ?_) AllReadyH.nil
                go_simp
                refine (KTx _).mono ?_
                rintro e w8 ⟨rfl, b8⟩
                have hN8 : Below w5.heap.size w5 w8 := bel_in hN7 b8
                refine hK.out _ _ hN8 (fun _ => ?_)
                clear hK K
                try simp only [Act.put, List.getElem_toArray, List.getElem_cons_succ, List.getElem_cons_zero, List.setIfInBounds_toArray, List.set_cons_zero, List.set_cons_succ]
                refine wpAnyH_ready (rs := [18]) (by kernel_rfl) (by simp) ?_
                refine AllReadyH.cons rfl (fun K hK => ?_) AllReadyH.nil
                go_simp
                refine (KTy _).mono ?_
                rintro e w9 ⟨rfl, b9⟩
                have hN9 : Below w5.heap.size w5 w9 := bel_in hN8 b9
                refine hK.out _ _ hN9 (fun _ => ?_)
                clear hK K
                try simp only [Act.put, List.getElem_toArray, List.getElem_cons_succ, List.getElem_cons_zero, List.setIfInBounds_toArray, List.set_cons_zero, List.set_cons_succ]
                refine wpAnyH_take (i := 19) (v := .bool true) rfl (by kernel_rfl) (by kernel_rfl) (by kernel_rfl) (fun _ _ _ h => h) (Or.inl ⟨by kernel_rfl, ?_⟩) (by assumption) ?_
                · intro w' hSw
                  have y_G1 := G1 _ hSw
                  have y_M0 := M0 _ hSw
                  have y_M1 := M1 _ hSw
                  have y_M2 := M2 _ hSw
                  have y_M3 := M3 _ hSw
                  have y_M4 := M4 _ hSw
                  have y_M5 := M5 _ hSw
                  have y_X0 := X0 _ hSw
                  have y_X1 := X1 _ hSw
                  have y_X2 := X2 _ hSw
                  have y_X3 := X3 _ hSw
                  have y_X4 := X4 _ hSw
                  have y_X5 := X5 _ hSw
                  go_simp
                  try (with_reducible rfl)
                simp only [Act.put, List.getElem_toArray, List.getElem_cons_succ, List.getElem_cons_zero, List.setIfInBounds_toArray, List.set_cons_zero, List.set_cons_succ]
                refine wpAnyH_take (i := 20) (v := .bool true) rfl (by kernel_rfl) (by kernel_rfl) (by kernel_rfl) (fun _ _ _ h => h) (Or.inl ⟨by kernel_rfl, ?_⟩) (by assumption) ?_
                · intro w' hSw
                  have y_G1 := G1 _ hSw
                  have y_M0 := M0 _ hSw
                  have y_M1 := M1 _ hSw
                  have y_M2 := M2 _ hSw
                  have y_M3 := M3 _ hSw
                  have y_M4 := M4 _ hSw
                  have y_M5 := M5 _ hSw
                  have y_X0 := X0 _ hSw
                  have y_X1 := X1 _ hSw
                  have y_X2 := X2 _ hSw
                  have y_X3 := X3 _ hSw
                  have y_X4 := X4 _ hSw
                  have y_X5 := X5 _ hSw
                  go_simp
                  try (with_reducible rfl)
                simp only [Act.put, List.getElem_toArray, List.getElem_cons_succ, List.getElem_cons_zero, List.setIfInBounds_toArray, List.set_cons_zero, List.set_cons_succ]
                refine wpAnyH_take (i := 21) (v := .bool true) rfl (by kernel_rfl) (by kernel_rfl) (by kernel_rfl) (fun _ _ _ h => h) (Or.inl ⟨by kernel_rfl, ?_⟩) (by assumption) ?_
                · intro w' hSw
                  have y_G1 := G1 _ hSw
                  have y_M0 := M0 _ hSw
                  have y_M1 := M1 _ hSw
                  have y_M2 := M2 _ hSw
                  have y_M3 := M3 _ hSw
                  have y_M4 := M4 _ hSw
                  have y_M5 := M5 _ hSw
                  have y_X0 := X0 _ hSw
                  have y_X1 := X1 _ hSw
                  have y_X2 := X2 _ hSw
                  have y_X3 := X3 _ hSw
                  have y_X4 := X4 _ hSw
                  have y_X5 := X5 _ hSw
                  go_simp
                  try (with_reducible rfl)
                simp only [Act.put, List.getElem_toArray, List.getElem_cons_succ, List.getElem_cons_zero, List.setIfInBounds_toArray, List.set_cons_zero, List.set_cons_succ]
                refine wpAnyH_ready (rs := [22]) (by kernel_rfl) (by simp) ?_
                refine AllReadyH.cons rfl (fun K hK => ?_) AllReadyH.nil
                go_simp
                refine hK.out _ _ (hN9) (fun _ => ?_)
                clear hK K
                try simp only [Act.put, List.getElem_toArray, List.getElem_cons_succ, List.getElem_cons_zero, List.setIfInBounds_toArray, List.set_cons_zero, List.set_cons_succ]
                refine wpAnyH_done (by kernel_rfl) ?_ _
                go_wp2
                go_ret
                exact ⟨rfl, BN.trans ((bN5.trans (hN9.mono bN5.size)).mono BN.size)⟩
            clear G0 N0 N1 N2 N3 N4 N5 Z0 Z1 Z2 Z3 Z4 Z5 A0 KG kd bd hS4 HL4 kn4 kx4 kg4 hNw4 HST HLL HY HYO HYZ cg hsc hg hgN
            generalize wc = w6 at *
            have HL6 : Hid (LawAt wN bt bu fb mb wd o0 q0 la cap (i + 1) L5 o5 bar5 n5 w6) := H5
            have K1 := LawAt.wants H5
            clear H5
            go_wp2_with fail
            refine K1.mono ?_
            clear K1
            rintro e w7 ⟨b7, (⟨hL, sa, sc, rfl⟩ | ⟨way, d, R, g, c, cs, hL, rfl, hg, kg, cg⟩)⟩
            · have HL7 : Hid (LawAt wN bt bu fb mb wd o0 q0 la cap (i + 1) L5 o5 bar5 n5 w7) := LawAt.next HL6.out b7
              clear HL6 b7 hL kn6
              go_wp2
              exact ⟨⟨i + 1, n5, L5, o5, bar5, by omega, by go_num, hn5, HL7⟩, by simp [intOf]; omega⟩
            · have HL7 : Hid (LawAt wN bt bu fb mb wd o0 q0 la cap (i + 1) L5 o5 bar5 n5 w7) := LawAt.next HL6.out b7
              have kn7 := kn6.below b7 kn6.lt
              obtain ⟨s, hs⟩ := LawAt.step HL6.out hL
              have HST5 : Hid (Step wd o0 way d R o5 n5 s) := hs
              have HLL5 : Hid (L5 = (way, d) :: R) := hL
              have hgn : g ≠ nb := by have := kn6.lt; omega
              clear HL6 b7 hs hL kn6
              obtain ⟨y, hy⟩ : ∃ y, toldO wd s = y := ⟨_, rfl⟩
              have HY5 : Hid (toldO wd s = y) := hy
              have KA : ∀ w', Below w7.heap.size w7 w' → Calls Tryd.prog 10 #[.agg #[.int .i64 wd, .pointer q0], .string (str way)] w' fun e w'' => e = .returned (.tuple #[y.v, .int .i64 0]) ∧ Below w'.heap.size w' w'' := fun w' h => hy ▸ LawAt.at_ HL7.out HST5.out (HL7.out.bel.trans (h.mono HL7.out.bel.size))
              have kt := HL7.out.kt.below HL7.out.bel HL7.out.kt.lt
              have hbt : bt ≠ nb := by have := HL7.out.kt.lt; omega
              have T0 : ∀ w', Only nb w7 w' → w'.cell? ⟨bt, 0, none⟩ = some (.int .i64 wd) := fun w' h => (Blk.cell ((h.same bt kt.lt hbt).trans kt) 0).trans rfl
              have T1 : ∀ w', Only nb w7 w' → w'.cell? ⟨bt, 1, none⟩ = some (.pointer q0) := fun w' h => (Blk.cell ((h.same bt kt.lt hbt).trans kt) 1).trans rfl
              have G0 : ∀ w', Only nb w7 w' → w'.cell? ⟨g, 0, none⟩ = some (.string (str way)) := fun w' h => (Blk.cell ((h.same g kg.lt hgn).trans kg) 0).trans cg
              have bd7 : Below w7.heap.size w7 w7.drew := (Below.refl _ _).drew
              have o7 : Only nb w7 w7.drew := Only.of_below bd7
              clear hy kt hbt
              obtain ⟨yk, ykey, yval, ypos, yl, yr⟩ := y
              simp only [Nd.v] at KA
              go_upto_region 24 with fail
              go_cut [14] (fun ev wx => ev = .int .i64 0 ∧ NdAt wx nb ⟨yk, ykey, yval, ypos, yl, yr⟩ ∧ Only nb w7 wx)
              case first =>
                refine wp_region_held (S := fun w' => Only nb w7 w') (by kernel_rfl) ?_
                refine wpAnyH_take (i := 0) (v := ?_) rfl (by kernel_rfl) (by kernel_rfl) (by kernel_rfl) (fun _ _ _ h => h) (Or.inl ⟨by kernel_rfl, ?_⟩) (by assumption) ?_
                rotate_left
                · intro w' hSw
                  have y_T0 := T0 _ hSw
                  have y_T1 := T1 _ hSw
                  have y_G0 := G0 _ hSw
                  go_simp
                  try (with_reducible rfl)
                simp only [Act.put, List.getElem_toArray, List.getElem_cons_succ, List.getElem_cons_zero, List.setIfInBounds_toArray, List.set_cons_zero, List.set_cons_succ]
                refine wpAnyH_take (i := 1) (v := ?_) rfl (by kernel_rfl) (by kernel_rfl) (by kernel_rfl) (fun _ _ _ h => h) (Or.inl ⟨by kernel_rfl, ?_⟩) (by assumption) ?_
                rotate_left
                · intro w' hSw
                  have y_T0 := T0 _ hSw
                  have y_T1 := T1 _ hSw
                  have y_G0 := G0 _ hSw
                  go_simp
                  try (with_reducible rfl)
                simp only [Act.put, List.getElem_toArray, List.getElem_cons_succ, List.getElem_cons_zero, List.setIfInBounds_toArray, List.set_cons_zero, List.set_cons_succ]
                refine wpAnyH_take (i := 2) (v := ?_) rfl (by kernel_rfl) (by kernel_rfl) (by kernel_rfl) (fun _ _ _ h => h) (Or.inl ⟨by kernel_rfl, ?_⟩) (by assumption) ?_
                rotate_left
                · intro w' hSw
                  have y_T0 := T0 _ hSw
                  have y_T1 := T1 _ hSw
                  have y_G0 := G0 _ hSw
                  go_simp
                  try (with_reducible rfl)
                simp only [Act.put, List.getElem_toArray, List.getElem_cons_succ, List.getElem_cons_zero, List.setIfInBounds_toArray, List.set_cons_zero, List.set_cons_succ]
                refine wpAnyH_take (i := 3) (v := ?_) rfl (by kernel_rfl) (by kernel_rfl) (by kernel_rfl) (fun _ _ _ h => h) (Or.inl ⟨by kernel_rfl, ?_⟩) (by assumption) ?_
                rotate_left
                · intro w' hSw
                  have y_T0 := T0 _ hSw
                  have y_T1 := T1 _ hSw
                  have y_G0 := G0 _ hSw
                  go_simp
                  try (with_reducible rfl)
                simp only [Act.put, List.getElem_toArray, List.getElem_cons_succ, List.getElem_cons_zero, List.setIfInBounds_toArray, List.set_cons_zero, List.set_cons_succ]
                refine wpAnyH_ready (rs := [4]) (by kernel_rfl) (by simp) ?_
                refine AllReadyH.cons rfl (fun K hK => ?_) AllReadyH.nil
                go_simp
                refine (KA _ bd7).mono ?_
                rintro e w8 ⟨rfl, b8⟩
                have hN8 : Below w7.heap.size w7 w8 := bel_in bd7 b8
                have O8 : Only nb w7 w8 := Only.of_below hN8
                have kn8 := kn7.below hN8 kn7.lt
                have m0 := (kn8.cell 0).trans rfl
                have m1 := (kn8.cell 1).trans rfl
                have m2 := (kn8.cell 2).trans rfl
                have m3 := (kn8.cell 3).trans rfl
                have m4 := (kn8.cell 4).trans rfl
                have m5 := (kn8.cell 5).trans rfl
                have f0 := kn8.frozen 0
                have f1 := kn8.frozen 1
                have f2 := kn8.frozen 2
                have f3 := kn8.frozen 3
                have f4 := kn8.frozen 4
                have f5 := kn8.frozen 5
                have zn8 := kn8.lt
                refine hK.out _ _ O8 (fun _ => ?_)
                clear hK K
                try simp only [Act.put, List.getElem_toArray, List.getElem_cons_succ, List.getElem_cons_zero, List.setIfInBounds_toArray, List.set_cons_zero, List.set_cons_succ]
                refine wpAnyH_take (i := 5) (v := ?_) rfl (by kernel_rfl) (by kernel_rfl) (by kernel_rfl) (fun _ _ _ h => h) (Or.inl ⟨by kernel_rfl, ?_⟩) (by assumption) ?_
                rotate_left
                · intro w' hSw
                  have y_T0 := T0 _ hSw
                  have y_T1 := T1 _ hSw
                  have y_G0 := G0 _ hSw
                  go_simp
                  try (with_reducible rfl)
                simp only [Act.put, List.getElem_toArray, List.getElem_cons_succ, List.getElem_cons_zero, List.setIfInBounds_toArray, List.set_cons_zero, List.set_cons_succ]
                refine wpAnyH_take (i := 6) (v := ?_) rfl (by kernel_rfl) (by kernel_rfl) (by kernel_rfl) (fun _ _ _ h => h) (Or.inl ⟨by kernel_rfl, ?_⟩) (by assumption) ?_
                rotate_left
                · intro w' hSw
                  have y_T0 := T0 _ hSw
                  have y_T1 := T1 _ hSw
                  have y_G0 := G0 _ hSw
                  go_simp
                  try (with_reducible rfl)
                simp only [Act.put, List.getElem_toArray, List.getElem_cons_succ, List.getElem_cons_zero, List.setIfInBounds_toArray, List.set_cons_zero, List.set_cons_succ]
                refine wpAnyH_take (i := 7) (v := ?_) rfl (by kernel_rfl) (by kernel_rfl) (by kernel_rfl) (fun _ _ _ h => h) (Or.inl ⟨by kernel_rfl, ?_⟩) (by assumption) ?_
                rotate_left
                · intro w' hSw
                  have y_T0 := T0 _ hSw
                  have y_T1 := T1 _ hSw
                  have y_G0 := G0 _ hSw
                  go_simp
                  try (with_reducible rfl)
                simp only [Act.put, List.getElem_toArray, List.getElem_cons_succ, List.getElem_cons_zero, List.setIfInBounds_toArray, List.set_cons_zero, List.set_cons_succ]
                refine wpAnyH_ready (rs := [8]) (by kernel_rfl) (by simp) ?_
                refine AllReadyH.cons rfl (fun K hK => ?_) AllReadyH.nil
                go_simp
                refine hK.out _ _ (six_only O8 _ _ _ _ _ _) (fun _ => ?_)
                clear hK K
                try simp only [Act.put, List.getElem_toArray, List.getElem_cons_succ, List.getElem_cons_zero, List.setIfInBounds_toArray, List.set_cons_zero, List.set_cons_succ]
                refine wpAnyH_ready (rs := [9]) (by kernel_rfl) (by simp) ?_
                refine AllReadyH.cons rfl (fun K hK => ?_) AllReadyH.nil
                go_simp
                refine hK.out _ _ (six_only O8 _ _ _ _ _ _) (fun _ => ?_)
                clear hK K
                try simp only [Act.put, List.getElem_toArray, List.getElem_cons_succ, List.getElem_cons_zero, List.setIfInBounds_toArray, List.set_cons_zero, List.set_cons_succ]
                refine wpAnyH_done (by kernel_rfl) ?_ _
                go_wp2
                go_meet
                exact ⟨rfl, six_blk kn8 _ _ _ _ _ _, six_only O8 _ _ _ _ _ _⟩
              case rest =>
                obtain ⟨rfl, kn9, O9⟩ := hcut
                have H9 : Hid (LawAt wN bt bu fb mb wd o0 q0 la cap (i + 1) L5 o5 bar5 n5 wc) := LawAt.side HL7.out kn7 hnbN O9
                have kg2 := (O9.same g kg.lt hgn).trans kg
                have G1 : ∀ w', Kt wc w' → w'.cell? ⟨g, 0, none⟩ = some (.string (str way)) := fun w' h => ((h.same _ _ _ kg2 (by decide) (by decide)).cell 0).trans cg
                have N0 : ∀ w', Kt wc w' → w'.cell? ⟨nb, 0, none⟩ = some (.int .i64 yk) := fun w' h => ((h.same _ _ _ kn9 (by decide) (by decide)).cell 0).trans rfl
                have N1 : ∀ w', Kt wc w' → w'.cell? ⟨nb, 1, none⟩ = some (.string (str ykey)) := fun w' h => ((h.same _ _ _ kn9 (by decide) (by decide)).cell 1).trans rfl
                have N2 : ∀ w', Kt wc w' → w'.cell? ⟨nb, 2, none⟩ = some (.string (str yval)) := fun w' h => ((h.same _ _ _ kn9 (by decide) (by decide)).cell 2).trans rfl
                have N3 : ∀ w', Kt wc w' → w'.cell? ⟨nb, 3, none⟩ = some (.int .i64 ypos) := fun w' h => ((h.same _ _ _ kn9 (by decide) (by decide)).cell 3).trans rfl
                have N4 : ∀ w', Kt wc w' → w'.cell? ⟨nb, 4, none⟩ = some (.int .u64 yl) := fun w' h => ((h.same _ _ _ kn9 (by decide) (by decide)).cell 4).trans rfl
                have N5 : ∀ w', Kt wc w' → w'.cell? ⟨nb, 5, none⟩ = some (.int .u64 yr) := fun w' h => ((h.same _ _ _ kn9 (by decide) (by decide)).cell 5).trans rfl
                have bd : Below wc.heap.size wc wc.drew := (Below.refl _ _).drew
                have KG := LawAt.honest (LawAt.next H9.out bd) (by omega) HLL5.out HST5.out 0 H9.out.b0 (by omega)
                rw [HY5.out] at KG
                simp only [Nd.v] at KG
                have kd : Kt wc wc.drew := Kt.of_below bd
                clear KA T0 T1 G0 kn7 kg2 HL7
                go_wp2_with fail
                refine wp_region_held (S := fun w' => Kt wc w') (by kernel_rfl) ?_
                refine wpAnyH_take (i := 0) (v := ?_) rfl (by kernel_rfl) (by kernel_rfl) (by kernel_rfl) (fun _ _ _ h => h) (Or.inl ⟨by kernel_rfl, ?_⟩) (by assumption) ?_
                rotate_left
                · intro w' hSw
                  have y_G1 := G1 _ hSw
                  have y_N0 := N0 _ hSw
                  have y_N1 := N1 _ hSw
                  have y_N2 := N2 _ hSw
                  have y_N3 := N3 _ hSw
                  have y_N4 := N4 _ hSw
                  have y_N5 := N5 _ hSw
                  go_simp
                  try (with_reducible rfl)
                simp only [Act.put, List.getElem_toArray, List.getElem_cons_succ, List.getElem_cons_zero, List.setIfInBounds_toArray, List.set_cons_zero, List.set_cons_succ]
                refine wpAnyH_take (i := 1) (v := .bool false) rfl (by kernel_rfl) (by kernel_rfl) (by kernel_rfl) (fun _ _ _ h => h) (Or.inl ⟨by kernel_rfl, ?_⟩) (by assumption) ?_
                · intro w' hSw
                  have y_G1 := G1 _ hSw
                  have y_N0 := N0 _ hSw
                  have y_N1 := N1 _ hSw
                  have y_N2 := N2 _ hSw
                  have y_N3 := N3 _ hSw
                  have y_N4 := N4 _ hSw
                  have y_N5 := N5 _ hSw
                  go_simp
                  try (with_reducible rfl)
                simp only [Act.put, List.getElem_toArray, List.getElem_cons_succ, List.getElem_cons_zero, List.setIfInBounds_toArray, List.set_cons_zero, List.set_cons_succ]
                refine wpAnyH_take (i := 2) (v := .bool false) rfl (by kernel_rfl) (by kernel_rfl) (by kernel_rfl) (fun _ _ _ h => h) (Or.inl ⟨by kernel_rfl, ?_⟩) (by assumption) ?_
                · intro w' hSw
                  have y_G1 := G1 _ hSw
                  have y_N0 := N0 _ hSw
                  have y_N1 := N1 _ hSw
                  have y_N2 := N2 _ hSw
                  have y_N3 := N3 _ hSw
                  have y_N4 := N4 _ hSw
                  have y_N5 := N5 _ hSw
                  go_simp
                  try (with_reducible rfl)
                simp only [Act.put, List.getElem_toArray, List.getElem_cons_succ, List.getElem_cons_zero, List.setIfInBounds_toArray, List.set_cons_zero, List.set_cons_succ]
                refine wpAnyH_take (i := 3) (v := ?_) rfl (by kernel_rfl) (by kernel_rfl) (by kernel_rfl) (fun _ _ _ h => h) (Or.inl ⟨by kernel_rfl, ?_⟩) (by assumption) ?_
                rotate_left
                · intro w' hSw
                  have y_G1 := G1 _ hSw
                  have y_N0 := N0 _ hSw
                  have y_N1 := N1 _ hSw
                  have y_N2 := N2 _ hSw
                  have y_N3 := N3 _ hSw
                  have y_N4 := N4 _ hSw
                  have y_N5 := N5 _ hSw
                  go_simp
                  try (with_reducible rfl)
                simp only [Act.put, List.getElem_toArray, List.getElem_cons_succ, List.getElem_cons_zero, List.setIfInBounds_toArray, List.set_cons_zero, List.set_cons_succ]
                refine wpAnyH_take (i := 4) (v := ?_) rfl (by kernel_rfl) (by kernel_rfl) (by kernel_rfl) (fun _ _ _ h => h) (Or.inl ⟨by kernel_rfl, ?_⟩) (by assumption) ?_
                rotate_left
                · intro w' hSw
                  have y_G1 := G1 _ hSw
                  have y_N0 := N0 _ hSw
                  have y_N1 := N1 _ hSw
                  have y_N2 := N2 _ hSw
                  have y_N3 := N3 _ hSw
                  have y_N4 := N4 _ hSw
                  have y_N5 := N5 _ hSw
                  go_simp
                  try (with_reducible rfl)
                simp only [Act.put, List.getElem_toArray, List.getElem_cons_succ, List.getElem_cons_zero, List.setIfInBounds_toArray, List.set_cons_zero, List.set_cons_succ]
                refine wpAnyH_take (i := 5) (v := ?_) rfl (by kernel_rfl) (by kernel_rfl) (by kernel_rfl) (fun _ _ _ h => h) (Or.inl ⟨by kernel_rfl, ?_⟩) (by assumption) ?_
                rotate_left
                · intro w' hSw
                  have y_G1 := G1 _ hSw
                  have y_N0 := N0 _ hSw
                  have y_N1 := N1 _ hSw
                  have y_N2 := N2 _ hSw
                  have y_N3 := N3 _ hSw
                  have y_N4 := N4 _ hSw
                  have y_N5 := N5 _ hSw
                  go_simp
                  try (with_reducible rfl)
                simp only [Act.put, List.getElem_toArray, List.getElem_cons_succ, List.getElem_cons_zero, List.setIfInBounds_toArray, List.set_cons_zero, List.set_cons_succ]
                refine wpAnyH_take (i := 6) (v := ?_) rfl (by kernel_rfl) (by kernel_rfl) (by kernel_rfl) (fun _ _ _ h => h) (Or.inl ⟨by kernel_rfl, ?_⟩) (by assumption) ?_
                rotate_left
                · intro w' hSw
                  have y_G1 := G1 _ hSw
                  have y_N0 := N0 _ hSw
                  have y_N1 := N1 _ hSw
                  have y_N2 := N2 _ hSw
                  have y_N3 := N3 _ hSw
                  have y_N4 := N4 _ hSw
                  have y_N5 := N5 _ hSw
                  go_simp
                  try (with_reducible rfl)
                simp only [Act.put, List.getElem_toArray, List.getElem_cons_succ, List.getElem_cons_zero, List.setIfInBounds_toArray, List.set_cons_zero, List.set_cons_succ]
                refine wpAnyH_take (i := 7) (v := ?_) rfl (by kernel_rfl) (by kernel_rfl) (by kernel_rfl) (fun _ _ _ h => h) (Or.inl ⟨by kernel_rfl, ?_⟩) (by assumption) ?_
                rotate_left
                · intro w' hSw
                  have y_G1 := G1 _ hSw
                  have y_N0 := N0 _ hSw
                  have y_N1 := N1 _ hSw
                  have y_N2 := N2 _ hSw
                  have y_N3 := N3 _ hSw
                  have y_N4 := N4 _ hSw
                  have y_N5 := N5 _ hSw
                  go_simp
                  try (with_reducible rfl)
                simp only [Act.put, List.getElem_toArray, List.getElem_cons_succ, List.getElem_cons_zero, List.setIfInBounds_toArray, List.set_cons_zero, List.set_cons_succ]
                refine wpAnyH_ready (rs := [8]) (by kernel_rfl) (by simp) ?_
                refine AllReadyH.cons rfl (fun K hK => ?_) AllReadyH.nil
                go_simp
                refine KG.mono ?_
                rintro e w9 ⟨rfl, kt9, L', o', mm, hmm, HL9⟩
                have kN9 : Kt wc w9 := kd.trans kt9
                refine hK.out _ _ kN9 (fun _ => ?_)
                clear hK K KG
                try simp only [Act.put, List.getElem_toArray, List.getElem_cons_succ, List.getElem_cons_zero, List.setIfInBounds_toArray, List.set_cons_zero, List.set_cons_succ]
                refine wpAnyH_take (i := 9) (v := .bool false) rfl (by kernel_rfl) (by kernel_rfl) (by kernel_rfl) (fun _ _ _ h => h) (Or.inl ⟨by kernel_rfl, ?_⟩) (by assumption) ?_
                · intro w' hSw
                  have y_G1 := G1 _ hSw
                  have y_N0 := N0 _ hSw
                  have y_N1 := N1 _ hSw
                  have y_N2 := N2 _ hSw
                  have y_N3 := N3 _ hSw
                  have y_N4 := N4 _ hSw
                  have y_N5 := N5 _ hSw
                  go_simp
                  try (with_reducible rfl)
                simp only [Act.put, List.getElem_toArray, List.getElem_cons_succ, List.getElem_cons_zero, List.setIfInBounds_toArray, List.set_cons_zero, List.set_cons_succ]
                refine wpAnyH_take (i := 10) (v := .bool false) rfl (by kernel_rfl) (by kernel_rfl) (by kernel_rfl) (fun _ _ _ h => h) (Or.inl ⟨by kernel_rfl, ?_⟩) (by assumption) ?_
                · intro w' hSw
                  have y_G1 := G1 _ hSw
                  have y_N0 := N0 _ hSw
                  have y_N1 := N1 _ hSw
                  have y_N2 := N2 _ hSw
                  have y_N3 := N3 _ hSw
                  have y_N4 := N4 _ hSw
                  have y_N5 := N5 _ hSw
                  go_simp
                  try (with_reducible rfl)
                simp only [Act.put, List.getElem_toArray, List.getElem_cons_succ, List.getElem_cons_zero, List.setIfInBounds_toArray, List.set_cons_zero, List.set_cons_succ]
                refine wpAnyH_done (by kernel_rfl) ?_ _
                clear G1 N0 N1 N2 N3 N4 N5 kd bd kt9 kN9
                go_wp2
                exact ⟨⟨i + 1, mm, L', o', bar5, by omega, by go_num, by omega, HL9⟩, by simp [intOf]; omega⟩
end Go.Proofs.YtemlbcagkjmjgaaDoor
