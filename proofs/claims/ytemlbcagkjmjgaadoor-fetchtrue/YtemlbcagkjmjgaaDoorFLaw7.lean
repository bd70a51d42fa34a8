/- FetchTrue: who does not lie brings the tree to its end. -/
import Derived.Test.YtemlbcagkjmjgaaDoorFLaw8
import Derived.Test.YtemlbcagkjmjgaaDoorFLawB
import Derived.Deep.CutBlock
import Derived.Deep.RegionHeld3
namespace Go.Proofs.YtemlbcagkjmjgaaDoor
open Go.RowKit Go.Maps
set_option linter.unusedVariables false
set_option linter.unusedSimpArgs false

set_option maxRecDepth 20000 in
set_option maxHeartbeats 12800000 in
theorem ft7 (w0 wN wq : World) (bt bu fb mb : Nat) (wd : Int) (o0 : Option Tr) (q0 la : Option Addr) (cap k n : Nat) (hk : k ≤ 1000) (hn : n ≤ 2047) (L : List (Key × Int)) (o : Option Tr) (bar : List Int) (BN : Below w0.heap.size w0 wN) (H : LawAt wN bt bu fb mb wd o0 q0 la cap k L o bar n wq) (c1 c2 c3 c4 c5 c6 c7 c11 c12 c13 c14 c15 c16 c17 c18 c19 c20 c21 c22 c23 c24 c25 c26 c27 c28 c29 c30 c31 c32 c33 c34 c35 c36 c37 c38 c39 c40 c41 c42 c43 c44 c45 c46 c47 c48 c49 c50 c51 c52 c53 c54 c55 c56 c57 c58 c59 c60 c61 c62 c63 c64 c65 c66 c67 c68 c69 c70 c71 c72 c73 c74 c75 c76 c77 c78 c79 c80 c81 c82 c83 c84 c85 c86 c87 c88 c89 c90 c91 c92 c93 c94 c95 c96 c97 c98 c99 c100 c101 c102 c103 c104 c105 c106 c107 c108 c109 c110 c111 c112 c113 c114 c115 c116 c117 c118 c119 c120 c121 c122 c123 c124 c125 c126 c127 c128 c129 c130 c131 c132 c133 c134 c135 c136 c137 c138 c139 c140 c141 c142 c143 c144 c145 c146 c147 c148 c149 c150 c151 c152 c153 c154 c155 c156 c157 c158 c159 c160 c161 c162 c163 c164 c165 c166 c167 c168 c169 c170 c171 c172 c173 c174 c175 c176 c177 c178 c179 c180 c181 c182 c183 c184 c185 c186 c187 c188 c189 c190 c191 c192 c193 c194 c195 c196 c197 c198 c199 c200 c201 c202 c203 c204 c205 c206 c207 c208 c209 c210 c211 c212 : Value) :
    Code.wp Tryd.prog (dropSeq 7 (Tryd.f3.body.getD .skip)) (bodyPost Tryd.prog Tryd.f3 (fun e w' => e = .returned (.bool true) ∧ Below w0.heap.size w0 w')) ⟨#[.int .i64 wd, c1, c2, c3, c4, c5, c6, c7, .pointer (some ⟨bt, 0, none⟩), .pointer (some ⟨bu, 0, none⟩), .pointer (some ⟨fb, 0, none⟩), c11, c12, c13, c14, c15, c16, c17, c18, c19, c20, c21, c22, c23, c24, c25, c26, c27, c28, c29, c30, c31, c32, c33, c34, c35, c36, c37, c38, c39, c40, c41, c42, c43, c44, c45, c46, c47, c48, c49, c50, c51, c52, c53, c54, c55, c56, c57, c58, c59, c60, c61, c62, c63, c64, c65, c66, c67, c68, c69, c70, c71, c72, c73, c74, c75, c76, c77, c78, c79, c80, c81, c82, c83, c84, c85, c86, c87, c88, c89, c90, c91, c92, c93, c94, c95, c96, c97, c98, c99, c100, c101, c102, c103, c104, c105, c106, c107, c108, c109, c110, c111, c112, c113, c114, c115, c116, c117, c118, c119, c120, c121, c122, c123, c124, c125, c126, c127, c128, c129, c130, c131, c132, c133, c134, c135, c136, c137, c138, c139, c140, c141, c142, c143, c144, c145, c146, c147, c148, c149, c150, c151, c152, c153, c154, c155, c156, c157, c158, c159, c160, c161, c162, c163, c164, c165, c166, c167, c168, c169, c170, c171, c172, c173, c174, c175, c176, c177, c178, c179, c180, c181, c182, c183, c184, c185, c186, c187, c188, c189, c190, c191, c192, c193, c194, c195, c196, c197, c198, c199, c200, c201, c202, c203, c204, c205, c206, c207, c208, c209, c210, c211, c212], []⟩ wq := by
  conv => arg 2; whnf
  conv => arg 4; dsimp only
  go_upto_block 4 with fail
  go_cut [] (fun wx => ∃ o n, LawAt wN bt bu fb mb wd o0 q0 la cap k [] o bar n wx)
  case rest =>
    obtain ⟨o, n, H⟩ := hcut
    refine ‹∀ a w, Code.wp Tryd.prog _ _ a w → _› _ _ ?_
    exact ft8 w0 wN wc bt bu fb mb wd o0 q0 la cap k n o bar BN H _ _ _ _ _ _ _ _ _ _ _ _ _ _ _ _ _ _ _ _ _ _ _ _ _ _ _ _ _ _ _ _ _ _ _ _ _ _ _ _ _ _ _ _ _ _ _ _ _ _ _ _ _ _ _ _ _ _ _ _ _ _ _ _ _ _ _ _ _ _ _ _ _ _ _ _ _ _ _ _ _ _ _ _ _ _ _ _ _ _ _ _ _ _ _ _ _ _ _ _ _ _ _ _ _ _ _ _ _ _ _ _ _ _ _ _ _ _ _ _ _ _ _ _ _ _ _ _ _ _ _ _ _ _ _ _ _ _ _ _ _ _ _ _ _ _ _ _ _ _ _ _ _ _ _ _ _ _ _ _ _ _ _ _ _ _ _ _ _ _ _ _ _ _ _ _ _ _ _ _ _ _ _ _ _ _ _ _ _ _ _ _ _ _ _ _ _ _ _ _ _ _ _ _ _ _ _ _ _
  case first =>
    have H0 : Hid (LawAt wN bt bu fb mb wd o0 q0 la cap k L o bar n wq) := H
    clear H
    go_wp2_with fail
    go_loopw [16] (fun kv wv => ∃ (j n : Nat) (L : List (Key × Int)) (o : Option Tr), n + j ≤ 2047 ∧ kv = .int .i64 j ∧ Hid (LawAt wN bt bu fb mb wd o0 q0 la cap k L o bar n wv)) (fun kv _ => 3000 - (intOf kv).toNat)
    case atStart => exact ⟨0, n, L, o, by omega, rfl, H0⟩
    case round =>
      obtain ⟨j, n, L, o, hj, rfl, HL⟩ := hrel
      clear H0
      have hlt : (j : Int) < 3000 := by omega
      have K1 := LawAt.wants HL.out
      go_wp2_with fail
      refine K1.mono ?_
      clear K1
      rintro e w1 ⟨b1, (⟨hL, sa, sc, rfl⟩ | ⟨way, d, R, g, c, cs, hL, rfl, hg, kg, cg⟩)⟩
      · subst hL
        have HL1 : Hid (LawAt wN bt bu fb mb wd o0 q0 la cap k [] o bar n w1) := LawAt.next HL.out b1
        clear HL b1
        go_wp2_with fail
        go_meet
        case rel => exact ⟨_, _, HL1.out⟩
      · have HL1 : Hid (LawAt wN bt bu fb mb wd o0 q0 la cap k L o bar n w1) := LawAt.next HL.out b1
        obtain ⟨s, hs⟩ := LawAt.step HL.out hL
        have HST : Hid (Step wd o0 way d R o n s) := hs
        have HLL : Hid (L = (way, d) :: R) := hL
        clear HL b1 hs hL
        go_upto_region 32 with fail
        obtain ⟨y, hy⟩ : ∃ y, toldO wd s = y := ⟨_, rfl⟩
        have HY : Hid (toldO wd s = y) := hy
        have KA : ∀ w', Below w1.heap.size w1 w' → Calls Tryd.prog 10 #[.agg #[.int .i64 wd, .pointer q0], .string (str way)] w' fun e w'' => e = .returned (.tuple #[y.v, .int .i64 0]) ∧ Below w'.heap.size w' w'' := fun w' h => hy ▸ LawAt.at_ HL1.out HST.out (HL1.out.bel.trans (h.mono HL1.out.bel.size))
        have kt := HL1.out.kt.below HL1.out.bel HL1.out.kt.lt
        have T0 : ∀ w', Below w1.heap.size w1 w' → w'.cell? ⟨bt, 0, none⟩ = some (.int .i64 wd) := fun w' h => ((kt.below h kt.lt).cell 0).trans rfl
        have T1 : ∀ w', Below w1.heap.size w1 w' → w'.cell? ⟨bt, 1, none⟩ = some (.pointer q0) := fun w' h => ((kt.below h kt.lt).cell 1).trans rfl
        have G0 : ∀ w', Below w1.heap.size w1 w' → w'.cell? ⟨g, 0, none⟩ = some (.string (str way)) := fun w' h => ((kg.below h kg.lt).cell 0).trans cg
        have bw : Below w1.heap.size w1 w1 := Below.refl _ _
        clear hy kt
        obtain ⟨yk, ykey, yval, ypos, yl, yr⟩ := y
        simp only [Nd.v] at KA
        go_cut [18, 19] (fun nv ev wx => ToldAt w1 ⟨yk, ykey, yval, ypos, yl, yr⟩ nv ev wx)
        case first =>
          have bd : Below w1.heap.size w1 w1.drew := (Below.refl _ _).drew
          refine wp_region_held (S := fun w' => Below w1.heap.size w1 w') (by kernel_rfl) ?_
          refine wpAnyH_take (i := 0) (v := ?_) rfl (by kernel_rfl) (by kernel_rfl) (by kernel_rfl) (fun _ _ _ h => h) (Or.inl ⟨by kernel_rfl, ?_⟩) (by assumption) ?_
          rotate_left
          · intro w' hSw
            have y_T0 := T0 _ hSw
            have y_T1 := T1 _ hSw
            have y_G0 := G0 _ hSw
            go_simp
            try (with_reducible rfl)
          simp only [Act.put, List.getElem_toArray, List.getElem_cons_succ, List.getElem_cons_zero, List.setIfInBounds_toArray, List.set_cons_zero, List.set_cons_succ]
          refine wpAnyH_take (i := 1) (v := ?_) rfl (by kernel_rfl) (by kernel_rfl) (by kernel_rfl) (fun _ _ _ h => h) (Or.inl ⟨by kernel_rfl, ?_⟩) (by assumption) ?_
          rotate_left
          · intro w' hSw
            have y_T0 := T0 _ hSw
            have y_T1 := T1 _ hSw
            have y_G0 := G0 _ hSw
            go_simp
            try (with_reducible rfl)
          simp only [Act.put, List.getElem_toArray, List.getElem_cons_succ, List.getElem_cons_zero, List.setIfInBounds_toArray, List.set_cons_zero, List.set_cons_succ]
          refine wpAnyH_take (i := 2) (v := ?_) rfl (by kernel_rfl) (by kernel_rfl) (by kernel_rfl) (fun _ _ _ h => h) (Or.inl ⟨by kernel_rfl, ?_⟩) (by assumption) ?_
          rotate_left
          · intro w' hSw
            have y_T0 := T0 _ hSw
            have y_T1 := T1 _ hSw
            have y_G0 := G0 _ hSw
            go_simp
            try (with_reducible rfl)
          simp only [Act.put, List.getElem_toArray, List.getElem_cons_succ, List.getElem_cons_zero, List.setIfInBounds_toArray, List.set_cons_zero, List.set_cons_succ]
          refine wpAnyH_take (i := 3) (v := ?_) rfl (by kernel_rfl) (by kernel_rfl) (by kernel_rfl) (fun _ _ _ h => h) (Or.inl ⟨by kernel_rfl, ?_⟩) (by assumption) ?_
          rotate_left
          · intro w' hSw
            have y_T0 := T0 _ hSw
            have y_T1 := T1 _ hSw
            have y_G0 := G0 _ hSw
            go_simp
            try (with_reducible rfl)
          simp only [Act.put, List.getElem_toArray, List.getElem_cons_succ, List.getElem_cons_zero, List.setIfInBounds_toArray, List.set_cons_zero, List.set_cons_succ]
          refine wpAnyH_ready (rs := [4, 8]) (by kernel_rfl) (by simp) ?_
          refine AllReadyH.cons rfl (fun K hK => ?_) (AllReadyH.cons rfl (fun K hK => ?_) AllReadyH.nil)
          · go_simp
            refine (KA _ bd).mono ?_
            rintro e w3 ⟨rfl, b3⟩
            have hN3 : Below w1.heap.size w1 w3 := bel_in bd b3
            refine hK.out _ _ hN3 (fun _ => ?_)
            clear hK K
            try simp only [Act.put, List.getElem_toArray, List.getElem_cons_succ, List.getElem_cons_zero, List.setIfInBounds_toArray, List.set_cons_zero, List.set_cons_succ]
            refine wpAnyH_take (i := 5) (v := ?_) rfl (by kernel_rfl) (by kernel_rfl) (by kernel_rfl) (fun _ _ _ h => h) (Or.inl ⟨by kernel_rfl, ?_⟩) (by assumption) ?_
            rotate_left
            · intro w' hSw
              have y_T0 := T0 _ hSw
              have y_T1 := T1 _ hSw
              have y_G0 := G0 _ hSw
              go_simp
              try (with_reducible rfl)
            simp only [Act.put, List.getElem_toArray, List.getElem_cons_succ, List.getElem_cons_zero, List.setIfInBounds_toArray, List.set_cons_zero, List.set_cons_succ]
            refine wpAnyH_take (i := 6) (v := ?_) rfl (by kernel_rfl) (by kernel_rfl) (by kernel_rfl) (fun _ _ _ h => h) (Or.inl ⟨by kernel_rfl, ?_⟩) (by assumption) ?_
            rotate_left
            · intro w' hSw
              have y_T0 := T0 _ hSw
              have y_T1 := T1 _ hSw
              have y_G0 := G0 _ hSw
              go_simp
              try (with_reducible rfl)
            simp only [Act.put, List.getElem_toArray, List.getElem_cons_succ, List.getElem_cons_zero, List.setIfInBounds_toArray, List.set_cons_zero, List.set_cons_succ]
            refine wpAnyH_take (i := 7) (v := ?_) rfl (by kernel_rfl) (by kernel_rfl) (by kernel_rfl) (fun _ _ _ h => h) (Or.inl ⟨by kernel_rfl, ?_⟩) (by assumption) ?_
            rotate_left
            · intro w' hSw
              have y_T0 := T0 _ hSw
              have y_T1 := T1 _ hSw
              have y_G0 := G0 _ hSw
              go_simp
              try (with_reducible rfl)
            simp only [Act.put, List.getElem_toArray, List.getElem_cons_succ, List.getElem_cons_zero, List.setIfInBounds_toArray, List.set_cons_zero, List.set_cons_succ]
            refine wpAnyH_ready (rs := [8]) (by kernel_rfl) (by simp) ?_
            refine AllReadyH.cons rfl (fun K hK => ?_) AllReadyH.nil
            go_simp
            refine hK.out _ _ (by first | exact bel_al hN3 _ | exact (bel_al hN3 _).drew) (fun _ => ?_)
            clear hK K
            try simp only [Act.put, List.getElem_toArray, List.getElem_cons_succ, List.getElem_cons_zero, List.setIfInBounds_toArray, List.set_cons_zero, List.set_cons_succ]
            refine wpAnyH_ready (rs := [9]) (by kernel_rfl) (by simp) ?_
            refine AllReadyH.cons rfl (fun K hK => ?_) AllReadyH.nil
            go_simp
            refine hK.out _ _ (by first | exact bel_al hN3 _ | exact (bel_al hN3 _).drew) (fun _ => ?_)
            clear hK K
            try simp only [Act.put, List.getElem_toArray, List.getElem_cons_succ, List.getElem_cons_zero, List.setIfInBounds_toArray, List.set_cons_zero, List.set_cons_succ]
            refine wpAnyH_ready (rs := [10]) (by kernel_rfl) (by simp) ?_
            refine AllReadyH.cons rfl (fun K hK => ?_) AllReadyH.nil
            go_simp
            refine hK.out _ _ (by first | exact bel_al hN3 _ | exact (bel_al hN3 _).drew) (fun _ => ?_)
            clear hK K
            try simp only [Act.put, List.getElem_toArray, List.getElem_cons_succ, List.getElem_cons_zero, List.setIfInBounds_toArray, List.set_cons_zero, List.set_cons_succ]
            refine wpAnyH_done (by kernel_rfl) ?_ _
            go_wp2
            go_meet
            exact told_late (y := ⟨yk, ykey, yval, ypos, yl, yr⟩) hN3
          · go_simp
            have bz : Below w1.heap.size w1 (w1.alloc zeroN).drew := (bel_al bw _).drew
            refine hK.out _ _ bz (fun _ => ?_)
            clear hK K
            try simp only [Act.put, List.getElem_toArray, List.getElem_cons_succ, List.getElem_cons_zero, List.setIfInBounds_toArray, List.set_cons_zero, List.set_cons_succ]
            refine wpAnyH_ready (rs := [4]) (by kernel_rfl) (by simp) ?_
            refine AllReadyH.cons rfl (fun K hK => ?_) AllReadyH.nil
            go_simp
            refine (KA _ bz).mono ?_
            rintro e w3 ⟨rfl, b3⟩
            have hN3 : Below w1.heap.size w1 w3 := bel_in bz b3
            obtain ⟨ob1, ⟨oc0, oc1, oc2, oc3, oc4, oc5⟩, ⟨of0, of1, of2, of3, of4, of5⟩, olt⟩ := own6 b3
            refine hK.out _ _ hN3 (fun _ => ?_)
            clear hK K
            try simp only [Act.put, List.getElem_toArray, List.getElem_cons_succ, List.getElem_cons_zero, List.setIfInBounds_toArray, List.set_cons_zero, List.set_cons_succ]
            refine wpAnyH_take (i := 5) (v := ?_) rfl (by kernel_rfl) (by kernel_rfl) (by kernel_rfl) (fun _ _ _ h => h) (Or.inl ⟨by kernel_rfl, ?_⟩) (by assumption) ?_
            rotate_left
            · intro w' hSw
              have y_T0 := T0 _ hSw
              have y_T1 := T1 _ hSw
              have y_G0 := G0 _ hSw
              go_simp
              try (with_reducible rfl)
            simp only [Act.put, List.getElem_toArray, List.getElem_cons_succ, List.getElem_cons_zero, List.setIfInBounds_toArray, List.set_cons_zero, List.set_cons_succ]
            refine wpAnyH_take (i := 6) (v := ?_) rfl (by kernel_rfl) (by kernel_rfl) (by kernel_rfl) (fun _ _ _ h => h) (Or.inl ⟨by kernel_rfl, ?_⟩) (by assumption) ?_
            rotate_left
            · intro w' hSw
              have y_T0 := T0 _ hSw
              have y_T1 := T1 _ hSw
              have y_G0 := G0 _ hSw
              go_simp
              try (with_reducible rfl)
            simp only [Act.put, List.getElem_toArray, List.getElem_cons_succ, List.getElem_cons_zero, List.setIfInBounds_toArray, List.set_cons_zero, List.set_cons_succ]
            refine wpAnyH_take (i := 7) (v := ?_) rfl (by kernel_rfl) (by kernel_rfl) (by kernel_rfl) (fun _ _ _ h => h) (Or.inl ⟨by kernel_rfl, ?_⟩) (by assumption) ?_
            rotate_left
            · intro w' hSw
              have y_T0 := T0 _ hSw
              have y_T1 := T1 _ hSw
              have y_G0 := G0 _ hSw
              go_simp
              try (with_reducible rfl)
            simp only [Act.put, List.getElem_toArray, List.getElem_cons_succ, List.getElem_cons_zero, List.setIfInBounds_toArray, List.set_cons_zero, List.set_cons_succ]
            refine wpAnyH_ready (rs := [9]) (by kernel_rfl) (by simp) ?_
            refine AllReadyH.cons rfl (fun K hK => ?_) AllReadyH.nil
            go_simp
            refine hK.out _ _ (six_bel hN3 (Nat.le_refl _) _ _ _ _ _ _) (fun _ => ?_)
            clear hK K
            try simp only [Act.put, List.getElem_toArray, List.getElem_cons_succ, List.getElem_cons_zero, List.setIfInBounds_toArray, List.set_cons_zero, List.set_cons_succ]
            refine wpAnyH_ready (rs := [10]) (by kernel_rfl) (by simp) ?_
            refine AllReadyH.cons rfl (fun K hK => ?_) AllReadyH.nil
            go_simp
            refine hK.out _ _ (six_bel hN3 (Nat.le_refl _) _ _ _ _ _ _) (fun _ => ?_)
            clear hK K
            try simp only [Act.put, List.getElem_toArray, List.getElem_cons_succ, List.getElem_cons_zero, List.setIfInBounds_toArray, List.set_cons_zero, List.set_cons_succ]
            refine wpAnyH_done (by kernel_rfl) ?_ _
            go_wp2
            go_meet
            exact told_early (y := ⟨yk, ykey, yval, ypos, yl, yr⟩) (Nat.le_refl _) ob1 hN3
        case rest =>
          obtain ⟨nb, rfl, rfl, hnb, kn, bx⟩ := hcut
          have HL2 : Hid (LawAt wN bt bu fb mb wd o0 q0 la cap k L o bar n wc) := LawAt.next HL1.out bx
          have kg2 := kg.below bx kg.lt
          have G0 : ∀ w', Kt wc w' → w'.cell? ⟨g, 0, none⟩ = some (.string (str way)) := fun w' h => ((h.same _ _ _ kg2 (by decide) (by decide)).cell 0).trans cg
          have N0 : ∀ w', Kt wc w' → w'.cell? ⟨nb, 0, none⟩ = some (.int .i64 yk) := fun w' h => ((h.same _ _ _ kn (by decide) (by decide)).cell 0).trans rfl
          have N1 : ∀ w', Kt wc w' → w'.cell? ⟨nb, 1, none⟩ = some (.string (str ykey)) := fun w' h => ((h.same _ _ _ kn (by decide) (by decide)).cell 1).trans rfl
          have N2 : ∀ w', Kt wc w' → w'.cell? ⟨nb, 2, none⟩ = some (.string (str yval)) := fun w' h => ((h.same _ _ _ kn (by decide) (by decide)).cell 2).trans rfl
          have N3 : ∀ w', Kt wc w' → w'.cell? ⟨nb, 3, none⟩ = some (.int .i64 ypos) := fun w' h => ((h.same _ _ _ kn (by decide) (by decide)).cell 3).trans rfl
          have N4 : ∀ w', Kt wc w' → w'.cell? ⟨nb, 4, none⟩ = some (.int .u64 yl) := fun w' h => ((h.same _ _ _ kn (by decide) (by decide)).cell 4).trans rfl
          have N5 : ∀ w', Kt wc w' → w'.cell? ⟨nb, 5, none⟩ = some (.int .u64 yr) := fun w' h => ((h.same _ _ _ kn (by decide) (by decide)).cell 5).trans rfl
          have bd : Below wc.heap.size wc wc.drew := (Below.refl _ _).drew
          have KG := LawAt.honest (LawAt.next HL2.out bd) (by omega) HLL.out HST.out 0 HL2.out.b0 (by omega)
          rw [HY.out] at KG
          simp only [Nd.v] at KG
          have kd : Kt wc wc.drew := Kt.of_below bd
          clear KA T0 T1 kn kg2 HL1
          go_wp2_with fail
          refine wp_region_held (S := fun w' => Kt wc w') (by kernel_rfl) ?_
          refine wpAnyH_take (i := 0) (v := ?_) rfl (by kernel_rfl) (by kernel_rfl) (by kernel_rfl) (fun _ _ _ h => h) (Or.inl ⟨by kernel_rfl, ?_⟩) (by assumption) ?_
          rotate_left
          · intro w' hSw
            have y_G0 := G0 _ hSw
            have y_N0 := N0 _ hSw
            have y_N1 := N1 _ hSw
            have y_N2 := N2 _ hSw
            have y_N3 := N3 _ hSw
            have y_N4 := N4 _ hSw
            have y_N5 := N5 _ hSw
            go_simp
            try (with_reducible rfl)
          simp only [Act.put, List.getElem_toArray, List.getElem_cons_succ, List.getElem_cons_zero, List.setIfInBounds_toArray, List.set_cons_zero, List.set_cons_succ]
          refine wpAnyH_take (i := 1) (v := .bool false) rfl (by kernel_rfl) (by kernel_rfl) (by kernel_rfl) (fun _ _ _ h => h) (Or.inl ⟨by kernel_rfl, ?_⟩) (by assumption) ?_
          · intro w' hSw
            have y_G0 := G0 _ hSw
            have y_N0 := N0 _ hSw
            have y_N1 := N1 _ hSw
            have y_N2 := N2 _ hSw
            have y_N3 := N3 _ hSw
            have y_N4 := N4 _ hSw
            have y_N5 := N5 _ hSw
            go_simp
            try (with_reducible rfl)
          simp only [Act.put, List.getElem_toArray, List.getElem_cons_succ, List.getElem_cons_zero, List.setIfInBounds_toArray, List.set_cons_zero, List.set_cons_succ]
          refine wpAnyH_take (i := 2) (v := .bool false) rfl (by kernel_rfl) (by kernel_rfl) (by kernel_rfl) (fun _ _ _ h => h) (Or.inl ⟨by kernel_rfl, ?_⟩) (by assumption) ?_
          · intro w' hSw
            have y_G0 := G0 _ hSw
            have y_N0 := N0 _ hSw
            have y_N1 := N1 _ hSw
            have y_N2 := N2 _ hSw
            have y_N3 := N3 _ hSw
            have y_N4 := N4 _ hSw
            have y_N5 := N5 _ hSw
            go_simp
            try (with_reducible rfl)
          simp only [Act.put, List.getElem_toArray, List.getElem_cons_succ, List.getElem_cons_zero, List.setIfInBounds_toArray, List.set_cons_zero, List.set_cons_succ]
          refine wpAnyH_take (i := 3) (v := ?_) rfl (by kernel_rfl) (by kernel_rfl) (by kernel_rfl) (fun _ _ _ h => h) (Or.inl ⟨by kernel_rfl, ?_⟩) (by assumption) ?_
          rotate_left
          · intro w' hSw
            have y_G0 := G0 _ hSw
            have y_N0 := N0 _ hSw
            have y_N1 := N1 _ hSw
            have y_N2 := N2 _ hSw
            have y_N3 := N3 _ hSw
            have y_N4 := N4 _ hSw
            have y_N5 := N5 _ hSw
            go_simp
            try (with_reducible rfl)
          simp only [Act.put, List.getElem_toArray, List.getElem_cons_succ, List.getElem_cons_zero, List.setIfInBounds_toArray, List.set_cons_zero, List.set_cons_succ]
          refine wpAnyH_take (i := 4) (v := ?_) rfl (by kernel_rfl) (by kernel_rfl) (by kernel_rfl) (fun _ _ _ h => h) (Or.inl ⟨by kernel_rfl, ?_⟩) (by assumption) ?_
          rotate_left
          · intro w' hSw
            have y_G0 := G0 _ hSw
            have y_N0 := N0 _ hSw
            have y_N1 := N1 _ hSw
            have y_N2 := N2 _ hSw
            have y_N3 := N3 _ hSw
            have y_N4 := N4 _ hSw
            have y_N5 := N5 _ hSw
            go_simp
            try (with_reducible rfl)
          simp only [Act.put, List.getElem_toArray, List.getElem_cons_succ, List.getElem_cons_zero, List.setIfInBounds_toArray, List.set_cons_zero, List.set_cons_succ]
          refine wpAnyH_take (i := 5) (v := ?_) rfl (by kernel_rfl) (by kernel_rfl) (by kernel_rfl) (fun _ _ _ h => h) (Or.inl ⟨by kernel_rfl, ?_⟩) (by assumption) ?_
          rotate_left
          · intro w' hSw
            have y_G0 := G0 _ hSw
            have y_N0 := N0 _ hSw
            have y_N1 := N1 _ hSw
            have y_N2 := N2 _ hSw
            have y_N3 := N3 _ hSw
            have y_N4 := N4 _ hSw
            have y_N5 := N5 _ hSw
            go_simp
            try (with_reducible rfl)
          simp only [Act.put, List.getElem_toArray, List.getElem_cons_succ, List.getElem_cons_zero, List.setIfInBounds_toArray, List.set_cons_zero, List.set_cons_succ]
          refine wpAnyH_take (i := 6) (v := ?_) rfl (by kernel_rfl) (by kernel_rfl) (by kernel_rfl) (fun _ _ _ h => h) (Or.inl ⟨by kernel_rfl, ?_⟩) (by assumption) ?_
          rotate_left
          · intro w' hSw
            have y_G0 := G0 _ hSw
            have y_N0 := N0 _ hSw
            have y_N1 := N1 _ hSw
            have y_N2 := N2 _ hSw
            have y_N3 := N3 _ hSw
            have y_N4 := N4 _ hSw
            have y_N5 := N5 _ hSw
            go_simp
            try (with_reducible rfl)
          simp only [Act.put, List.getElem_toArray, List.getElem_cons_succ, List.getElem_cons_zero, List.setIfInBounds_toArray, List.set_cons_zero, List.set_cons_succ]
          refine wpAnyH_take (i := 7) (v := ?_) rfl (by kernel_rfl) (by kernel_rfl) (by kernel_rfl) (fun _ _ _ h => h) (Or.inl ⟨by kernel_rfl, ?_⟩) (by assumption) ?_
          rotate_left
          · intro w' hSw
            have y_G0 := G0 _ hSw
            have y_N0 := N0 _ hSw
            have y_N1 := N1 _ hSw
            have y_N2 := N2 _ hSw
            have y_N3 := N3 _ hSw
            have y_N4 := N4 _ hSw
            have y_N5 := N5 _ hSw
            go_simp
            try (with_reducible rfl)
          simp only [Act.put, List.getElem_toArray, List.getElem_cons_succ, List.getElem_cons_zero, List.setIfInBounds_toArray, List.set_cons_zero, List.set_cons_succ]
          refine wpAnyH_ready (rs := [8]) (by kernel_rfl) (by simp) ?_
          refine AllReadyH.cons rfl (fun K hK => ?_) AllReadyH.nil
          go_simp
          refine KG.mono ?_
          rintro e w3 ⟨rfl, kt3, L', o', mm, hmm, HL3⟩
          have kN3 : Kt wc w3 := kd.trans kt3
          refine hK.out _ _ kN3 (fun _ => ?_)
          clear hK K KG
          try simp only [Act.put, List.getElem_toArray, List.getElem_cons_succ, List.getElem_cons_zero, List.setIfInBounds_toArray, List.set_cons_zero, List.set_cons_succ]
          refine wpAnyH_take (i := 9) (v := .bool false) rfl (by kernel_rfl) (by kernel_rfl) (by kernel_rfl) (fun _ _ _ h => h) (Or.inl ⟨by kernel_rfl, ?_⟩) (by assumption) ?_
          · intro w' hSw
            have y_G0 := G0 _ hSw
            have y_N0 := N0 _ hSw
            have y_N1 := N1 _ hSw
            have y_N2 := N2 _ hSw
            have y_N3 := N3 _ hSw
            have y_N4 := N4 _ hSw
            have y_N5 := N5 _ hSw
            go_simp
            try (with_reducible rfl)
          simp only [Act.put, List.getElem_toArray, List.getElem_cons_succ, List.getElem_cons_zero, List.setIfInBounds_toArray, List.set_cons_zero, List.set_cons_succ]
          refine wpAnyH_take (i := 10) (v := .bool false) rfl (by kernel_rfl) (by kernel_rfl) (by kernel_rfl) (fun _ _ _ h => h) (Or.inl ⟨by kernel_rfl, ?_⟩) (by assumption) ?_
          · intro w' hSw
            have y_G0 := G0 _ hSw
            have y_N0 := N0 _ hSw
            have y_N1 := N1 _ hSw
            have y_N2 := N2 _ hSw
            have y_N3 := N3 _ hSw
            have y_N4 := N4 _ hSw
            have y_N5 := N5 _ hSw
            go_simp
            try (with_reducible rfl)
          simp only [Act.put, List.getElem_toArray, List.getElem_cons_succ, List.getElem_cons_zero, List.setIfInBounds_toArray, List.set_cons_zero, List.set_cons_succ]
          refine wpAnyH_done (by kernel_rfl) ?_ _
          clear G0 N0 N1 N2 N3 N4 N5 kd bd kt3 kN3
          go_wp2
          exact ⟨⟨j + 1, mm, L', o', by omega, by go_num, HL3⟩, by simp [intOf]; omega⟩
end Go.Proofs.YtemlbcagkjmjgaaDoor
