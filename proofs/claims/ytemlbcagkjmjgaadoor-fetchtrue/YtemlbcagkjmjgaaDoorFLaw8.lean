/- FetchTrue: what is done is the tree. -/
import Derived.Test.YtemlbcagkjmjgaaDoorFLawA
namespace Go.Proofs.YtemlbcagkjmjgaaDoor
open Go.RowKit Go.Maps
set_option linter.unusedVariables false
set_option linter.unusedSimpArgs false

def dropSeq : Nat → Code → Code
  | 0, c => c
  | n + 1, .seq _ b => dropSeq n b
  | _ + 1, c => c

set_option maxRecDepth 20000 in
set_option maxHeartbeats 12800000 in
theorem ft8 (w0 wN wq : World) (bt bu fb mb : Nat) (wd : Int) (o0 : Option Tr) (q0 la : Option Addr) (cap k n : Nat) (o : Option Tr) (bar : List Int) (BN : Below w0.heap.size w0 wN) (H : LawAt wN bt bu fb mb wd o0 q0 la cap k [] o bar n wq) (c1 c2 c3 c4 c5 c6 c7 c11 c12 c13 c14 c15 c16 c17 c18 c19 c20 c21 c22 c23 c24 c25 c26 c27 c28 c29 c30 c31 c32 c33 c34 c35 c36 c37 c38 c39 c40 c41 c42 c43 c44 c45 c46 c47 c48 c49 c50 c51 c52 c53 c54 c55 c56 c57 c58 c59 c60 c61 c62 c63 c64 c65 c66 c67 c68 c69 c70 c71 c72 c73 c74 c75 c76 c77 c78 c79 c80 c81 c82 c83 c84 c85 c86 c87 c88 c89 c90 c91 c92 c93 c94 c95 c96 c97 c98 c99 c100 c101 c102 c103 c104 c105 c106 c107 c108 c109 c110 c111 c112 c113 c114 c115 c116 c117 c118 c119 c120 c121 c122 c123 c124 c125 c126 c127 c128 c129 c130 c131 c132 c133 c134 c135 c136 c137 c138 c139 c140 c141 c142 c143 c144 c145 c146 c147 c148 c149 c150 c151 c152 c153 c154 c155 c156 c157 c158 c159 c160 c161 c162 c163 c164 c165 c166 c167 c168 c169 c170 c171 c172 c173 c174 c175 c176 c177 c178 c179 c180 c181 c182 c183 c184 c185 c186 c187 c188 c189 c190 c191 c192 c193 c194 c195 c196 c197 c198 c199 c200 c201 c202 c203 c204 c205 c206 c207 c208 c209 c210 c211 c212 : Value) :
    Code.wp Tryd.prog (dropSeq 8 (Tryd.f3.body.getD .skip)) (bodyPost Tryd.prog Tryd.f3 (fun e w' => e = .returned (.bool true) ∧ Below w0.heap.size w0 w')) ⟨#[.int .i64 wd, c1, c2, c3, c4, c5, c6, c7, .pointer (some ⟨bt, 0, none⟩), .pointer (some ⟨bu, 0, none⟩), .pointer (some ⟨fb, 0, none⟩), c11, c12, c13, c14, c15, c16, c17, c18, c19, c20, c21, c22, c23, c24, c25, c26, c27, c28, c29, c30, c31, c32, c33, c34, c35, c36, c37, c38, c39, c40, c41, c42, c43, c44, c45, c46, c47, c48, c49, c50, c51, c52, c53, c54, c55, c56, c57, c58, c59, c60, c61, c62, c63, c64, c65, c66, c67, c68, c69, c70, c71, c72, c73, c74, c75, c76, c77, c78, c79, c80, c81, c82, c83, c84, c85, c86, c87, c88, c89, c90, c91, c92, c93, c94, c95, c96, c97, c98, c99, c100, c101, c102, c103, c104, c105, c106, c107, c108, c109, c110, c111, c112, c113, c114, c115, c116, c117, c118, c119, c120, c121, c122, c123, c124, c125, c126, c127, c128, c129, c130, c131, c132, c133, c134, c135, c136, c137, c138, c139, c140, c141, c142, c143, c144, c145, c146, c147, c148, c149, c150, c151, c152, c153, c154, c155, c156, c157, c158, c159, c160, c161, c162, c163, c164, c165, c166, c167, c168, c169, c170, c171, c172, c173, c174, c175, c176, c177, c178, c179, c180, c181, c182, c183, c184, c185, c186, c187, c188, c189, c190, c191, c192, c193, c194, c195, c196, c197, c198, c199, c200, c201, c202, c203, c204, c205, c206, c207, c208, c209, c210, c211, c212], []⟩ wq := by
  conv => arg 2; whnf
  conv => arg 4; dsimp only
  have eo : o = o0 := H.pl.done H.g0 rfl
  subst eo
  have hok := H.okw
  have KD := done_any wq hok H.st
  have hfew := H.few
  have BQ : Below w0.heap.size w0 wq := BN.trans (H.bel.mono BN.size)
  have HH : Hid (LawAt wN bt bu fb mb wd o q0 la cap k [] o bar n wq) := H
  clear H
  go_wp2_with fail
  refine KD.mono ?_
  rintro e w1 ⟨b1, (⟨h1, _⟩ | ⟨_, h1, _⟩ | ⟨_, _, qd, rfl, hT⟩)⟩
  · exact (h1 rfl).elim
  · exact (h1 rfl).elim
  have bA : Below w1.heap.size w1 (w1.alloc (.cells #[.int .i64 wd, .pointer qd] 34)) := (Below.refl _ _).alloc (Nat.le_refl _) _
  have kD := Blk.new w1 #[.int .i64 wd, .pointer qd] 34
  have hT2 := TopAt.below bA hT
  have B1 := b1.trans (bA.mono b1.size)
  clear KD hT
  go_upto_region 36 with fail
  generalize hwB : w1.alloc (.cells #[.int .i64 wd, .pointer qd] 34) = wB at *
  generalize hdb : w1.heap.size = db at *
  clear hwB hdb
  have H2 := HH.out.next B1
  have BB : Below w0.heap.size w0 wB := BQ.trans (B1.mono BQ.size)
  have kt := H2.kt.below H2.bel H2.kt.lt
  have ku := H2.ku.below H2.bel H2.ku.lt
  have D0 : ∀ w', Below wB.heap.size wB w' → w'.cell? ⟨db, 0, none⟩ = some (.int .i64 wd) := fun w' h => ((kD.below h kD.lt).cell 0).trans rfl
  have D1 : ∀ w', Below wB.heap.size wB w' → w'.cell? ⟨db, 1, none⟩ = some (.pointer qd) := fun w' h => ((kD.below h kD.lt).cell 1).trans rfl
  have T0 : ∀ w', Below wB.heap.size wB w' → w'.cell? ⟨bt, 0, none⟩ = some (.int .i64 wd) := fun w' h => ((kt.below h kt.lt).cell 0).trans rfl
  have T1 : ∀ w', Below wB.heap.size wB w' → w'.cell? ⟨bt, 1, none⟩ = some (.pointer q0) := fun w' h => ((kt.below h kt.lt).cell 1).trans rfl
  have U0 : ∀ w', Below wB.heap.size wB w' → w'.cell? ⟨bu, 1, none⟩ = some (.slice la (itemsO o).length cap) := fun w' h => ((ku.below h ku.lt).cell 1).trans rfl
  have KU : ∀ w', Below wB.heap.size wB w' → ItemsAt w' la (itemsO o) := fun w' h => H2.its.below (H2.bel.trans (h.mono H2.bel.size))
  have KR1 : ∀ w', Below wB.heap.size wB w' → _ := fun w' h => root_any wd qd o w' hok (TopAt.below h hT2)
  have KR2 : ∀ w', Below wB.heap.size wB w' → _ := fun w' h => root_any wd q0 o w' hok (TopAt.below (H2.bel.trans (h.mono H2.bel.size)) H2.top)
  have KI : ∀ w', Below wB.heap.size wB w' → _ := fun w' h => items_any wd qd o w' (TopAt.below h hT2) (by omega) (fun x hx => by have := (H2.g0.keys x hx).1; omega)
  rw [show str [] = ⟨#[]⟩ from rfl] at KI
  have bd : Below wB.heap.size wB wB.drew := (Below.refl _ _).drew
  clear kD kt ku hT2 H2 HH B1 bA b1 BQ
  refine wp_region_held (S := fun w' => Below wB.heap.size wB w') (by kernel_rfl) ?_
  refine wpAnyH_take (i := 0) (v := ?_) rfl (by kernel_rfl) (by kernel_rfl) (by kernel_rfl) (fun _ _ _ h => h) (Or.inl ⟨by kernel_rfl, ?_⟩) (by assumption) ?_
  rotate_left
  · intro w' hSw
    have y_D0 := D0 _ hSw
    have y_D1 := D1 _ hSw
    have y_T0 := T0 _ hSw
    have y_T1 := T1 _ hSw
    have y_U0 := U0 _ hSw
    go_simp
    try (with_reducible rfl)
  simp only [Act.put, List.getElem_toArray, List.getElem_cons_succ, List.getElem_cons_zero, List.setIfInBounds_toArray, List.set_cons_zero, List.set_cons_succ]
  refine wpAnyH_take (i := 1) (v := .bool true) rfl (by kernel_rfl) (by kernel_rfl) (by kernel_rfl) (fun _ _ _ h => h) (Or.inl ⟨by kernel_rfl, ?_⟩) (by assumption) ?_
  · intro w' hSw
    have y_D0 := D0 _ hSw
    have y_D1 := D1 _ hSw
    have y_T0 := T0 _ hSw
    have y_T1 := T1 _ hSw
    have y_U0 := U0 _ hSw
    go_simp
    try (with_reducible rfl)
  simp only [Act.put, List.getElem_toArray, List.getElem_cons_succ, List.getElem_cons_zero, List.setIfInBounds_toArray, List.set_cons_zero, List.set_cons_succ]
  refine wpAnyH_take (i := 2) (v := .bool true) rfl (by kernel_rfl) (by kernel_rfl) (by kernel_rfl) (fun _ _ _ h => h) (Or.inl ⟨by kernel_rfl, ?_⟩) (by assumption) ?_
  · intro w' hSw
    have y_D0 := D0 _ hSw
    have y_D1 := D1 _ hSw
    have y_T0 := T0 _ hSw
    have y_T1 := T1 _ hSw
    have y_U0 := U0 _ hSw
    go_simp
    try (with_reducible rfl)
  simp only [Act.put, List.getElem_toArray, List.getElem_cons_succ, List.getElem_cons_zero, List.setIfInBounds_toArray, List.set_cons_zero, List.set_cons_succ]
  refine wpAnyH_take (i := 3) (v := ?_) rfl (by kernel_rfl) (by kernel_rfl) (by kernel_rfl) (fun _ _ _ h => h) (Or.inl ⟨by kernel_rfl, ?_⟩) (by assumption) ?_
  rotate_left
  · intro w' hSw
    have y_D0 := D0 _ hSw
    have y_D1 := D1 _ hSw
    have y_T0 := T0 _ hSw
    have y_T1 := T1 _ hSw
    have y_U0 := U0 _ hSw
    go_simp
    try (with_reducible rfl)
  simp only [Act.put, List.getElem_toArray, List.getElem_cons_succ, List.getElem_cons_zero, List.setIfInBounds_toArray, List.set_cons_zero, List.set_cons_succ]
  refine wpAnyH_take (i := 5) (v := ?_) rfl (by kernel_rfl) (by kernel_rfl) (by kernel_rfl) (fun _ _ _ h => h) (Or.inl ⟨by kernel_rfl, ?_⟩) (by assumption) ?_
  rotate_left
  · intro w' hSw
    have y_D0 := D0 _ hSw
    have y_D1 := D1 _ hSw
    have y_T0 := T0 _ hSw
    have y_T1 := T1 _ hSw
    have y_U0 := U0 _ hSw
    go_simp
    try (with_reducible rfl)
  simp only [Act.put, List.getElem_toArray, List.getElem_cons_succ, List.getElem_cons_zero, List.setIfInBounds_toArray, List.set_cons_zero, List.set_cons_succ]
  refine wpAnyH_ready (rs := [4]) (by kernel_rfl) (by simp) ?_
  refine AllReadyH.cons rfl (fun K hK => ?_) AllReadyH.nil
  go_simp
  refine (KR1 _ bd).mono ?_
  rintro e w4 ⟨rfl, b4⟩
  have hN4 : Below wB.heap.size wB w4 := bel_in bd b4
  refine hK.out _ _ hN4 (fun _ => ?_)
  clear hK K
  try simp only [Act.put, List.getElem_toArray, List.getElem_cons_succ, List.getElem_cons_zero, List.setIfInBounds_toArray, List.set_cons_zero, List.set_cons_succ]
  refine wpAnyH_ready (rs := [6]) (by kernel_rfl) (by simp) ?_
  refine AllReadyH.cons rfl (fun K hK => ?_) AllReadyH.nil
  go_simp
  refine (KR2 _ hN4).mono ?_
  rintro e w5 ⟨rfl, b5⟩
  have hN5 : Below wB.heap.size wB w5 := bel_in hN4 b5
  refine hK.out _ _ hN5 (fun _ => ?_)
  clear hK K
  try simp only [Act.put, List.getElem_toArray, List.getElem_cons_succ, List.getElem_cons_zero, List.setIfInBounds_toArray, List.set_cons_zero, List.set_cons_succ]
  refine wpAnyH_take (i := 7) (v := .bool true) rfl (by kernel_rfl) (by kernel_rfl) (by kernel_rfl) (fun _ _ _ h => h) (Or.inl ⟨by kernel_rfl, ?_⟩) (by assumption) ?_
  · intro w' hSw
    have y_D0 := D0 _ hSw
    have y_D1 := D1 _ hSw
    have y_T0 := T0 _ hSw
    have y_T1 := T1 _ hSw
    have y_U0 := U0 _ hSw
    go_simp
    try (with_reducible rfl)
  simp only [Act.put, List.getElem_toArray, List.getElem_cons_succ, List.getElem_cons_zero, List.setIfInBounds_toArray, List.set_cons_zero, List.set_cons_succ]
  refine wpAnyH_take (i := 8) (v := .bool true) rfl (by kernel_rfl) (by kernel_rfl) (by kernel_rfl) (fun _ _ _ h => h) (Or.inl ⟨by kernel_rfl, ?_⟩) (by assumption) ?_
  · intro w' hSw
    have y_D0 := D0 _ hSw
    have y_D1 := D1 _ hSw
    have y_T0 := T0 _ hSw
    have y_T1 := T1 _ hSw
    have y_U0 := U0 _ hSw
    go_simp
    try (with_reducible rfl)
  simp only [Act.put, List.getElem_toArray, List.getElem_cons_succ, List.getElem_cons_zero, List.setIfInBounds_toArray, List.set_cons_zero, List.set_cons_succ]
  refine wpAnyH_take (i := 9) (v := .bool true) rfl (by kernel_rfl) (by kernel_rfl) (by kernel_rfl) (fun _ _ _ h => h) (Or.inl ⟨by kernel_rfl, ?_⟩) (by assumption) ?_
  · intro w' hSw
    have y_D0 := D0 _ hSw
    have y_D1 := D1 _ hSw
    have y_T0 := T0 _ hSw
    have y_T1 := T1 _ hSw
    have y_U0 := U0 _ hSw
    go_simp
    try (with_reducible rfl)
  simp only [Act.put, List.getElem_toArray, List.getElem_cons_succ, List.getElem_cons_zero, List.setIfInBounds_toArray, List.set_cons_zero, List.set_cons_succ]
  refine wpAnyH_take (i := 10) (v := ?_) rfl (by kernel_rfl) (by kernel_rfl) (by kernel_rfl) (fun _ _ _ h => h) (Or.inl ⟨by kernel_rfl, ?_⟩) (by assumption) ?_
  rotate_left
  · intro w' hSw
    have y_D0 := D0 _ hSw
    have y_D1 := D1 _ hSw
    have y_T0 := T0 _ hSw
    have y_T1 := T1 _ hSw
    have y_U0 := U0 _ hSw
    go_simp
    try (with_reducible rfl)
  simp only [Act.put, List.getElem_toArray, List.getElem_cons_succ, List.getElem_cons_zero, List.setIfInBounds_toArray, List.set_cons_zero, List.set_cons_succ]
  refine wpAnyH_take (i := 12) (v := ?_) rfl (by kernel_rfl) (by kernel_rfl) (by kernel_rfl) (fun _ _ _ h => h) (Or.inl ⟨by kernel_rfl, ?_⟩) (by assumption) ?_
  rotate_left
  · intro w' hSw
    have y_D0 := D0 _ hSw
    have y_D1 := D1 _ hSw
    have y_T0 := T0 _ hSw
    have y_T1 := T1 _ hSw
    have y_U0 := U0 _ hSw
    go_simp
    try (with_reducible rfl)
  simp only [Act.put, List.getElem_toArray, List.getElem_cons_succ, List.getElem_cons_zero, List.setIfInBounds_toArray, List.set_cons_zero, List.set_cons_succ]
  refine wpAnyH_take (i := 13) (v := ?_) rfl (by kernel_rfl) (by kernel_rfl) (by kernel_rfl) (fun _ _ _ h => h) (Or.inl ⟨by kernel_rfl, ?_⟩) (by assumption) ?_
  rotate_left
  · intro w' hSw
    have y_D0 := D0 _ hSw
    have y_D1 := D1 _ hSw
    have y_T0 := T0 _ hSw
    have y_T1 := T1 _ hSw
    have y_U0 := U0 _ hSw
    go_simp
    try (with_reducible rfl)
  simp only [Act.put, List.getElem_toArray, List.getElem_cons_succ, List.getElem_cons_zero, List.setIfInBounds_toArray, List.set_cons_zero, List.set_cons_succ]
  refine wpAnyH_ready (rs := [11]) (by kernel_rfl) (by simp) ?_
  refine AllReadyH.cons rfl (fun K hK => ?_) AllReadyH.nil
  go_simp
  refine (KI _ hN5).mono ?_
  rintro e w7 ⟨vI, rfl, hr7, b7⟩
  have hN7 : Below wB.heap.size wB w7 := bel_in hN5 b7
  obtain ⟨ca, cc, rfl, hI7⟩ := ItemsAt.of_owns hr7
  refine hK.out _ _ hN7 (fun _ => ?_)
  clear hK K
  try simp only [Act.put, List.getElem_toArray, List.getElem_cons_succ, List.getElem_cons_zero, List.setIfInBounds_toArray, List.set_cons_zero, List.set_cons_succ]
  refine wpAnyH_ready (rs := [14]) (by kernel_rfl) (by simp) ?_
  refine AllReadyH.cons rfl (fun K hK => ?_) AllReadyH.nil
  go_simp
  refine (sameItems_any ca la cc cap (itemsO o) (itemsO o) w7 (by omega) (by omega) hI7 (KU _ hN7)).mono ?_
  rintro e w8 ⟨rfl, b8⟩
  have hN8 : Below wB.heap.size wB w8 := bel_in hN7 b8
  rw [show decide (itemsO o = itemsO o) = true from decide_eq_true rfl]
  refine hK.out _ _ hN8 (fun _ => ?_)
  clear hK K
  try simp only [Act.put, List.getElem_toArray, List.getElem_cons_succ, List.getElem_cons_zero, List.setIfInBounds_toArray, List.set_cons_zero, List.set_cons_succ]
  refine wpAnyH_take (i := 15) (v := .bool true) rfl (by kernel_rfl) (by kernel_rfl) (by kernel_rfl) (fun _ _ _ h => h) (Or.inl ⟨by kernel_rfl, ?_⟩) (by assumption) ?_
  · intro w' hSw
    have y_D0 := D0 _ hSw
    have y_D1 := D1 _ hSw
    have y_T0 := T0 _ hSw
    have y_T1 := T1 _ hSw
    have y_U0 := U0 _ hSw
    go_simp
    try (with_reducible rfl)
  simp only [Act.put, List.getElem_toArray, List.getElem_cons_succ, List.getElem_cons_zero, List.setIfInBounds_toArray, List.set_cons_zero, List.set_cons_succ]
  refine wpAnyH_ready (rs := [16]) (by kernel_rfl) (by simp) ?_
  refine AllReadyH.cons rfl (fun K hK => ?_) AllReadyH.nil
  go_simp
  refine hK.out _ _ (hN8) (fun _ => ?_)
  clear hK K
  try simp only [Act.put, List.getElem_toArray, List.getElem_cons_succ, List.getElem_cons_zero, List.setIfInBounds_toArray, List.set_cons_zero, List.set_cons_succ]
  refine wpAnyH_done (by kernel_rfl) ?_ _
  go_wp2
  go_ret
  exact ⟨rfl, BB.trans (hN8.mono BB.size)⟩
end Go.Proofs.YtemlbcagkjmjgaaDoor
