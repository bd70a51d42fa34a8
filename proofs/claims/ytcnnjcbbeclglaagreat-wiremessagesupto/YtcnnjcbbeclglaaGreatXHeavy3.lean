/- How much there is, of messages: the measure ends. -/
import Derived.Test.YtcnnjcbbeclglaaGreatXHeavy2
import Derived.Deep.CutRange
import Derived.Deep.DeepCutAuto
import Derived.Deep.RegionHeld3
namespace Go.Proofs.YtcnnjcbbeclglaaGreat
open Go.RowKit
set_option linter.unusedVariables false
set_option linter.unusedSimpArgs false

def findRegion (n : Nat) : Code → Option Code
  | .region m ops d => if m = n then some (.region m ops d) else none
  | .seq a b => match findRegion n a with
    | some c => some c
    | none => findRegion n b
  | .block _ c => findRegion n c
  | .scope c => findRegion n c
  | .loop c => findRegion n c
  | .cond _ a b => match findRegion n a with
    | some c => some c
    | none => findRegion n b
  | _ => none
noncomputable def hmCode : Code := ((Tryz.f5.body.bind (findRegion 11)).getD .skip)

/-- What stands behind the region: whatever its slots hold but the last. -/
def HmGoal (xb j : Nat) (wr : World) (K : Act → World → Prop) (c0 c2 c3 c5 c6 c7 c8 c9 c10 c11 c12 c13 c14 c15 c16 c17 c18 c19 c20 c21 c22 c23 c24 c25 c26 c27 c28 c29 c30 c31 c32 c33 c34 c35 c36 c37 c38 c39 c40 c41 : Value) : Prop := ∀ (d42 d43 d44 d45 d46 d47 d48 d49 d50 d51 d52 d53 d54 d55 d56 d57 d58 d59 d60 d61 d62 d63 d64 d65 d66 d67 d68 : Value) (z : Bool) (w' : World), Below wr.heap.size wr w' → K ⟨#[c0, .pointer (some ⟨xb, 0, none⟩), c2, c3, .int .i64 j, c5, c6, c7, c8, c9, c10, c11, c12, c13, c14, c15, c16, c17, c18, c19, c20, c21, c22, c23, c24, c25, c26, c27, c28, c29, c30, c31, c32, c33, c34, c35, c36, c37, c38, c39, c40, c41, d42, d43, d44, d45, d46, d47, d48, d49, d50, d51, d52, d53, d54, d55, d56, d57, d58, d59, d60, d61, d62, d63, d64, d65, d66, d67, d68, .bool z], []⟩ w'

set_option maxRecDepth 10000 in
set_option maxHeartbeats 6400000 in
theorem hm_region (base xb rb ro j ln lc : Nat) (y : Known) (wr : World) (K : Act → World → Prop) (Q : Exit → Act → World → Prop) (c0 c2 c3 c5 c6 c7 c8 c9 c10 c11 c12 c13 c14 c15 c16 c17 c18 c19 c20 c21 c22 c23 c24 c25 c26 c27 c28 c29 c30 c31 c32 c33 c34 c35 c36 c37 c38 c39 c40 c41 c42 c43 c44 c45 c46 c47 c48 c49 c50 c51 c52 c53 c54 c55 c56 c57 c58 c59 c60 c61 c62 c63 c64 c65 c66 c67 c68 c69 : Value) (hb0 : base ≤ wr.heap.size) (hj3 : (j : Int) < (ln : Int)) (hzj : xb < wr.heap.size) (rz : rb < wr.heap.size)
    (lf : y.ce.fr.xs.length ≤ 1099400000000) (lg : y.bl.gu.xs.length ≤ 1099400000000) (hh15 : y.bl.tx.Held Tx.flds 11 base wr)
    (q5 : wr.cell? ⟨xb, 5, none⟩ = some (.slice (some ⟨rb, ro, none⟩) ln lc)) (r15 : wr.cell? ⟨rb, ro + j * 17 + 15, none⟩ = some (.slice y.bl.tx.la y.bl.tx.xs.length y.bl.tx.lc)) (r16 : wr.cell? ⟨rb, ro + j * 17 + 16, none⟩ = some (.slice y.bl.gu.la y.bl.gu.xs.length y.bl.gu.lc)) (r5 : wr.cell? ⟨rb, ro + j * 17 + 5, none⟩ = some (.slice y.ce.fr.la y.ce.fr.xs.length y.ce.fr.lc))
    (hQ : ∀ p (a : Act) i v w', Q (Exit.panic p) (a.put i v) w' → Q (Exit.panic p) a w') (hK : HmGoal xb j wr K c0 c2 c3 c5 c6 c7 c8 c9 c10 c11 c12 c13 c14 c15 c16 c17 c18 c19 c20 c21 c22 c23 c24 c25 c26 c27 c28 c29 c30 c31 c32 c33 c34 c35 c36 c37 c38 c39 c40 c41) :
    Code.wp Tryz.prog hmCode (Exit.then K Q) ⟨#[c0, .pointer (some ⟨xb, 0, none⟩), c2, c3, .int .i64 j, c5, c6, c7, c8, c9, c10, c11, c12, c13, c14, c15, c16, c17, c18, c19, c20, c21, c22, c23, c24, c25, c26, c27, c28, c29, c30, c31, c32, c33, c34, c35, c36, c37, c38, c39, c40, c41, c42, c43, c44, c45, c46, c47, c48, c49, c50, c51, c52, c53, c54, c55, c56, c57, c58, c59, c60, c61, c62, c63, c64, c65, c66, c67, c68, c69], []⟩ wr := by
  have HK := hK
  clear hK
  conv => arg 2; whnf
  conv => arg 4; dsimp only
  refine wp_region_held_drew (S := fun w' => Below wr.heap.size wr w' ∧ w'.cell? ⟨xb, 5, none⟩ = some (.slice (some ⟨rb, ro, none⟩) ln lc) ∧ w'.cell? ⟨rb, ro + j * 17 + 15, none⟩ = some (.slice y.bl.tx.la y.bl.tx.xs.length y.bl.tx.lc) ∧ w'.cell? ⟨rb, ro + j * 17 + 16, none⟩ = some (.slice y.bl.gu.la y.bl.gu.xs.length y.bl.gu.lc) ∧ w'.cell? ⟨rb, ro + j * 17 + 5, none⟩ = some (.slice y.ce.fr.la y.ce.fr.xs.length y.ce.fr.lc)) (by kernel_rfl) ⟨(Below.refl _ _).drew, q5, r15, r16, r5⟩ (fun hHeld => ?_)
  refine wpAnyH_take (i := 0) (v := ?_) rfl (by kernel_rfl) (by kernel_rfl) (by kernel_rfl) (fun _ _ _ h => hQ _ _ _ _ _ h) (Or.inl ⟨by kernel_rfl, ?_⟩) (by assumption) ?_
  rotate_left
  · intro w hSw
    obtain ⟨y0, y1, y2, y3, y4⟩ := hSw
    go_simp
    try (with_reducible rfl)
  simp only [Act.put, List.getElem_toArray, List.getElem_cons_succ, List.getElem_cons_zero, List.setIfInBounds_toArray, List.set_cons_zero, List.set_cons_succ]
  refine wpAnyH_take (i := 1) (v := ?_) rfl (by kernel_rfl) (by kernel_rfl) (by kernel_rfl) (fun _ _ _ h => hQ _ _ _ _ _ h) (Or.inl ⟨by kernel_rfl, ?_⟩) (by assumption) ?_
  rotate_left
  · intro w hSw
    obtain ⟨y0, y1, y2, y3, y4⟩ := hSw
    go_simp
    try (with_reducible rfl)
  simp only [Act.put, List.getElem_toArray, List.getElem_cons_succ, List.getElem_cons_zero, List.setIfInBounds_toArray, List.set_cons_zero, List.set_cons_succ]
  refine wpAnyH_take (i := 2) (v := ?_) rfl (by kernel_rfl) (by kernel_rfl) (by kernel_rfl) (fun _ _ _ h => hQ _ _ _ _ _ h) (Or.inl ⟨by kernel_rfl, ?_⟩) (by assumption) ?_
  rotate_left
  · intro w hSw
    obtain ⟨y0, y1, y2, y3, y4⟩ := hSw
    go_simp
    try (with_reducible rfl)
  simp only [Act.put, List.getElem_toArray, List.getElem_cons_succ, List.getElem_cons_zero, List.setIfInBounds_toArray, List.set_cons_zero, List.set_cons_succ]
  refine wpAnyH_take (i := 3) (v := ?_) rfl (by kernel_rfl) (by kernel_rfl) (by kernel_rfl) (fun _ _ _ h => hQ _ _ _ _ _ h) (Or.inl ⟨by kernel_rfl, ?_⟩) (by assumption) ?_
  rotate_left
  · intro w hSw
    obtain ⟨y0, y1, y2, y3, y4⟩ := hSw
    go_simp
    try (with_reducible rfl)
  simp only [Act.put, List.getElem_toArray, List.getElem_cons_succ, List.getElem_cons_zero, List.setIfInBounds_toArray, List.set_cons_zero, List.set_cons_succ]
  refine wpAnyH_take (i := 4) (v := ?_) rfl (by kernel_rfl) (by kernel_rfl) (by kernel_rfl) (fun _ _ _ h => hQ _ _ _ _ _ h) (Or.inl ⟨by kernel_rfl, ?_⟩) (by assumption) ?_
  rotate_left
  · intro w hSw
    obtain ⟨y0, y1, y2, y3, y4⟩ := hSw
    go_simp
    try (with_reducible rfl)
  simp only [Act.put, List.getElem_toArray, List.getElem_cons_succ, List.getElem_cons_zero, List.setIfInBounds_toArray, List.set_cons_zero, List.set_cons_succ]
  refine wpAnyH_take (i := 5) (v := ?_) rfl (by kernel_rfl) (by kernel_rfl) (by kernel_rfl) (fun _ _ _ h => hQ _ _ _ _ _ h) (Or.inl ⟨by kernel_rfl, ?_⟩) (by assumption) ?_
  rotate_left
  · intro w hSw
    obtain ⟨y0, y1, y2, y3, y4⟩ := hSw
    go_simp
    try (with_reducible rfl)
  simp only [Act.put, List.getElem_toArray, List.getElem_cons_succ, List.getElem_cons_zero, List.setIfInBounds_toArray, List.set_cons_zero, List.set_cons_succ]
  refine wpAnyH_take (i := 6) (v := ?_) rfl (by kernel_rfl) (by kernel_rfl) (by kernel_rfl) (fun _ _ _ h => hQ _ _ _ _ _ h) (Or.inl ⟨by kernel_rfl, ?_⟩) (by assumption) ?_
  rotate_left
  · intro w hSw
    obtain ⟨y0, y1, y2, y3, y4⟩ := hSw
    go_simp
    try (with_reducible rfl)
  simp only [Act.put, List.getElem_toArray, List.getElem_cons_succ, List.getElem_cons_zero, List.setIfInBounds_toArray, List.set_cons_zero, List.set_cons_succ]
  refine wpAnyH_ready (rs := [7]) (by kernel_rfl) (by simp) ?_
  refine AllReadyH.cons rfl (fun K hK => ?_) AllReadyH.nil
  go_simp
  refine (heavy_any base y.bl.tx _ (Nat.le_trans hb0 (by first | exact Nat.le_refl _ | simp)) (hh15.below (by first | exact Below.refl _ _ | exact (Below.refl _ _).drew))).mono ?_
  rintro e w4 ⟨⟨z, rfl⟩, b4⟩
  have b5 : Below wr.heap.size wr w4 := ((Below.refl wr.heap.size wr).drew).trans b4
  have z5 : w4.cell? ⟨xb, 5, none⟩ = _ := (b5.cell (p := ⟨xb, 5, none⟩) hzj).trans q5
  have z15 : w4.cell? ⟨rb, ro + j * 17 + 15, none⟩ = _ := (b5.cell (p := ⟨rb, ro + j * 17 + 15, none⟩) rz).trans r15
  have z16 : w4.cell? ⟨rb, ro + j * 17 + 16, none⟩ = _ := (b5.cell (p := ⟨rb, ro + j * 17 + 16, none⟩) rz).trans r16
  have z6 : w4.cell? ⟨rb, ro + j * 17 + 5, none⟩ = _ := (b5.cell (p := ⟨rb, ro + j * 17 + 5, none⟩) rz).trans r5
  have hwr : IntKind.i64.wrap ((y.bl.gu.xs.length : Int) + (y.ce.fr.xs.length : Int)) = (y.bl.gu.xs.length : Int) + (y.ce.fr.xs.length : Int) := by rw [IntKind.wrap_i64]; omega
  clear q5 r15 r16 r5 hh15
  cases z
  · refine hK.out _ _ ⟨b5, z5, z15, z16, z6⟩ (fun hHeld2 => ?_)
    clear hK K
    refine wpAnyH_take (i := 8) (v := ?_) rfl (by kernel_rfl) (by kernel_rfl) (by kernel_rfl) (fun _ _ _ h => hQ _ _ _ _ _ h) (Or.inl ⟨by kernel_rfl, ?_⟩) (by assumption) ?_
    rotate_left
    · intro w hSw
      obtain ⟨y0, y1, y2, y3, y4⟩ := hSw
      go_simp
      try (with_reducible rfl)
    simp only [Act.put, List.getElem_toArray, List.getElem_cons_succ, List.getElem_cons_zero, List.setIfInBounds_toArray, List.set_cons_zero, List.set_cons_succ]
    refine wpAnyH_take (i := 9) (v := ?_) rfl (by kernel_rfl) (by kernel_rfl) (by kernel_rfl) (fun _ _ _ h => hQ _ _ _ _ _ h) (Or.inl ⟨by kernel_rfl, ?_⟩) (by assumption) ?_
    rotate_left
    · intro w hSw
      obtain ⟨y0, y1, y2, y3, y4⟩ := hSw
      go_simp
      try (with_reducible rfl)
    simp only [Act.put, List.getElem_toArray, List.getElem_cons_succ, List.getElem_cons_zero, List.setIfInBounds_toArray, List.set_cons_zero, List.set_cons_succ]
    refine wpAnyH_take (i := 10) (v := ?_) rfl (by kernel_rfl) (by kernel_rfl) (by kernel_rfl) (fun _ _ _ h => hQ _ _ _ _ _ h) (Or.inl ⟨by kernel_rfl, ?_⟩) (by assumption) ?_
    rotate_left
    · intro w hSw
      obtain ⟨y0, y1, y2, y3, y4⟩ := hSw
      go_simp
      try (with_reducible rfl)
    simp only [Act.put, List.getElem_toArray, List.getElem_cons_succ, List.getElem_cons_zero, List.setIfInBounds_toArray, List.set_cons_zero, List.set_cons_succ]
    refine wpAnyH_take (i := 11) (v := ?_) rfl (by kernel_rfl) (by kernel_rfl) (by kernel_rfl) (fun _ _ _ h => hQ _ _ _ _ _ h) (Or.inl ⟨by kernel_rfl, ?_⟩) (by assumption) ?_
    rotate_left
    · intro w hSw
      obtain ⟨y0, y1, y2, y3, y4⟩ := hSw
      go_simp
      try (with_reducible rfl)
    simp only [Act.put, List.getElem_toArray, List.getElem_cons_succ, List.getElem_cons_zero, List.setIfInBounds_toArray, List.set_cons_zero, List.set_cons_succ]
    refine wpAnyH_take (i := 12) (v := ?_) rfl (by kernel_rfl) (by kernel_rfl) (by kernel_rfl) (fun _ _ _ h => hQ _ _ _ _ _ h) (Or.inl ⟨by kernel_rfl, ?_⟩) (by assumption) ?_
    rotate_left
    · intro w hSw
      obtain ⟨y0, y1, y2, y3, y4⟩ := hSw
      go_simp
      try (with_reducible rfl)
    simp only [Act.put, List.getElem_toArray, List.getElem_cons_succ, List.getElem_cons_zero, List.setIfInBounds_toArray, List.set_cons_zero, List.set_cons_succ]
    refine wpAnyH_take (i := 13) (v := ?_) rfl (by kernel_rfl) (by kernel_rfl) (by kernel_rfl) (fun _ _ _ h => hQ _ _ _ _ _ h) (Or.inl ⟨by kernel_rfl, ?_⟩) (by assumption) ?_
    rotate_left
    · intro w hSw
      obtain ⟨y0, y1, y2, y3, y4⟩ := hSw
      go_simp
      try (with_reducible rfl)
    simp only [Act.put, List.getElem_toArray, List.getElem_cons_succ, List.getElem_cons_zero, List.setIfInBounds_toArray, List.set_cons_zero, List.set_cons_succ]
    refine wpAnyH_take (i := 14) (v := ?_) rfl (by kernel_rfl) (by kernel_rfl) (by kernel_rfl) (fun _ _ _ h => hQ _ _ _ _ _ h) (Or.inl ⟨by kernel_rfl, ?_⟩) (by assumption) ?_
    rotate_left
    · intro w hSw
      obtain ⟨y0, y1, y2, y3, y4⟩ := hSw
      go_simp
      try (with_reducible rfl)
    simp only [Act.put, List.getElem_toArray, List.getElem_cons_succ, List.getElem_cons_zero, List.setIfInBounds_toArray, List.set_cons_zero, List.set_cons_succ]
    refine wpAnyH_take (i := 15) (v := ?_) rfl (by kernel_rfl) (by kernel_rfl) (by kernel_rfl) (fun _ _ _ h => hQ _ _ _ _ _ h) (Or.inl ⟨by kernel_rfl, ?_⟩) (by assumption) ?_
    rotate_left
    · intro w hSw
      obtain ⟨y0, y1, y2, y3, y4⟩ := hSw
      go_simp
      try (with_reducible rfl)
    simp only [Act.put, List.getElem_toArray, List.getElem_cons_succ, List.getElem_cons_zero, List.setIfInBounds_toArray, List.set_cons_zero, List.set_cons_succ]
    refine wpAnyH_take (i := 16) (v := ?_) rfl (by kernel_rfl) (by kernel_rfl) (by kernel_rfl) (fun _ _ _ h => hQ _ _ _ _ _ h) (Or.inl ⟨by kernel_rfl, ?_⟩) (by assumption) ?_
    rotate_left
    · intro w hSw
      obtain ⟨y0, y1, y2, y3, y4⟩ := hSw
      go_simp
      try (with_reducible rfl)
    simp only [Act.put, List.getElem_toArray, List.getElem_cons_succ, List.getElem_cons_zero, List.setIfInBounds_toArray, List.set_cons_zero, List.set_cons_succ]
    refine wpAnyH_take (i := 17) (v := ?_) rfl (by kernel_rfl) (by kernel_rfl) (by kernel_rfl) (fun _ _ _ h => hQ _ _ _ _ _ h) (Or.inl ⟨by kernel_rfl, ?_⟩) (by assumption) ?_
    rotate_left
    · intro w hSw
      obtain ⟨y0, y1, y2, y3, y4⟩ := hSw
      go_simp
      try (with_reducible rfl)
    simp only [Act.put, List.getElem_toArray, List.getElem_cons_succ, List.getElem_cons_zero, List.setIfInBounds_toArray, List.set_cons_zero, List.set_cons_succ]
    refine wpAnyH_take (i := 18) (v := ?_) rfl (by kernel_rfl) (by kernel_rfl) (by kernel_rfl) (fun _ _ _ h => hQ _ _ _ _ _ h) (Or.inl ⟨by kernel_rfl, ?_⟩) (by assumption) ?_
    rotate_left
    · intro w hSw
      obtain ⟨y0, y1, y2, y3, y4⟩ := hSw
      go_simp
      try (with_reducible rfl)
    simp only [Act.put, List.getElem_toArray, List.getElem_cons_succ, List.getElem_cons_zero, List.setIfInBounds_toArray, List.set_cons_zero, List.set_cons_succ]
    refine wpAnyH_take (i := 19) (v := ?_) rfl (by kernel_rfl) (by kernel_rfl) (by kernel_rfl) (fun _ _ _ h => hQ _ _ _ _ _ h) (Or.inl ⟨by kernel_rfl, ?_⟩) (by assumption) ?_
    rotate_left
    · intro w hSw
      obtain ⟨y0, y1, y2, y3, y4⟩ := hSw
      go_simp
      try (with_reducible rfl)
    simp only [Act.put, List.getElem_toArray, List.getElem_cons_succ, List.getElem_cons_zero, List.setIfInBounds_toArray, List.set_cons_zero, List.set_cons_succ]
    refine wpAnyH_take (i := 20) (v := ?_) rfl (by kernel_rfl) (by kernel_rfl) (by kernel_rfl) (fun _ _ _ h => hQ _ _ _ _ _ h) (Or.inl ⟨by kernel_rfl, ?_⟩) (by assumption) ?_
    rotate_left
    · intro w hSw
      obtain ⟨y0, y1, y2, y3, y4⟩ := hSw
      go_simp
      try (with_reducible rfl)
    simp only [Act.put, List.getElem_toArray, List.getElem_cons_succ, List.getElem_cons_zero, List.setIfInBounds_toArray, List.set_cons_zero, List.set_cons_succ]
    refine wpAnyH_take (i := 21) (v := ?_) rfl (by kernel_rfl) (by kernel_rfl) (by kernel_rfl) (fun _ _ _ h => hQ _ _ _ _ _ h) (Or.inl ⟨by kernel_rfl, ?_⟩) (by assumption) ?_
    rotate_left
    · intro w hSw
      obtain ⟨y0, y1, y2, y3, y4⟩ := hSw
      go_simp
      try (with_reducible rfl)
    simp only [Act.put, List.getElem_toArray, List.getElem_cons_succ, List.getElem_cons_zero, List.setIfInBounds_toArray, List.set_cons_zero, List.set_cons_succ]
    refine wpAnyH_take (i := 22) (v := ?_) rfl (by kernel_rfl) (by kernel_rfl) (by kernel_rfl) (fun _ _ _ h => hQ _ _ _ _ _ h) (Or.inl ⟨by kernel_rfl, ?_⟩) (by assumption) ?_
    rotate_left
    · intro w hSw
      obtain ⟨y0, y1, y2, y3, y4⟩ := hSw
      go_simp
      try (with_reducible rfl)
    simp only [Act.put, List.getElem_toArray, List.getElem_cons_succ, List.getElem_cons_zero, List.setIfInBounds_toArray, List.set_cons_zero, List.set_cons_succ]
    refine wpAnyH_take (i := 23) (v := ?_) rfl (by kernel_rfl) (by kernel_rfl) (by kernel_rfl) (fun _ _ _ h => hQ _ _ _ _ _ h) (Or.inl ⟨by kernel_rfl, ?_⟩) (by assumption) ?_
    rotate_left
    · intro w hSw
      obtain ⟨y0, y1, y2, y3, y4⟩ := hSw
      go_simp
      try (with_reducible rfl)
    simp only [Act.put, List.getElem_toArray, List.getElem_cons_succ, List.getElem_cons_zero, List.setIfInBounds_toArray, List.set_cons_zero, List.set_cons_succ]
    refine wpAnyH_take (i := 24) (v := ?_) rfl (by kernel_rfl) (by kernel_rfl) (by kernel_rfl) (fun _ _ _ h => hQ _ _ _ _ _ h) (Or.inl ⟨by kernel_rfl, ?_⟩) (by assumption) ?_
    rotate_left
    · intro w hSw
      obtain ⟨y0, y1, y2, y3, y4⟩ := hSw
      go_simp
      try (with_reducible rfl)
    simp only [Act.put, List.getElem_toArray, List.getElem_cons_succ, List.getElem_cons_zero, List.setIfInBounds_toArray, List.set_cons_zero, List.set_cons_succ]
    refine wpAnyH_take (i := 25) (v := ?_) rfl (by kernel_rfl) (by kernel_rfl) (by kernel_rfl) (fun _ _ _ h => hQ _ _ _ _ _ h) (Or.inl ⟨by kernel_rfl, ?_⟩) (by assumption) ?_
    rotate_left
    · intro w hSw
      obtain ⟨y0, y1, y2, y3, y4⟩ := hSw
      go_simp
      try (with_reducible rfl)
    simp only [Act.put, List.getElem_toArray, List.getElem_cons_succ, List.getElem_cons_zero, List.setIfInBounds_toArray, List.set_cons_zero, List.set_cons_succ]
    refine wpAnyH_take (i := 26) (v := ?_) rfl (by kernel_rfl) (by kernel_rfl) (by kernel_rfl) (fun _ _ _ h => hQ _ _ _ _ _ h) (Or.inl ⟨by kernel_rfl, ?_⟩) (by assumption) ?_
    rotate_left
    · intro w hSw
      obtain ⟨y0, y1, y2, y3, y4⟩ := hSw
      go_simp
      try (with_reducible rfl)
    simp only [Act.put, List.getElem_toArray, List.getElem_cons_succ, List.getElem_cons_zero, List.setIfInBounds_toArray, List.set_cons_zero, List.set_cons_succ]
    refine wpAnyH_take (i := 27) (v := ?_) rfl (by kernel_rfl) (by kernel_rfl) (by kernel_rfl) (fun _ _ _ h => hQ _ _ _ _ _ h) (Or.inl ⟨by kernel_rfl, ?_⟩) (by assumption) ?_
    rotate_left
    · intro w hSw
      obtain ⟨y0, y1, y2, y3, y4⟩ := hSw
      go_simp
      try (with_reducible rfl)
    simp only [Act.put, List.getElem_toArray, List.getElem_cons_succ, List.getElem_cons_zero, List.setIfInBounds_toArray, List.set_cons_zero, List.set_cons_succ]
    refine wpAnyH_done (by kernel_rfl) ?_ _
    simp only [Exit.then]
    unfold HmGoal at HK
    dsimp only at HK
    exact HK _ _ _ _ _ _ _ _ _ _ _ _ _ _ _ _ _ _ _ _ _ _ _ _ _ _ _ _ _ b5
  · refine hK.out _ _ ⟨b5, z5, z15, z16, z6⟩ (fun hHeld2 => ?_)
    clear hK K
    refine wpAnyH_take (i := 8) (v := ?_) rfl (by kernel_rfl) (by kernel_rfl) (by kernel_rfl) (fun _ _ _ h => hQ _ _ _ _ _ h) (Or.inl ⟨by kernel_rfl, ?_⟩) (by assumption) ?_
    rotate_left
    · intro w hSw
      obtain ⟨y0, y1, y2, y3, y4⟩ := hSw
      go_simp
      try (with_reducible rfl)
    simp only [Act.put, List.getElem_toArray, List.getElem_cons_succ, List.getElem_cons_zero, List.setIfInBounds_toArray, List.set_cons_zero, List.set_cons_succ]
    refine wpAnyH_take (i := 9) (v := undef) rfl (by kernel_rfl) (by kernel_rfl) (by kernel_rfl) (fun _ _ _ h => hQ _ _ _ _ _ h) (Or.inr ⟨by kernel_rfl, rfl⟩) (by assumption) ?_
    simp only [Act.put, List.getElem_toArray, List.getElem_cons_succ, List.getElem_cons_zero, List.setIfInBounds_toArray, List.set_cons_zero, List.set_cons_succ]
    refine wpAnyH_take (i := 10) (v := undef) rfl (by kernel_rfl) (by kernel_rfl) (by kernel_rfl) (fun _ _ _ h => hQ _ _ _ _ _ h) (Or.inr ⟨by kernel_rfl, rfl⟩) (by assumption) ?_
    simp only [Act.put, List.getElem_toArray, List.getElem_cons_succ, List.getElem_cons_zero, List.setIfInBounds_toArray, List.set_cons_zero, List.set_cons_succ]
    refine wpAnyH_take (i := 11) (v := undef) rfl (by kernel_rfl) (by kernel_rfl) (by kernel_rfl) (fun _ _ _ h => hQ _ _ _ _ _ h) (Or.inr ⟨by kernel_rfl, rfl⟩) (by assumption) ?_
    simp only [Act.put, List.getElem_toArray, List.getElem_cons_succ, List.getElem_cons_zero, List.setIfInBounds_toArray, List.set_cons_zero, List.set_cons_succ]
    refine wpAnyH_take (i := 12) (v := undef) rfl (by kernel_rfl) (by kernel_rfl) (by kernel_rfl) (fun _ _ _ h => hQ _ _ _ _ _ h) (Or.inr ⟨by kernel_rfl, rfl⟩) (by assumption) ?_
    simp only [Act.put, List.getElem_toArray, List.getElem_cons_succ, List.getElem_cons_zero, List.setIfInBounds_toArray, List.set_cons_zero, List.set_cons_succ]
    refine wpAnyH_take (i := 13) (v := undef) rfl (by kernel_rfl) (by kernel_rfl) (by kernel_rfl) (fun _ _ _ h => hQ _ _ _ _ _ h) (Or.inr ⟨by kernel_rfl, rfl⟩) (by assumption) ?_
    simp only [Act.put, List.getElem_toArray, List.getElem_cons_succ, List.getElem_cons_zero, List.setIfInBounds_toArray, List.set_cons_zero, List.set_cons_succ]
    refine wpAnyH_take (i := 14) (v := undef) rfl (by kernel_rfl) (by kernel_rfl) (by kernel_rfl) (fun _ _ _ h => hQ _ _ _ _ _ h) (Or.inr ⟨by kernel_rfl, rfl⟩) (by assumption) ?_
    simp only [Act.put, List.getElem_toArray, List.getElem_cons_succ, List.getElem_cons_zero, List.setIfInBounds_toArray, List.set_cons_zero, List.set_cons_succ]
    refine wpAnyH_take (i := 15) (v := undef) rfl (by kernel_rfl) (by kernel_rfl) (by kernel_rfl) (fun _ _ _ h => hQ _ _ _ _ _ h) (Or.inr ⟨by kernel_rfl, rfl⟩) (by assumption) ?_
    simp only [Act.put, List.getElem_toArray, List.getElem_cons_succ, List.getElem_cons_zero, List.setIfInBounds_toArray, List.set_cons_zero, List.set_cons_succ]
    refine wpAnyH_take (i := 16) (v := undef) rfl (by kernel_rfl) (by kernel_rfl) (by kernel_rfl) (fun _ _ _ h => hQ _ _ _ _ _ h) (Or.inr ⟨by kernel_rfl, rfl⟩) (by assumption) ?_
    simp only [Act.put, List.getElem_toArray, List.getElem_cons_succ, List.getElem_cons_zero, List.setIfInBounds_toArray, List.set_cons_zero, List.set_cons_succ]
    refine wpAnyH_take (i := 17) (v := undef) rfl (by kernel_rfl) (by kernel_rfl) (by kernel_rfl) (fun _ _ _ h => hQ _ _ _ _ _ h) (Or.inr ⟨by kernel_rfl, rfl⟩) (by assumption) ?_
    simp only [Act.put, List.getElem_toArray, List.getElem_cons_succ, List.getElem_cons_zero, List.setIfInBounds_toArray, List.set_cons_zero, List.set_cons_succ]
    refine wpAnyH_take (i := 18) (v := undef) rfl (by kernel_rfl) (by kernel_rfl) (by kernel_rfl) (fun _ _ _ h => hQ _ _ _ _ _ h) (Or.inr ⟨by kernel_rfl, rfl⟩) (by assumption) ?_
    simp only [Act.put, List.getElem_toArray, List.getElem_cons_succ, List.getElem_cons_zero, List.setIfInBounds_toArray, List.set_cons_zero, List.set_cons_succ]
    refine wpAnyH_take (i := 19) (v := undef) rfl (by kernel_rfl) (by kernel_rfl) (by kernel_rfl) (fun _ _ _ h => hQ _ _ _ _ _ h) (Or.inr ⟨by kernel_rfl, rfl⟩) (by assumption) ?_
    simp only [Act.put, List.getElem_toArray, List.getElem_cons_succ, List.getElem_cons_zero, List.setIfInBounds_toArray, List.set_cons_zero, List.set_cons_succ]
    refine wpAnyH_take (i := 20) (v := undef) rfl (by kernel_rfl) (by kernel_rfl) (by kernel_rfl) (fun _ _ _ h => hQ _ _ _ _ _ h) (Or.inr ⟨by kernel_rfl, rfl⟩) (by assumption) ?_
    simp only [Act.put, List.getElem_toArray, List.getElem_cons_succ, List.getElem_cons_zero, List.setIfInBounds_toArray, List.set_cons_zero, List.set_cons_succ]
    refine wpAnyH_take (i := 21) (v := undef) rfl (by kernel_rfl) (by kernel_rfl) (by kernel_rfl) (fun _ _ _ h => hQ _ _ _ _ _ h) (Or.inr ⟨by kernel_rfl, rfl⟩) (by assumption) ?_
    simp only [Act.put, List.getElem_toArray, List.getElem_cons_succ, List.getElem_cons_zero, List.setIfInBounds_toArray, List.set_cons_zero, List.set_cons_succ]
    refine wpAnyH_take (i := 22) (v := undef) rfl (by kernel_rfl) (by kernel_rfl) (by kernel_rfl) (fun _ _ _ h => hQ _ _ _ _ _ h) (Or.inr ⟨by kernel_rfl, rfl⟩) (by assumption) ?_
    simp only [Act.put, List.getElem_toArray, List.getElem_cons_succ, List.getElem_cons_zero, List.setIfInBounds_toArray, List.set_cons_zero, List.set_cons_succ]
    refine wpAnyH_take (i := 23) (v := undef) rfl (by kernel_rfl) (by kernel_rfl) (by kernel_rfl) (fun _ _ _ h => hQ _ _ _ _ _ h) (Or.inr ⟨by kernel_rfl, rfl⟩) (by assumption) ?_
    simp only [Act.put, List.getElem_toArray, List.getElem_cons_succ, List.getElem_cons_zero, List.setIfInBounds_toArray, List.set_cons_zero, List.set_cons_succ]
    refine wpAnyH_take (i := 24) (v := undef) rfl (by kernel_rfl) (by kernel_rfl) (by kernel_rfl) (fun _ _ _ h => hQ _ _ _ _ _ h) (Or.inr ⟨by kernel_rfl, rfl⟩) (by assumption) ?_
    simp only [Act.put, List.getElem_toArray, List.getElem_cons_succ, List.getElem_cons_zero, List.setIfInBounds_toArray, List.set_cons_zero, List.set_cons_succ]
    refine wpAnyH_take (i := 25) (v := undef) rfl (by kernel_rfl) (by kernel_rfl) (by kernel_rfl) (fun _ _ _ h => hQ _ _ _ _ _ h) (Or.inr ⟨by kernel_rfl, rfl⟩) (by assumption) ?_
    simp only [Act.put, List.getElem_toArray, List.getElem_cons_succ, List.getElem_cons_zero, List.setIfInBounds_toArray, List.set_cons_zero, List.set_cons_succ]
    refine wpAnyH_take (i := 26) (v := undef) rfl (by kernel_rfl) (by kernel_rfl) (by kernel_rfl) (fun _ _ _ h => hQ _ _ _ _ _ h) (Or.inr ⟨by kernel_rfl, rfl⟩) (by assumption) ?_
    simp only [Act.put, List.getElem_toArray, List.getElem_cons_succ, List.getElem_cons_zero, List.setIfInBounds_toArray, List.set_cons_zero, List.set_cons_succ]
    refine wpAnyH_take (i := 27) (v := ?_) rfl (by kernel_rfl) (by kernel_rfl) (by kernel_rfl) (fun _ _ _ h => hQ _ _ _ _ _ h) (Or.inl ⟨by kernel_rfl, ?_⟩) (by assumption) ?_
    rotate_left
    · intro w hSw
      obtain ⟨y0, y1, y2, y3, y4⟩ := hSw
      go_simp
      try (with_reducible rfl)
    simp only [Act.put, List.getElem_toArray, List.getElem_cons_succ, List.getElem_cons_zero, List.setIfInBounds_toArray, List.set_cons_zero, List.set_cons_succ]
    refine wpAnyH_done (by kernel_rfl) ?_ _
    simp only [Exit.then]
    unfold HmGoal at HK
    dsimp only at HK
    exact HK _ _ _ _ _ _ _ _ _ _ _ _ _ _ _ _ _ _ _ _ _ _ _ _ _ _ _ _ _ b5

set_option maxRecDepth 4000 in
set_option maxHeartbeats 6400000 in
theorem heavyMessage_any (x : Message) (w : World) (g : goods w.heap.size w x.flds) (hn : wtL x.atoms ≤ 1099400000000) : Calls Tryz.prog 5 #[.agg #[.int .i64 x.fr, .int .i64 x.to, .int .i64 x.h, .slice x.vo.la x.vo.xs.length x.vo.lc, .slice x.mo.la x.mo.xs.length x.mo.lc, .slice x.kn.la x.kn.xs.length x.kn.lc, .slice x.tx.la x.tx.xs.length x.tx.lc]] w fun e w' => IsBool e ∧ Below w.heap.size w w' := by
  have bA : Below w.heap.size w (w.alloc (.cells #[.int .i64 x.fr, .int .i64 x.to, .int .i64 x.h, .slice x.vo.la x.vo.xs.length x.vo.lc, .slice x.mo.la x.mo.xs.length x.mo.lc, .slice x.kn.la x.kn.xs.length x.kn.lc, .slice x.tx.la x.tx.xs.length x.tx.lc] 27)) := (Below.refl _ _).alloc (Nat.le_refl _) _
  have kX := Blk.new w #[.int .i64 x.fr, .int .i64 x.to, .int .i64 x.h, .slice x.vo.la x.vo.xs.length x.vo.lc, .slice x.mo.la x.mo.xs.length x.mo.lc, .slice x.kn.la x.kn.xs.length x.kn.lc, .slice x.tx.la x.tx.xs.length x.tx.lc] 27
  have hh4 := Lst.held (flds := Motion.flds) (l := x.mo) Motion.len (g.get 4 rfl)
  have hh5 := Lst.held (flds := Known.flds) (l := x.kn) Known.len (g.get 5 rfl)
  have hh6 := Lst.held (flds := Tx.flds) (l := x.tx) Tx.len (g.get 6 rfl)
  have lv : x.vo.xs.length ≤ 1099400000000 := by
    have := len_wt Vote.atoms Vote.wt_pos x.vo.xs
    simp only [Message.atoms, wtL_append, listL, wtL] at hn
    omega
  have lm : x.mo.xs.length ≤ 1099400000000 := by
    have := len_wt Motion.atoms Motion.wt_pos x.mo.xs
    simp only [Message.atoms, wtL_append, listL, wtL] at hn
    omega
  have lk : x.kn.xs.length ≤ 1099400000000 := by
    have := len_wt Known.atoms Known.wt_pos x.kn.xs
    simp only [Message.atoms, wtL_append, listL, wtL] at hn
    omega
  have wm : ∀ y ∈ x.mo.xs, wtL y.atoms ≤ 1099400000000 := fun y hy => by
    obtain ⟨i, hi⟩ := List.getElem?_of_mem hy
    have := eachL_wt Motion.atoms x.mo.xs i y hi
    simp only [Message.atoms, wtL_append, listL, wtL] at hn
    omega
  have wk : ∀ y ∈ x.kn.xs, y.ce.fr.xs.length ≤ 1099400000000 ∧ y.bl.gu.xs.length ≤ 1099400000000 := fun y hy => by
    obtain ⟨i, hi⟩ := List.getElem?_of_mem hy
    have h1 := eachL_wt Known.atoms x.kn.xs i y hi
    simp only [Message.atoms, wtL_append, listL, wtL] at hn
    have h2 := len_wt Guilt.atoms Guilt.wt_pos y.bl.gu.xs
    have h3 := cert_lens y.ce
    simp only [Known.atoms, Block.atoms, wtL_append, listL, wtL] at h1
    exact ⟨h3 (by omega), by omega⟩
  have key : ∀ y : World, Below w.heap.size w y → Calls Tryz.prog 9 #[.slice x.tx.la x.tx.xs.length x.tx.lc] y fun e w' => IsBool e ∧ Below y.heap.size y w' := fun y hy =>
    heavy_any w.heap.size x.tx y hy.size (hh6.below hy)
  clear g hn hh6
  go_enter Tryz.func5, Tryz.ntmps5
  by_cases hbig : (4096 : Int) < (x.vo.xs.length : Int) + (x.mo.xs.length : Int) + (x.kn.xs.length : Int)
  · have hd := decide_eq_true hbig
    go_wp2
    go_ret
    exact ⟨⟨_, rfl⟩, bA⟩
  have hd := decide_eq_false hbig
  go_wp2_with fail
  refine (key _ bA).mono ?_
  rintro e w0 ⟨⟨z, rfl⟩, b0⟩
  have B0 := bA.trans (b0.mono bA.size)
  have k0 := kX.below b0 kX.lt
  clear key hd hbig bA kX
  cases z
  rotate_left
  · go_wp2
    go_ret
    exact ⟨⟨_, rfl⟩, B0⟩
  go_wp2_with fail
  go_loopw [3] (fun iv wv => ∃ (k : Nat), k ≤ x.mo.xs.length ∧ iv = .int .i64 k ∧ Below w0.heap.size w0 wv) (fun iv _ => x.mo.xs.length - (intOf iv).toNat)
  case atStart => exact ⟨0, Nat.zero_le _, rfl, Below.refl _ _⟩
  case round =>
    obtain ⟨k, hk, rfl, bk⟩ := hrel
    have Bk := B0.trans (bk.mono B0.size)
    have Xk := k0.below bk k0.lt
    have q4 := Xk.cell 4
    simp only [List.getElem?_toArray, List.getElem?_cons_succ, List.getElem?_cons_zero] at q4
    have hzk := Xk.lt
    by_cases hk2 : k < x.mo.xs.length
    · have hk3 : (k : Int) < (x.mo.xs.length : Int) := by omega
      obtain ⟨_, _, h0 | ⟨rb, ro, e0, rl, rz, rc⟩⟩ := hh4.below Bk
      · rw [h0] at hk2; simp at hk2
      have rk := rc k (x.mo.xs[k]'hk2) (List.getElem?_eq_getElem hk2)
      have hwk := wm (x.mo.xs[k]'hk2) (List.getElem_mem hk2)
      obtain ⟨y, Hy⟩ : ∃ y : Motion, Hid (y = x.mo.xs[k]'hk2) := ⟨x.mo.xs[k]'hk2, rfl⟩
      rw [← Hy.out] at rk hwk
      have f0 := rk.get0 rfl
      have f1 := rk.get 1 rfl
      have f2 := rk.get 2 rfl
      have f3 := rk.get 3 rfl
      have f4 := rk.get 4 rfl
      have f5 := rk.get 5 rfl
      have f6 := rk.get 6 rfl
      have f7 := rk.get 7 rfl
      have f8 := rk.get 8 rfl
      have f9 := rk.get 9 rfl
      have f10 := rk.get 10 rfl
      have f11 := rk.get 11 rfl
      have f12 := rk.get 12 rfl
      have f13 := rk.get 13 rfl
      simp only [Fld.val, Lst.fld, List.length_map] at f0 f1 f2 f3 f4 f5 f6 f7 f8 f9 f10 f11 f12 f13
      rw [e0] at q4
      have gd := rk.goods.mono Bk.size
      clear rc rk e0
      go_wp2_with fail
      refine (heavyMotion_any y _ gd hwk).mono ?_
      rintro e w1 ⟨⟨z, rfl⟩, b1⟩
      cases z
      · go_wp2
        exact ⟨⟨k + 1, by omega, by go_num, bk.trans (b1.mono bk.size)⟩, by simp [intOf]; omega⟩
      · go_wp2
        go_ret
        exact ⟨⟨_, rfl⟩, Bk.trans (b1.mono Bk.size)⟩
    have hk3 : ¬ (k : Int) < (x.mo.xs.length : Int) := by omega
    have bS := bk
    go_wp2_with fail
    clear q4 hzk bk Bk Xk
    go_loopw [4] (fun iv wv => ∃ (j : Nat), j ≤ x.kn.xs.length ∧ iv = .int .i64 j ∧ Below w0.heap.size w0 wv) (fun iv _ => x.kn.xs.length - (intOf iv).toNat)
    case atStart => exact ⟨0, Nat.zero_le _, rfl, bS⟩
    case round =>
      obtain ⟨j, hj, rfl, bj⟩ := hrel
      have Bj := B0.trans (bj.mono B0.size)
      have Xj := k0.below bj k0.lt
      have q5 := Xj.cell 5
      simp only [List.getElem?_toArray, List.getElem?_cons_succ, List.getElem?_cons_zero] at q5
      have hzj := Xj.lt
      by_cases hj2 : j < x.kn.xs.length
      · have hj3 : (j : Int) < (x.kn.xs.length : Int) := by omega
        obtain ⟨_, _, h0 | ⟨rb, ro, e0, rl, rz, rc⟩⟩ := hh5.below Bj
        · rw [h0] at hj2; simp at hj2
        have rk := rc j (x.kn.xs[j]'hj2) (List.getElem?_eq_getElem hj2)
        obtain ⟨lf, lg⟩ := wk (x.kn.xs[j]'hj2) (List.getElem_mem hj2)
        obtain ⟨y, Hy⟩ : ∃ y : Known, Hid (y = x.kn.xs[j]'hj2) := ⟨x.kn.xs[j]'hj2, rfl⟩
        rw [← Hy.out] at rk lf lg
        have r15 := rk.get 15 rfl
        have r16 := rk.get 16 rfl
        have r5 := rk.get 5 rfl
        simp only [Fld.val, Lst.fld, List.length_map] at r15 r16 r5
        have hh15 := Lst.held (flds := Tx.flds) (l := y.bl.tx) Tx.len (rk.goods.get 15 rfl)
        rw [e0] at q5
        clear rc rk e0
        go_upto_region 11 with fail
  
        refine hm_region w.heap.size w.heap.size rb ro j x.kn.xs.length x.kn.lc y wr _ _ _ _ _ _ _ _ _ _ _ _ _ _ _ _ _ _ _ _ _ _ _ _ _ _ _ _ _ _ _ _ _ _ _ _ _ _ _ _ _ _ _ _ _ _ _ _ _ _ _ _ _ _ _ _ _ _ _ _ _ _ _ _ _ _ _ _ _ _ Bj.size hj3 hzj rz lf lg hh15 q5 r15 r16 r5 (by intro p a i v w' h; cases i <;> exact h) ?_
        unfold HmGoal
        dsimp only
        clear q5 r15 r16 r5 hh15 lf lg wk wm
        intro d42 d43 d44 d45 d46 d47 d48 d49 d50 d51 d52 d53 d54 d55 d56 d57 d58 d59 d60 d61 d62 d63 d64 d65 d66 d67 d68 z w4 b5
        cases z
        · go_wp2
          exact ⟨⟨j + 1, by omega, by go_num, bj.trans (b5.mono bj.size)⟩, by simp [intOf]; omega⟩
        · go_wp2
          go_ret
          exact ⟨⟨_, rfl⟩, Bj.trans (b5.mono Bj.size)⟩
      have hj3 : ¬ (j : Int) < (x.kn.xs.length : Int) := by omega
      go_wp2
      go_ret
      exact ⟨⟨_, rfl⟩, Bj⟩

end Go.Proofs.YtcnnjcbbeclglaaGreat
