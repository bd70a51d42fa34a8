/- What proves guilt. -/
import Derived.Test.YtomkiglagpfnoaaVHas
import Derived.Test.YtomkiglagpfnoaaXTop
import Derived.Deep.RegionHeld3
namespace Go.Proofs.Ytomkiglagpfnoaa
open Go.RowKit
set_option linter.unusedVariables false
set_option linter.unusedSimpArgs false

theorem placeOf_any (h r s : Int) (has : Bool) (bl f : Int) (w : World) : Calls Try.prog 12 #[.agg #[.int .i64 h, .int .i64 r, .int .i64 s, .bool has, .int .u64 bl, .int .i64 f]] w fun e w' => e = .returned (.agg #[.int .i64 r, .int .i64 s, .int .i64 f]) ∧ Below w.heap.size w w' := by
  have bA : Below w.heap.size w (w.alloc (.cells #[.int .i64 h, .int .i64 r, .int .i64 s, .bool has, .int .u64 bl, .int .i64 f] 29)) := (Below.refl _ _).alloc (Nat.le_refl _) _
  go_enter Try.func12, Try.ntmps12
  go_wp2
  exact bodyPost_ret (v := .agg #[.int .i64 r, .int .i64 s, .int .i64 f]) (by simp [results, Try.results12, go_sem]) rfl ⟨rfl, by first | exact bA | exact bA.alloc bA.size _ | exact ((bA.alloc bA.size _).setCell (p := ⟨w.heap.size + 1, 0, none⟩) (Nat.le_succ _) _)⟩

/-- Both may be, are of one place, and unlike. -/
def provP (E h r s : Int) (has : Bool) (bl f h2 r2 s2 : Int) (has2 : Bool) (bl2 f2 : Int) : Bool := decide (E = 0 ∧ h = h2 ∧ (r = r2 ∧ s = s2 ∧ f = f2) ∧ ¬ (has = has2 ∧ bl = bl2))

set_option maxHeartbeats 1600000 in
theorem proves_any (h r s : Int) (has : Bool) (bl f h2 r2 s2 : Int) (has2 : Bool) (bl2 f2 : Int) (w : World) (S : ByteArray) (E : Int)
    (K : ∀ x : World, Calls Try.prog 11 #[.agg #[.int .i64 h, .int .i64 r, .int .i64 s, .bool has, .int .u64 bl, .int .i64 f, .int .i64 h2, .int .i64 r2, .int .i64 s2, .bool has2, .int .u64 bl2, .int .i64 f2]] x fun e w' => e = .returned (.tuple #[.string S, .int .i64 E]) ∧ Below x.heap.size x w') :
    Calls Try.prog 5 #[.agg #[.int .i64 h, .int .i64 r, .int .i64 s, .bool has, .int .u64 bl, .int .i64 f, .int .i64 h2, .int .i64 r2, .int .i64 s2, .bool has2, .int .u64 bl2, .int .i64 f2]] w fun e w' => e = .returned (.bool (provP E h r s has bl f h2 r2 s2 has2 bl2 f2)) ∧ Below w.heap.size w w' := by
  have bA : Below w.heap.size w (w.alloc (.cells #[.int .i64 h, .int .i64 r, .int .i64 s, .bool has, .int .u64 bl, .int .i64 f, .int .i64 h2, .int .i64 r2, .int .i64 s2, .bool has2, .int .u64 bl2, .int .i64 f2] 31)) := (Below.refl _ _).alloc (Nat.le_refl _) _
  have kG := Blk.new w #[.int .i64 h, .int .i64 r, .int .i64 s, .bool has, .int .u64 bl, .int .i64 f, .int .i64 h2, .int .i64 r2, .int .i64 s2, .bool has2, .int .u64 bl2, .int .i64 f2] 31
  have KA := K (w.alloc (.cells #[.int .i64 h, .int .i64 r, .int .i64 s, .bool has, .int .u64 bl, .int .i64 f, .int .i64 h2, .int .i64 r2, .int .i64 s2, .bool has2, .int .u64 bl2, .int .i64 f2] 31))
  obtain ⟨P, HP⟩ : ∃ P, Hid (provP E h r s has bl f h2 r2 s2 has2 bl2 f2 = P) := ⟨_, rfl⟩
  rw [HP.out]
  go_enter Try.func5, Try.ntmps5
  go_wp2_with fail
  refine KA.mono ?_
  rintro e w1 ⟨rfl, b1⟩
  have kG1 := kG.below b1 kG.lt
  have B1 := bA.trans (b1.mono bA.size)
  clear K KA kG b1 bA
  have C0 : ∀ w', Below w1.heap.size w1 w' → w'.cell? ⟨w.heap.size, 0, none⟩ = some (.int .i64 h) := fun w' hb => ((kG1.below hb kG1.lt).cell 0).trans rfl
  have C1 : ∀ w', Below w1.heap.size w1 w' → w'.cell? ⟨w.heap.size, 1, none⟩ = some (.int .i64 r) := fun w' hb => ((kG1.below hb kG1.lt).cell 1).trans rfl
  have C2 : ∀ w', Below w1.heap.size w1 w' → w'.cell? ⟨w.heap.size, 2, none⟩ = some (.int .i64 s) := fun w' hb => ((kG1.below hb kG1.lt).cell 2).trans rfl
  have C3 : ∀ w', Below w1.heap.size w1 w' → w'.cell? ⟨w.heap.size, 3, none⟩ = some (.bool has) := fun w' hb => ((kG1.below hb kG1.lt).cell 3).trans rfl
  have C4 : ∀ w', Below w1.heap.size w1 w' → w'.cell? ⟨w.heap.size, 4, none⟩ = some (.int .u64 bl) := fun w' hb => ((kG1.below hb kG1.lt).cell 4).trans rfl
  have C5 : ∀ w', Below w1.heap.size w1 w' → w'.cell? ⟨w.heap.size, 5, none⟩ = some (.int .i64 f) := fun w' hb => ((kG1.below hb kG1.lt).cell 5).trans rfl
  have C6 : ∀ w', Below w1.heap.size w1 w' → w'.cell? ⟨w.heap.size, 6, none⟩ = some (.int .i64 h2) := fun w' hb => ((kG1.below hb kG1.lt).cell 6).trans rfl
  have C7 : ∀ w', Below w1.heap.size w1 w' → w'.cell? ⟨w.heap.size, 7, none⟩ = some (.int .i64 r2) := fun w' hb => ((kG1.below hb kG1.lt).cell 7).trans rfl
  have C8 : ∀ w', Below w1.heap.size w1 w' → w'.cell? ⟨w.heap.size, 8, none⟩ = some (.int .i64 s2) := fun w' hb => ((kG1.below hb kG1.lt).cell 8).trans rfl
  have C9 : ∀ w', Below w1.heap.size w1 w' → w'.cell? ⟨w.heap.size, 9, none⟩ = some (.bool has2) := fun w' hb => ((kG1.below hb kG1.lt).cell 9).trans rfl
  have C10 : ∀ w', Below w1.heap.size w1 w' → w'.cell? ⟨w.heap.size, 10, none⟩ = some (.int .u64 bl2) := fun w' hb => ((kG1.below hb kG1.lt).cell 10).trans rfl
  have C11 : ∀ w', Below w1.heap.size w1 w' → w'.cell? ⟨w.heap.size, 11, none⟩ = some (.int .i64 f2) := fun w' hb => ((kG1.below hb kG1.lt).cell 11).trans rfl
  have zG := kG1.lt
  have bw : Below w1.heap.size w1 w1 := Below.refl _ _
  clear kG1
  by_cases hE : E = 0
  rotate_left
  · have HF : Hid (P = false) := by show _ = _; rw [← HP.out]; exact decide_eq_false fun g => hE g.1
    have hEd : (E != 0) = true := by simpa using hE
    clear HP
    go_wp2
    go_ret
    exact ⟨by rw [HF.out]; rfl, B1⟩
  subst hE
  by_cases hh : h = h2
  rotate_left
  · have HF : Hid (P = false) := by show _ = _; rw [← HP.out]; exact decide_eq_false fun g => hh g.2.1
    have hd : (h == h2) = false := by simpa using hh
    clear HP hh
    go_upto_region 4 with fail
    have bw0 : Below w1.heap.size w1 w1.drew := bw.drew
    refine wp_region_held (S := fun w' => Below w1.heap.size w1 w') (by kernel_rfl) ?_
    refine wpAnyH_take (i := 0) (v := ?_) rfl (by kernel_rfl) (by kernel_rfl) (by kernel_rfl) (fun _ _ _ h => h) (Or.inl ⟨by kernel_rfl, ?_⟩) (by assumption) ?_
    rotate_left
    · intro w' hSw
      have y0 := C0 _ hSw
      have y1 := C1 _ hSw
      have y2 := C2 _ hSw
      have y3 := C3 _ hSw
      have y4 := C4 _ hSw
      have y5 := C5 _ hSw
      have y6 := C6 _ hSw
      have y7 := C7 _ hSw
      have y8 := C8 _ hSw
      have y9 := C9 _ hSw
      have y10 := C10 _ hSw
      have y11 := C11 _ hSw
      go_simp
      try (with_reducible rfl)
    simp only [Act.put, List.getElem_toArray, List.getElem_cons_succ, List.getElem_cons_zero, List.setIfInBounds_toArray, List.set_cons_zero, List.set_cons_succ]
    refine wpAnyH_take (i := 1) (v := ?_) rfl (by kernel_rfl) (by kernel_rfl) (by kernel_rfl) (fun _ _ _ h => h) (Or.inl ⟨by kernel_rfl, ?_⟩) (by assumption) ?_
    rotate_left
    · intro w' hSw
      have y0 := C0 _ hSw
      have y1 := C1 _ hSw
      have y2 := C2 _ hSw
      have y3 := C3 _ hSw
      have y4 := C4 _ hSw
      have y5 := C5 _ hSw
      have y6 := C6 _ hSw
      have y7 := C7 _ hSw
      have y8 := C8 _ hSw
      have y9 := C9 _ hSw
      have y10 := C10 _ hSw
      have y11 := C11 _ hSw
      go_simp
      try (with_reducible rfl)
    simp only [Act.put, List.getElem_toArray, List.getElem_cons_succ, List.getElem_cons_zero, List.setIfInBounds_toArray, List.set_cons_zero, List.set_cons_succ]
    refine wpAnyH_take (i := 2) (v := ?_) rfl (by kernel_rfl) (by kernel_rfl) (by kernel_rfl) (fun _ _ _ h => h) (Or.inl ⟨by kernel_rfl, ?_⟩) (by assumption) ?_
    rotate_left
    · intro w' hSw
      have y0 := C0 _ hSw
      have y1 := C1 _ hSw
      have y2 := C2 _ hSw
      have y3 := C3 _ hSw
      have y4 := C4 _ hSw
      have y5 := C5 _ hSw
      have y6 := C6 _ hSw
      have y7 := C7 _ hSw
      have y8 := C8 _ hSw
      have y9 := C9 _ hSw
      have y10 := C10 _ hSw
      have y11 := C11 _ hSw
      go_simp
      try (with_reducible rfl)
    simp only [Act.put, List.getElem_toArray, List.getElem_cons_succ, List.getElem_cons_zero, List.setIfInBounds_toArray, List.set_cons_zero, List.set_cons_succ]
    refine wpAnyH_take (i := 3) (v := ?_) rfl (by kernel_rfl) (by kernel_rfl) (by kernel_rfl) (fun _ _ _ h => h) (Or.inl ⟨by kernel_rfl, ?_⟩) (by assumption) ?_
    rotate_left
    · intro w' hSw
      have y0 := C0 _ hSw
      have y1 := C1 _ hSw
      have y2 := C2 _ hSw
      have y3 := C3 _ hSw
      have y4 := C4 _ hSw
      have y5 := C5 _ hSw
      have y6 := C6 _ hSw
      have y7 := C7 _ hSw
      have y8 := C8 _ hSw
      have y9 := C9 _ hSw
      have y10 := C10 _ hSw
      have y11 := C11 _ hSw
      go_simp
      try (with_reducible rfl)
    simp only [Act.put, List.getElem_toArray, List.getElem_cons_succ, List.getElem_cons_zero, List.setIfInBounds_toArray, List.set_cons_zero, List.set_cons_succ]
    refine wpAnyH_take (i := 4) (v := ?_) rfl (by kernel_rfl) (by kernel_rfl) (by kernel_rfl) (fun _ _ _ h => h) (Or.inl ⟨by kernel_rfl, ?_⟩) (by assumption) ?_
    rotate_left
    · intro w' hSw
      have y0 := C0 _ hSw
      have y1 := C1 _ hSw
      have y2 := C2 _ hSw
      have y3 := C3 _ hSw
      have y4 := C4 _ hSw
      have y5 := C5 _ hSw
      have y6 := C6 _ hSw
      have y7 := C7 _ hSw
      have y8 := C8 _ hSw
      have y9 := C9 _ hSw
      have y10 := C10 _ hSw
      have y11 := C11 _ hSw
      go_simp
      try (with_reducible rfl)
    simp only [Act.put, List.getElem_toArray, List.getElem_cons_succ, List.getElem_cons_zero, List.setIfInBounds_toArray, List.set_cons_zero, List.set_cons_succ]
    refine wpAnyH_take (i := 5) (v := ?_) rfl (by kernel_rfl) (by kernel_rfl) (by kernel_rfl) (fun _ _ _ h => h) (Or.inl ⟨by kernel_rfl, ?_⟩) (by assumption) ?_
    rotate_left
    · intro w' hSw
      have y0 := C0 _ hSw
      have y1 := C1 _ hSw
      have y2 := C2 _ hSw
      have y3 := C3 _ hSw
      have y4 := C4 _ hSw
      have y5 := C5 _ hSw
      have y6 := C6 _ hSw
      have y7 := C7 _ hSw
      have y8 := C8 _ hSw
      have y9 := C9 _ hSw
      have y10 := C10 _ hSw
      have y11 := C11 _ hSw
      go_simp
      try (with_reducible rfl)
    simp only [Act.put, List.getElem_toArray, List.getElem_cons_succ, List.getElem_cons_zero, List.setIfInBounds_toArray, List.set_cons_zero, List.set_cons_succ]
    refine wpAnyH_take (i := 6) (v := .bool false) rfl (by kernel_rfl) (by kernel_rfl) (by kernel_rfl) (fun _ _ _ h => h) (Or.inl ⟨by kernel_rfl, ?_⟩) (by assumption) ?_
    · intro w' hSw
      have y0 := C0 _ hSw
      have y1 := C1 _ hSw
      have y2 := C2 _ hSw
      have y3 := C3 _ hSw
      have y4 := C4 _ hSw
      have y5 := C5 _ hSw
      have y6 := C6 _ hSw
      have y7 := C7 _ hSw
      have y8 := C8 _ hSw
      have y9 := C9 _ hSw
      have y10 := C10 _ hSw
      have y11 := C11 _ hSw
      go_simp
      try (with_reducible rfl)
    simp only [Act.put, List.getElem_toArray, List.getElem_cons_succ, List.getElem_cons_zero, List.setIfInBounds_toArray, List.set_cons_zero, List.set_cons_succ]
    refine wpAnyH_take (i := 7) (v := .bool false) rfl (by kernel_rfl) (by kernel_rfl) (by kernel_rfl) (fun _ _ _ h => h) (Or.inl ⟨by kernel_rfl, ?_⟩) (by assumption) ?_
    · intro w' hSw
      have y0 := C0 _ hSw
      have y1 := C1 _ hSw
      have y2 := C2 _ hSw
      have y3 := C3 _ hSw
      have y4 := C4 _ hSw
      have y5 := C5 _ hSw
      have y6 := C6 _ hSw
      have y7 := C7 _ hSw
      have y8 := C8 _ hSw
      have y9 := C9 _ hSw
      have y10 := C10 _ hSw
      have y11 := C11 _ hSw
      go_simp
      try (with_reducible rfl)
    simp only [Act.put, List.getElem_toArray, List.getElem_cons_succ, List.getElem_cons_zero, List.setIfInBounds_toArray, List.set_cons_zero, List.set_cons_succ]
    refine wpAnyH_take (i := 8) (v := undef) rfl (by kernel_rfl) (by kernel_rfl) (by kernel_rfl) (fun _ _ _ h => h) (Or.inr ⟨by kernel_rfl, rfl⟩) (by assumption) ?_
    simp only [Act.put, List.getElem_toArray, List.getElem_cons_succ, List.getElem_cons_zero, List.setIfInBounds_toArray, List.set_cons_zero, List.set_cons_succ]
    refine wpAnyH_take (i := 9) (v := undef) rfl (by kernel_rfl) (by kernel_rfl) (by kernel_rfl) (fun _ _ _ h => h) (Or.inr ⟨by kernel_rfl, rfl⟩) (by assumption) ?_
    simp only [Act.put, List.getElem_toArray, List.getElem_cons_succ, List.getElem_cons_zero, List.setIfInBounds_toArray, List.set_cons_zero, List.set_cons_succ]
    refine wpAnyH_take (i := 11) (v := undef) rfl (by kernel_rfl) (by kernel_rfl) (by kernel_rfl) (fun _ _ _ h => h) (Or.inr ⟨by kernel_rfl, rfl⟩) (by assumption) ?_
    simp only [Act.put, List.getElem_toArray, List.getElem_cons_succ, List.getElem_cons_zero, List.setIfInBounds_toArray, List.set_cons_zero, List.set_cons_succ]
    refine wpAnyH_take (i := 12) (v := undef) rfl (by kernel_rfl) (by kernel_rfl) (by kernel_rfl) (fun _ _ _ h => h) (Or.inr ⟨by kernel_rfl, rfl⟩) (by assumption) ?_
    simp only [Act.put, List.getElem_toArray, List.getElem_cons_succ, List.getElem_cons_zero, List.setIfInBounds_toArray, List.set_cons_zero, List.set_cons_succ]
    refine wpAnyH_ready (rs := [10]) (by kernel_rfl) (by simp) ?_
    refine AllReadyH.cons rfl (fun K hK => ?_) AllReadyH.nil
    go_simp
    refine hK.out _ _ (by assumption) (fun _ => ?_)
    clear hK K
    try simp only [Act.put, List.getElem_toArray, List.getElem_cons_succ, List.getElem_cons_zero, List.setIfInBounds_toArray, List.set_cons_zero, List.set_cons_succ]
    refine wpAnyH_ready (rs := [13]) (by kernel_rfl) (by simp) ?_
    refine AllReadyH.cons rfl (fun K hK => ?_) AllReadyH.nil
    go_simp
    refine hK.out _ _ (by assumption) (fun _ => ?_)
    clear hK K
    try simp only [Act.put, List.getElem_toArray, List.getElem_cons_succ, List.getElem_cons_zero, List.setIfInBounds_toArray, List.set_cons_zero, List.set_cons_succ]
    refine wpAnyH_take (i := 14) (v := undef) rfl (by kernel_rfl) (by kernel_rfl) (by kernel_rfl) (fun _ _ _ h => h) (Or.inr ⟨by kernel_rfl, rfl⟩) (by assumption) ?_
    simp only [Act.put, List.getElem_toArray, List.getElem_cons_succ, List.getElem_cons_zero, List.setIfInBounds_toArray, List.set_cons_zero, List.set_cons_succ]
    refine wpAnyH_take (i := 15) (v := .bool false) rfl (by kernel_rfl) (by kernel_rfl) (by kernel_rfl) (fun _ _ _ h => h) (Or.inl ⟨by kernel_rfl, ?_⟩) (by assumption) ?_
    · intro w' hSw
      have y0 := C0 _ hSw
      have y1 := C1 _ hSw
      have y2 := C2 _ hSw
      have y3 := C3 _ hSw
      have y4 := C4 _ hSw
      have y5 := C5 _ hSw
      have y6 := C6 _ hSw
      have y7 := C7 _ hSw
      have y8 := C8 _ hSw
      have y9 := C9 _ hSw
      have y10 := C10 _ hSw
      have y11 := C11 _ hSw
      go_simp
      try (with_reducible rfl)
    simp only [Act.put, List.getElem_toArray, List.getElem_cons_succ, List.getElem_cons_zero, List.setIfInBounds_toArray, List.set_cons_zero, List.set_cons_succ]
    refine wpAnyH_take (i := 16) (v := .bool false) rfl (by kernel_rfl) (by kernel_rfl) (by kernel_rfl) (fun _ _ _ h => h) (Or.inl ⟨by kernel_rfl, ?_⟩) (by assumption) ?_
    · intro w' hSw
      have y0 := C0 _ hSw
      have y1 := C1 _ hSw
      have y2 := C2 _ hSw
      have y3 := C3 _ hSw
      have y4 := C4 _ hSw
      have y5 := C5 _ hSw
      have y6 := C6 _ hSw
      have y7 := C7 _ hSw
      have y8 := C8 _ hSw
      have y9 := C9 _ hSw
      have y10 := C10 _ hSw
      have y11 := C11 _ hSw
      go_simp
      try (with_reducible rfl)
    simp only [Act.put, List.getElem_toArray, List.getElem_cons_succ, List.getElem_cons_zero, List.setIfInBounds_toArray, List.set_cons_zero, List.set_cons_succ]
    refine wpAnyH_take (i := 17) (v := undef) rfl (by kernel_rfl) (by kernel_rfl) (by kernel_rfl) (fun _ _ _ h => h) (Or.inr ⟨by kernel_rfl, rfl⟩) (by assumption) ?_
    simp only [Act.put, List.getElem_toArray, List.getElem_cons_succ, List.getElem_cons_zero, List.setIfInBounds_toArray, List.set_cons_zero, List.set_cons_succ]
    refine wpAnyH_take (i := 18) (v := undef) rfl (by kernel_rfl) (by kernel_rfl) (by kernel_rfl) (fun _ _ _ h => h) (Or.inr ⟨by kernel_rfl, rfl⟩) (by assumption) ?_
    simp only [Act.put, List.getElem_toArray, List.getElem_cons_succ, List.getElem_cons_zero, List.setIfInBounds_toArray, List.set_cons_zero, List.set_cons_succ]
    refine wpAnyH_take (i := 19) (v := undef) rfl (by kernel_rfl) (by kernel_rfl) (by kernel_rfl) (fun _ _ _ h => h) (Or.inr ⟨by kernel_rfl, rfl⟩) (by assumption) ?_
    simp only [Act.put, List.getElem_toArray, List.getElem_cons_succ, List.getElem_cons_zero, List.setIfInBounds_toArray, List.set_cons_zero, List.set_cons_succ]
    refine wpAnyH_take (i := 20) (v := undef) rfl (by kernel_rfl) (by kernel_rfl) (by kernel_rfl) (fun _ _ _ h => h) (Or.inr ⟨by kernel_rfl, rfl⟩) (by assumption) ?_
    simp only [Act.put, List.getElem_toArray, List.getElem_cons_succ, List.getElem_cons_zero, List.setIfInBounds_toArray, List.set_cons_zero, List.set_cons_succ]
    refine wpAnyH_take (i := 21) (v := undef) rfl (by kernel_rfl) (by kernel_rfl) (by kernel_rfl) (fun _ _ _ h => h) (Or.inr ⟨by kernel_rfl, rfl⟩) (by assumption) ?_
    simp only [Act.put, List.getElem_toArray, List.getElem_cons_succ, List.getElem_cons_zero, List.setIfInBounds_toArray, List.set_cons_zero, List.set_cons_succ]
    refine wpAnyH_take (i := 22) (v := .bool false) rfl (by kernel_rfl) (by kernel_rfl) (by kernel_rfl) (fun _ _ _ h => h) (Or.inl ⟨by kernel_rfl, ?_⟩) (by assumption) ?_
    · intro w' hSw
      have y0 := C0 _ hSw
      have y1 := C1 _ hSw
      have y2 := C2 _ hSw
      have y3 := C3 _ hSw
      have y4 := C4 _ hSw
      have y5 := C5 _ hSw
      have y6 := C6 _ hSw
      have y7 := C7 _ hSw
      have y8 := C8 _ hSw
      have y9 := C9 _ hSw
      have y10 := C10 _ hSw
      have y11 := C11 _ hSw
      go_simp
      try (with_reducible rfl)
    simp only [Act.put, List.getElem_toArray, List.getElem_cons_succ, List.getElem_cons_zero, List.setIfInBounds_toArray, List.set_cons_zero, List.set_cons_succ]
    refine wpAnyH_ready (rs := [23]) (by kernel_rfl) (by simp) ?_
    refine AllReadyH.cons rfl (fun K hK => ?_) AllReadyH.nil
    go_simp
    refine hK.out _ _ (by assumption) (fun _ => ?_)
    clear hK K
    try simp only [Act.put, List.getElem_toArray, List.getElem_cons_succ, List.getElem_cons_zero, List.setIfInBounds_toArray, List.set_cons_zero, List.set_cons_succ]
    refine wpAnyH_done (by kernel_rfl) ?_ _
    go_wp2
    go_ret
    exact ⟨by rw [HF.out]; rfl, B1.trans (bw0.mono B1.size)⟩
  subst hh
  by_cases hr : r = r2
  rotate_left
  · have HF : Hid (P = false) := by show _ = _; rw [← HP.out]; exact decide_eq_false fun g => hr g.2.2.1.1
    have hd : (r == r2) = false := by simpa using hr
    clear HP hr
    go_upto_region 4 with fail
    have bw0 : Below w1.heap.size w1 w1.drew := bw.drew
    refine wp_region_held (S := fun w' => Below w1.heap.size w1 w') (by kernel_rfl) ?_
    refine wpAnyH_take (i := 0) (v := ?_) rfl (by kernel_rfl) (by kernel_rfl) (by kernel_rfl) (fun _ _ _ h => h) (Or.inl ⟨by kernel_rfl, ?_⟩) (by assumption) ?_
    rotate_left
    · intro w' hSw
      have y0 := C0 _ hSw
      have y1 := C1 _ hSw
      have y2 := C2 _ hSw
      have y3 := C3 _ hSw
      have y4 := C4 _ hSw
      have y5 := C5 _ hSw
      have y6 := C6 _ hSw
      have y7 := C7 _ hSw
      have y8 := C8 _ hSw
      have y9 := C9 _ hSw
      have y10 := C10 _ hSw
      have y11 := C11 _ hSw
      go_simp
      try (with_reducible rfl)
    simp only [Act.put, List.getElem_toArray, List.getElem_cons_succ, List.getElem_cons_zero, List.setIfInBounds_toArray, List.set_cons_zero, List.set_cons_succ]
    refine wpAnyH_take (i := 1) (v := ?_) rfl (by kernel_rfl) (by kernel_rfl) (by kernel_rfl) (fun _ _ _ h => h) (Or.inl ⟨by kernel_rfl, ?_⟩) (by assumption) ?_
    rotate_left
    · intro w' hSw
      have y0 := C0 _ hSw
      have y1 := C1 _ hSw
      have y2 := C2 _ hSw
      have y3 := C3 _ hSw
      have y4 := C4 _ hSw
      have y5 := C5 _ hSw
      have y6 := C6 _ hSw
      have y7 := C7 _ hSw
      have y8 := C8 _ hSw
      have y9 := C9 _ hSw
      have y10 := C10 _ hSw
      have y11 := C11 _ hSw
      go_simp
      try (with_reducible rfl)
    simp only [Act.put, List.getElem_toArray, List.getElem_cons_succ, List.getElem_cons_zero, List.setIfInBounds_toArray, List.set_cons_zero, List.set_cons_succ]
    refine wpAnyH_take (i := 2) (v := ?_) rfl (by kernel_rfl) (by kernel_rfl) (by kernel_rfl) (fun _ _ _ h => h) (Or.inl ⟨by kernel_rfl, ?_⟩) (by assumption) ?_
    rotate_left
    · intro w' hSw
      have y0 := C0 _ hSw
      have y1 := C1 _ hSw
      have y2 := C2 _ hSw
      have y3 := C3 _ hSw
      have y4 := C4 _ hSw
      have y5 := C5 _ hSw
      have y6 := C6 _ hSw
      have y7 := C7 _ hSw
      have y8 := C8 _ hSw
      have y9 := C9 _ hSw
      have y10 := C10 _ hSw
      have y11 := C11 _ hSw
      go_simp
      try (with_reducible rfl)
    simp only [Act.put, List.getElem_toArray, List.getElem_cons_succ, List.getElem_cons_zero, List.setIfInBounds_toArray, List.set_cons_zero, List.set_cons_succ]
    refine wpAnyH_take (i := 3) (v := ?_) rfl (by kernel_rfl) (by kernel_rfl) (by kernel_rfl) (fun _ _ _ h => h) (Or.inl ⟨by kernel_rfl, ?_⟩) (by assumption) ?_
    rotate_left
    · intro w' hSw
      have y0 := C0 _ hSw
      have y1 := C1 _ hSw
      have y2 := C2 _ hSw
      have y3 := C3 _ hSw
      have y4 := C4 _ hSw
      have y5 := C5 _ hSw
      have y6 := C6 _ hSw
      have y7 := C7 _ hSw
      have y8 := C8 _ hSw
      have y9 := C9 _ hSw
      have y10 := C10 _ hSw
      have y11 := C11 _ hSw
      go_simp
      try (with_reducible rfl)
    simp only [Act.put, List.getElem_toArray, List.getElem_cons_succ, List.getElem_cons_zero, List.setIfInBounds_toArray, List.set_cons_zero, List.set_cons_succ]
    refine wpAnyH_take (i := 4) (v := ?_) rfl (by kernel_rfl) (by kernel_rfl) (by kernel_rfl) (fun _ _ _ h => h) (Or.inl ⟨by kernel_rfl, ?_⟩) (by assumption) ?_
    rotate_left
    · intro w' hSw
      have y0 := C0 _ hSw
      have y1 := C1 _ hSw
      have y2 := C2 _ hSw
      have y3 := C3 _ hSw
      have y4 := C4 _ hSw
      have y5 := C5 _ hSw
      have y6 := C6 _ hSw
      have y7 := C7 _ hSw
      have y8 := C8 _ hSw
      have y9 := C9 _ hSw
      have y10 := C10 _ hSw
      have y11 := C11 _ hSw
      go_simp
      try (with_reducible rfl)
    simp only [Act.put, List.getElem_toArray, List.getElem_cons_succ, List.getElem_cons_zero, List.setIfInBounds_toArray, List.set_cons_zero, List.set_cons_succ]
    refine wpAnyH_take (i := 5) (v := ?_) rfl (by kernel_rfl) (by kernel_rfl) (by kernel_rfl) (fun _ _ _ h => h) (Or.inl ⟨by kernel_rfl, ?_⟩) (by assumption) ?_
    rotate_left
    · intro w' hSw
      have y0 := C0 _ hSw
      have y1 := C1 _ hSw
      have y2 := C2 _ hSw
      have y3 := C3 _ hSw
      have y4 := C4 _ hSw
      have y5 := C5 _ hSw
      have y6 := C6 _ hSw
      have y7 := C7 _ hSw
      have y8 := C8 _ hSw
      have y9 := C9 _ hSw
      have y10 := C10 _ hSw
      have y11 := C11 _ hSw
      go_simp
      try (with_reducible rfl)
    simp only [Act.put, List.getElem_toArray, List.getElem_cons_succ, List.getElem_cons_zero, List.setIfInBounds_toArray, List.set_cons_zero, List.set_cons_succ]
    refine wpAnyH_take (i := 6) (v := .bool true) rfl (by kernel_rfl) (by kernel_rfl) (by kernel_rfl) (fun _ _ _ h => h) (Or.inl ⟨by kernel_rfl, ?_⟩) (by assumption) ?_
    · intro w' hSw
      have y0 := C0 _ hSw
      have y1 := C1 _ hSw
      have y2 := C2 _ hSw
      have y3 := C3 _ hSw
      have y4 := C4 _ hSw
      have y5 := C5 _ hSw
      have y6 := C6 _ hSw
      have y7 := C7 _ hSw
      have y8 := C8 _ hSw
      have y9 := C9 _ hSw
      have y10 := C10 _ hSw
      have y11 := C11 _ hSw
      go_simp
      try (with_reducible rfl)
    simp only [Act.put, List.getElem_toArray, List.getElem_cons_succ, List.getElem_cons_zero, List.setIfInBounds_toArray, List.set_cons_zero, List.set_cons_succ]
    refine wpAnyH_take (i := 7) (v := .bool true) rfl (by kernel_rfl) (by kernel_rfl) (by kernel_rfl) (fun _ _ _ h => h) (Or.inl ⟨by kernel_rfl, ?_⟩) (by assumption) ?_
    · intro w' hSw
      have y0 := C0 _ hSw
      have y1 := C1 _ hSw
      have y2 := C2 _ hSw
      have y3 := C3 _ hSw
      have y4 := C4 _ hSw
      have y5 := C5 _ hSw
      have y6 := C6 _ hSw
      have y7 := C7 _ hSw
      have y8 := C8 _ hSw
      have y9 := C9 _ hSw
      have y10 := C10 _ hSw
      have y11 := C11 _ hSw
      go_simp
      try (with_reducible rfl)
    simp only [Act.put, List.getElem_toArray, List.getElem_cons_succ, List.getElem_cons_zero, List.setIfInBounds_toArray, List.set_cons_zero, List.set_cons_succ]
    refine wpAnyH_take (i := 8) (v := ?_) rfl (by kernel_rfl) (by kernel_rfl) (by kernel_rfl) (fun _ _ _ h => h) (Or.inl ⟨by kernel_rfl, ?_⟩) (by assumption) ?_
    rotate_left
    · intro w' hSw
      have y0 := C0 _ hSw
      have y1 := C1 _ hSw
      have y2 := C2 _ hSw
      have y3 := C3 _ hSw
      have y4 := C4 _ hSw
      have y5 := C5 _ hSw
      have y6 := C6 _ hSw
      have y7 := C7 _ hSw
      have y8 := C8 _ hSw
      have y9 := C9 _ hSw
      have y10 := C10 _ hSw
      have y11 := C11 _ hSw
      go_simp
      try (with_reducible rfl)
    simp only [Act.put, List.getElem_toArray, List.getElem_cons_succ, List.getElem_cons_zero, List.setIfInBounds_toArray, List.set_cons_zero, List.set_cons_succ]
    refine wpAnyH_take (i := 9) (v := ?_) rfl (by kernel_rfl) (by kernel_rfl) (by kernel_rfl) (fun _ _ _ h => h) (Or.inl ⟨by kernel_rfl, ?_⟩) (by assumption) ?_
    rotate_left
    · intro w' hSw
      have y0 := C0 _ hSw
      have y1 := C1 _ hSw
      have y2 := C2 _ hSw
      have y3 := C3 _ hSw
      have y4 := C4 _ hSw
      have y5 := C5 _ hSw
      have y6 := C6 _ hSw
      have y7 := C7 _ hSw
      have y8 := C8 _ hSw
      have y9 := C9 _ hSw
      have y10 := C10 _ hSw
      have y11 := C11 _ hSw
      go_simp
      try (with_reducible rfl)
    simp only [Act.put, List.getElem_toArray, List.getElem_cons_succ, List.getElem_cons_zero, List.setIfInBounds_toArray, List.set_cons_zero, List.set_cons_succ]
    refine wpAnyH_take (i := 11) (v := ?_) rfl (by kernel_rfl) (by kernel_rfl) (by kernel_rfl) (fun _ _ _ h => h) (Or.inl ⟨by kernel_rfl, ?_⟩) (by assumption) ?_
    rotate_left
    · intro w' hSw
      have y0 := C0 _ hSw
      have y1 := C1 _ hSw
      have y2 := C2 _ hSw
      have y3 := C3 _ hSw
      have y4 := C4 _ hSw
      have y5 := C5 _ hSw
      have y6 := C6 _ hSw
      have y7 := C7 _ hSw
      have y8 := C8 _ hSw
      have y9 := C9 _ hSw
      have y10 := C10 _ hSw
      have y11 := C11 _ hSw
      go_simp
      try (with_reducible rfl)
    simp only [Act.put, List.getElem_toArray, List.getElem_cons_succ, List.getElem_cons_zero, List.setIfInBounds_toArray, List.set_cons_zero, List.set_cons_succ]
    refine wpAnyH_take (i := 12) (v := ?_) rfl (by kernel_rfl) (by kernel_rfl) (by kernel_rfl) (fun _ _ _ h => h) (Or.inl ⟨by kernel_rfl, ?_⟩) (by assumption) ?_
    rotate_left
    · intro w' hSw
      have y0 := C0 _ hSw
      have y1 := C1 _ hSw
      have y2 := C2 _ hSw
      have y3 := C3 _ hSw
      have y4 := C4 _ hSw
      have y5 := C5 _ hSw
      have y6 := C6 _ hSw
      have y7 := C7 _ hSw
      have y8 := C8 _ hSw
      have y9 := C9 _ hSw
      have y10 := C10 _ hSw
      have y11 := C11 _ hSw
      go_simp
      try (with_reducible rfl)
    simp only [Act.put, List.getElem_toArray, List.getElem_cons_succ, List.getElem_cons_zero, List.setIfInBounds_toArray, List.set_cons_zero, List.set_cons_succ]
    refine wpAnyH_ready (rs := [10]) (by kernel_rfl) (by simp) ?_
    refine AllReadyH.cons rfl (fun K hK => ?_) AllReadyH.nil
    go_simp
    refine (placeOf_any h r s has bl f _).mono ?_
    rintro e w3 ⟨rfl, b3⟩
    have hNext3 : Below w1.heap.size w1 w3 := Below.trans bw0 (b3.mono (Below.size bw0))
    refine hK.out _ _ hNext3 (fun _ => ?_)
    clear hK K
    try simp only [Act.put, List.getElem_toArray, List.getElem_cons_succ, List.getElem_cons_zero, List.setIfInBounds_toArray, List.set_cons_zero, List.set_cons_succ]
    refine wpAnyH_ready (rs := [13]) (by kernel_rfl) (by simp) ?_
    refine AllReadyH.cons rfl (fun K hK => ?_) AllReadyH.nil
    go_simp
    refine (placeOf_any h r2 s2 has2 bl2 f2 _).mono ?_
    rintro e w4 ⟨rfl, b4⟩
    have hNext4 : Below w1.heap.size w1 w4 := Below.trans hNext3 (b4.mono (Below.size hNext3))
    refine hK.out _ _ hNext4 (fun _ => ?_)
    clear hK K
    try simp only [Act.put, List.getElem_toArray, List.getElem_cons_succ, List.getElem_cons_zero, List.setIfInBounds_toArray, List.set_cons_zero, List.set_cons_succ]
    refine wpAnyH_take (i := 14) (v := .bool false) rfl (by kernel_rfl) (by kernel_rfl) (by kernel_rfl) (fun _ _ _ h => h) (Or.inl ⟨by kernel_rfl, ?_⟩) (by assumption) ?_
    · intro w' hSw
      have y0 := C0 _ hSw
      have y1 := C1 _ hSw
      have y2 := C2 _ hSw
      have y3 := C3 _ hSw
      have y4 := C4 _ hSw
      have y5 := C5 _ hSw
      have y6 := C6 _ hSw
      have y7 := C7 _ hSw
      have y8 := C8 _ hSw
      have y9 := C9 _ hSw
      have y10 := C10 _ hSw
      have y11 := C11 _ hSw
      go_simp
      try (with_reducible rfl)
    simp only [Act.put, List.getElem_toArray, List.getElem_cons_succ, List.getElem_cons_zero, List.setIfInBounds_toArray, List.set_cons_zero, List.set_cons_succ]
    refine wpAnyH_take (i := 15) (v := .bool false) rfl (by kernel_rfl) (by kernel_rfl) (by kernel_rfl) (fun _ _ _ h => h) (Or.inl ⟨by kernel_rfl, ?_⟩) (by assumption) ?_
    · intro w' hSw
      have y0 := C0 _ hSw
      have y1 := C1 _ hSw
      have y2 := C2 _ hSw
      have y3 := C3 _ hSw
      have y4 := C4 _ hSw
      have y5 := C5 _ hSw
      have y6 := C6 _ hSw
      have y7 := C7 _ hSw
      have y8 := C8 _ hSw
      have y9 := C9 _ hSw
      have y10 := C10 _ hSw
      have y11 := C11 _ hSw
      go_simp
      try (with_reducible rfl)
    simp only [Act.put, List.getElem_toArray, List.getElem_cons_succ, List.getElem_cons_zero, List.setIfInBounds_toArray, List.set_cons_zero, List.set_cons_succ]
    refine wpAnyH_take (i := 16) (v := .bool false) rfl (by kernel_rfl) (by kernel_rfl) (by kernel_rfl) (fun _ _ _ h => h) (Or.inl ⟨by kernel_rfl, ?_⟩) (by assumption) ?_
    · intro w' hSw
      have y0 := C0 _ hSw
      have y1 := C1 _ hSw
      have y2 := C2 _ hSw
      have y3 := C3 _ hSw
      have y4 := C4 _ hSw
      have y5 := C5 _ hSw
      have y6 := C6 _ hSw
      have y7 := C7 _ hSw
      have y8 := C8 _ hSw
      have y9 := C9 _ hSw
      have y10 := C10 _ hSw
      have y11 := C11 _ hSw
      go_simp
      try (with_reducible rfl)
    simp only [Act.put, List.getElem_toArray, List.getElem_cons_succ, List.getElem_cons_zero, List.setIfInBounds_toArray, List.set_cons_zero, List.set_cons_succ]
    refine wpAnyH_take (i := 17) (v := undef) rfl (by kernel_rfl) (by kernel_rfl) (by kernel_rfl) (fun _ _ _ h => h) (Or.inr ⟨by kernel_rfl, rfl⟩) (by assumption) ?_
    simp only [Act.put, List.getElem_toArray, List.getElem_cons_succ, List.getElem_cons_zero, List.setIfInBounds_toArray, List.set_cons_zero, List.set_cons_succ]
    refine wpAnyH_take (i := 18) (v := undef) rfl (by kernel_rfl) (by kernel_rfl) (by kernel_rfl) (fun _ _ _ h => h) (Or.inr ⟨by kernel_rfl, rfl⟩) (by assumption) ?_
    simp only [Act.put, List.getElem_toArray, List.getElem_cons_succ, List.getElem_cons_zero, List.setIfInBounds_toArray, List.set_cons_zero, List.set_cons_succ]
    refine wpAnyH_take (i := 19) (v := undef) rfl (by kernel_rfl) (by kernel_rfl) (by kernel_rfl) (fun _ _ _ h => h) (Or.inr ⟨by kernel_rfl, rfl⟩) (by assumption) ?_
    simp only [Act.put, List.getElem_toArray, List.getElem_cons_succ, List.getElem_cons_zero, List.setIfInBounds_toArray, List.set_cons_zero, List.set_cons_succ]
    refine wpAnyH_take (i := 20) (v := undef) rfl (by kernel_rfl) (by kernel_rfl) (by kernel_rfl) (fun _ _ _ h => h) (Or.inr ⟨by kernel_rfl, rfl⟩) (by assumption) ?_
    simp only [Act.put, List.getElem_toArray, List.getElem_cons_succ, List.getElem_cons_zero, List.setIfInBounds_toArray, List.set_cons_zero, List.set_cons_succ]
    refine wpAnyH_take (i := 21) (v := undef) rfl (by kernel_rfl) (by kernel_rfl) (by kernel_rfl) (fun _ _ _ h => h) (Or.inr ⟨by kernel_rfl, rfl⟩) (by assumption) ?_
    simp only [Act.put, List.getElem_toArray, List.getElem_cons_succ, List.getElem_cons_zero, List.setIfInBounds_toArray, List.set_cons_zero, List.set_cons_succ]
    refine wpAnyH_take (i := 22) (v := .bool false) rfl (by kernel_rfl) (by kernel_rfl) (by kernel_rfl) (fun _ _ _ h => h) (Or.inl ⟨by kernel_rfl, ?_⟩) (by assumption) ?_
    · intro w' hSw
      have y0 := C0 _ hSw
      have y1 := C1 _ hSw
      have y2 := C2 _ hSw
      have y3 := C3 _ hSw
      have y4 := C4 _ hSw
      have y5 := C5 _ hSw
      have y6 := C6 _ hSw
      have y7 := C7 _ hSw
      have y8 := C8 _ hSw
      have y9 := C9 _ hSw
      have y10 := C10 _ hSw
      have y11 := C11 _ hSw
      go_simp
      try (with_reducible rfl)
    simp only [Act.put, List.getElem_toArray, List.getElem_cons_succ, List.getElem_cons_zero, List.setIfInBounds_toArray, List.set_cons_zero, List.set_cons_succ]
    refine wpAnyH_ready (rs := [23]) (by kernel_rfl) (by simp) ?_
    refine AllReadyH.cons rfl (fun K hK => ?_) AllReadyH.nil
    go_simp
    refine hK.out _ _ (by assumption) (fun _ => ?_)
    clear hK K
    try simp only [Act.put, List.getElem_toArray, List.getElem_cons_succ, List.getElem_cons_zero, List.setIfInBounds_toArray, List.set_cons_zero, List.set_cons_succ]
    refine wpAnyH_done (by kernel_rfl) ?_ _
    go_wp2
    go_ret
    exact ⟨by rw [HF.out]; rfl, B1.trans (hNext4.mono B1.size)⟩
  subst hr
  by_cases hs : s = s2
  rotate_left
  · have HF : Hid (P = false) := by show _ = _; rw [← HP.out]; exact decide_eq_false fun g => hs g.2.2.1.2.1
    have hd : (s == s2) = false := by simpa using hs
    clear HP hs
    go_upto_region 4 with fail
    have bw0 : Below w1.heap.size w1 w1.drew := bw.drew
    refine wp_region_held (S := fun w' => Below w1.heap.size w1 w') (by kernel_rfl) ?_
    refine wpAnyH_take (i := 0) (v := ?_) rfl (by kernel_rfl) (by kernel_rfl) (by kernel_rfl) (fun _ _ _ h => h) (Or.inl ⟨by kernel_rfl, ?_⟩) (by assumption) ?_
    rotate_left
    · intro w' hSw
      have y0 := C0 _ hSw
      have y1 := C1 _ hSw
      have y2 := C2 _ hSw
      have y3 := C3 _ hSw
      have y4 := C4 _ hSw
      have y5 := C5 _ hSw
      have y6 := C6 _ hSw
      have y7 := C7 _ hSw
      have y8 := C8 _ hSw
      have y9 := C9 _ hSw
      have y10 := C10 _ hSw
      have y11 := C11 _ hSw
      go_simp
      try (with_reducible rfl)
    simp only [Act.put, List.getElem_toArray, List.getElem_cons_succ, List.getElem_cons_zero, List.setIfInBounds_toArray, List.set_cons_zero, List.set_cons_succ]
    refine wpAnyH_take (i := 1) (v := ?_) rfl (by kernel_rfl) (by kernel_rfl) (by kernel_rfl) (fun _ _ _ h => h) (Or.inl ⟨by kernel_rfl, ?_⟩) (by assumption) ?_
    rotate_left
    · intro w' hSw
      have y0 := C0 _ hSw
      have y1 := C1 _ hSw
      have y2 := C2 _ hSw
      have y3 := C3 _ hSw
      have y4 := C4 _ hSw
      have y5 := C5 _ hSw
      have y6 := C6 _ hSw
      have y7 := C7 _ hSw
      have y8 := C8 _ hSw
      have y9 := C9 _ hSw
      have y10 := C10 _ hSw
      have y11 := C11 _ hSw
      go_simp
      try (with_reducible rfl)
    simp only [Act.put, List.getElem_toArray, List.getElem_cons_succ, List.getElem_cons_zero, List.setIfInBounds_toArray, List.set_cons_zero, List.set_cons_succ]
    refine wpAnyH_take (i := 2) (v := ?_) rfl (by kernel_rfl) (by kernel_rfl) (by kernel_rfl) (fun _ _ _ h => h) (Or.inl ⟨by kernel_rfl, ?_⟩) (by assumption) ?_
    rotate_left
    · intro w' hSw
      have y0 := C0 _ hSw
      have y1 := C1 _ hSw
      have y2 := C2 _ hSw
      have y3 := C3 _ hSw
      have y4 := C4 _ hSw
      have y5 := C5 _ hSw
      have y6 := C6 _ hSw
      have y7 := C7 _ hSw
      have y8 := C8 _ hSw
      have y9 := C9 _ hSw
      have y10 := C10 _ hSw
      have y11 := C11 _ hSw
      go_simp
      try (with_reducible rfl)
    simp only [Act.put, List.getElem_toArray, List.getElem_cons_succ, List.getElem_cons_zero, List.setIfInBounds_toArray, List.set_cons_zero, List.set_cons_succ]
    refine wpAnyH_take (i := 3) (v := ?_) rfl (by kernel_rfl) (by kernel_rfl) (by kernel_rfl) (fun _ _ _ h => h) (Or.inl ⟨by kernel_rfl, ?_⟩) (by assumption) ?_
    rotate_left
    · intro w' hSw
      have y0 := C0 _ hSw
      have y1 := C1 _ hSw
      have y2 := C2 _ hSw
      have y3 := C3 _ hSw
      have y4 := C4 _ hSw
      have y5 := C5 _ hSw
      have y6 := C6 _ hSw
      have y7 := C7 _ hSw
      have y8 := C8 _ hSw
      have y9 := C9 _ hSw
      have y10 := C10 _ hSw
      have y11 := C11 _ hSw
      go_simp
      try (with_reducible rfl)
    simp only [Act.put, List.getElem_toArray, List.getElem_cons_succ, List.getElem_cons_zero, List.setIfInBounds_toArray, List.set_cons_zero, List.set_cons_succ]
    refine wpAnyH_take (i := 4) (v := ?_) rfl (by kernel_rfl) (by kernel_rfl) (by kernel_rfl) (fun _ _ _ h => h) (Or.inl ⟨by kernel_rfl, ?_⟩) (by assumption) ?_
    rotate_left
    · intro w' hSw
      have y0 := C0 _ hSw
      have y1 := C1 _ hSw
      have y2 := C2 _ hSw
      have y3 := C3 _ hSw
      have y4 := C4 _ hSw
      have y5 := C5 _ hSw
      have y6 := C6 _ hSw
      have y7 := C7 _ hSw
      have y8 := C8 _ hSw
      have y9 := C9 _ hSw
      have y10 := C10 _ hSw
      have y11 := C11 _ hSw
      go_simp
      try (with_reducible rfl)
    simp only [Act.put, List.getElem_toArray, List.getElem_cons_succ, List.getElem_cons_zero, List.setIfInBounds_toArray, List.set_cons_zero, List.set_cons_succ]
    refine wpAnyH_take (i := 5) (v := ?_) rfl (by kernel_rfl) (by kernel_rfl) (by kernel_rfl) (fun _ _ _ h => h) (Or.inl ⟨by kernel_rfl, ?_⟩) (by assumption) ?_
    rotate_left
    · intro w' hSw
      have y0 := C0 _ hSw
      have y1 := C1 _ hSw
      have y2 := C2 _ hSw
      have y3 := C3 _ hSw
      have y4 := C4 _ hSw
      have y5 := C5 _ hSw
      have y6 := C6 _ hSw
      have y7 := C7 _ hSw
      have y8 := C8 _ hSw
      have y9 := C9 _ hSw
      have y10 := C10 _ hSw
      have y11 := C11 _ hSw
      go_simp
      try (with_reducible rfl)
    simp only [Act.put, List.getElem_toArray, List.getElem_cons_succ, List.getElem_cons_zero, List.setIfInBounds_toArray, List.set_cons_zero, List.set_cons_succ]
    refine wpAnyH_take (i := 6) (v := .bool true) rfl (by kernel_rfl) (by kernel_rfl) (by kernel_rfl) (fun _ _ _ h => h) (Or.inl ⟨by kernel_rfl, ?_⟩) (by assumption) ?_
    · intro w' hSw
      have y0 := C0 _ hSw
      have y1 := C1 _ hSw
      have y2 := C2 _ hSw
      have y3 := C3 _ hSw
      have y4 := C4 _ hSw
      have y5 := C5 _ hSw
      have y6 := C6 _ hSw
      have y7 := C7 _ hSw
      have y8 := C8 _ hSw
      have y9 := C9 _ hSw
      have y10 := C10 _ hSw
      have y11 := C11 _ hSw
      go_simp
      try (with_reducible rfl)
    simp only [Act.put, List.getElem_toArray, List.getElem_cons_succ, List.getElem_cons_zero, List.setIfInBounds_toArray, List.set_cons_zero, List.set_cons_succ]
    refine wpAnyH_take (i := 7) (v := .bool true) rfl (by kernel_rfl) (by kernel_rfl) (by kernel_rfl) (fun _ _ _ h => h) (Or.inl ⟨by kernel_rfl, ?_⟩) (by assumption) ?_
    · intro w' hSw
      have y0 := C0 _ hSw
      have y1 := C1 _ hSw
      have y2 := C2 _ hSw
      have y3 := C3 _ hSw
      have y4 := C4 _ hSw
      have y5 := C5 _ hSw
      have y6 := C6 _ hSw
      have y7 := C7 _ hSw
      have y8 := C8 _ hSw
      have y9 := C9 _ hSw
      have y10 := C10 _ hSw
      have y11 := C11 _ hSw
      go_simp
      try (with_reducible rfl)
    simp only [Act.put, List.getElem_toArray, List.getElem_cons_succ, List.getElem_cons_zero, List.setIfInBounds_toArray, List.set_cons_zero, List.set_cons_succ]
    refine wpAnyH_take (i := 8) (v := ?_) rfl (by kernel_rfl) (by kernel_rfl) (by kernel_rfl) (fun _ _ _ h => h) (Or.inl ⟨by kernel_rfl, ?_⟩) (by assumption) ?_
    rotate_left
    · intro w' hSw
      have y0 := C0 _ hSw
      have y1 := C1 _ hSw
      have y2 := C2 _ hSw
      have y3 := C3 _ hSw
      have y4 := C4 _ hSw
      have y5 := C5 _ hSw
      have y6 := C6 _ hSw
      have y7 := C7 _ hSw
      have y8 := C8 _ hSw
      have y9 := C9 _ hSw
      have y10 := C10 _ hSw
      have y11 := C11 _ hSw
      go_simp
      try (with_reducible rfl)
    simp only [Act.put, List.getElem_toArray, List.getElem_cons_succ, List.getElem_cons_zero, List.setIfInBounds_toArray, List.set_cons_zero, List.set_cons_succ]
    refine wpAnyH_take (i := 9) (v := ?_) rfl (by kernel_rfl) (by kernel_rfl) (by kernel_rfl) (fun _ _ _ h => h) (Or.inl ⟨by kernel_rfl, ?_⟩) (by assumption) ?_
    rotate_left
    · intro w' hSw
      have y0 := C0 _ hSw
      have y1 := C1 _ hSw
      have y2 := C2 _ hSw
      have y3 := C3 _ hSw
      have y4 := C4 _ hSw
      have y5 := C5 _ hSw
      have y6 := C6 _ hSw
      have y7 := C7 _ hSw
      have y8 := C8 _ hSw
      have y9 := C9 _ hSw
      have y10 := C10 _ hSw
      have y11 := C11 _ hSw
      go_simp
      try (with_reducible rfl)
    simp only [Act.put, List.getElem_toArray, List.getElem_cons_succ, List.getElem_cons_zero, List.setIfInBounds_toArray, List.set_cons_zero, List.set_cons_succ]
    refine wpAnyH_take (i := 11) (v := ?_) rfl (by kernel_rfl) (by kernel_rfl) (by kernel_rfl) (fun _ _ _ h => h) (Or.inl ⟨by kernel_rfl, ?_⟩) (by assumption) ?_
    rotate_left
    · intro w' hSw
      have y0 := C0 _ hSw
      have y1 := C1 _ hSw
      have y2 := C2 _ hSw
      have y3 := C3 _ hSw
      have y4 := C4 _ hSw
      have y5 := C5 _ hSw
      have y6 := C6 _ hSw
      have y7 := C7 _ hSw
      have y8 := C8 _ hSw
      have y9 := C9 _ hSw
      have y10 := C10 _ hSw
      have y11 := C11 _ hSw
      go_simp
      try (with_reducible rfl)
    simp only [Act.put, List.getElem_toArray, List.getElem_cons_succ, List.getElem_cons_zero, List.setIfInBounds_toArray, List.set_cons_zero, List.set_cons_succ]
    refine wpAnyH_take (i := 12) (v := ?_) rfl (by kernel_rfl) (by kernel_rfl) (by kernel_rfl) (fun _ _ _ h => h) (Or.inl ⟨by kernel_rfl, ?_⟩) (by assumption) ?_
    rotate_left
    · intro w' hSw
      have y0 := C0 _ hSw
      have y1 := C1 _ hSw
      have y2 := C2 _ hSw
      have y3 := C3 _ hSw
      have y4 := C4 _ hSw
      have y5 := C5 _ hSw
      have y6 := C6 _ hSw
      have y7 := C7 _ hSw
      have y8 := C8 _ hSw
      have y9 := C9 _ hSw
      have y10 := C10 _ hSw
      have y11 := C11 _ hSw
      go_simp
      try (with_reducible rfl)
    simp only [Act.put, List.getElem_toArray, List.getElem_cons_succ, List.getElem_cons_zero, List.setIfInBounds_toArray, List.set_cons_zero, List.set_cons_succ]
    refine wpAnyH_ready (rs := [10]) (by kernel_rfl) (by simp) ?_
    refine AllReadyH.cons rfl (fun K hK => ?_) AllReadyH.nil
    go_simp
    refine (placeOf_any h r s has bl f _).mono ?_
    rintro e w3 ⟨rfl, b3⟩
    have hNext3 : Below w1.heap.size w1 w3 := Below.trans bw0 (b3.mono (Below.size bw0))
    refine hK.out _ _ hNext3 (fun _ => ?_)
    clear hK K
    try simp only [Act.put, List.getElem_toArray, List.getElem_cons_succ, List.getElem_cons_zero, List.setIfInBounds_toArray, List.set_cons_zero, List.set_cons_succ]
    refine wpAnyH_ready (rs := [13]) (by kernel_rfl) (by simp) ?_
    refine AllReadyH.cons rfl (fun K hK => ?_) AllReadyH.nil
    go_simp
    refine (placeOf_any h r s2 has2 bl2 f2 _).mono ?_
    rintro e w4 ⟨rfl, b4⟩
    have hNext4 : Below w1.heap.size w1 w4 := Below.trans hNext3 (b4.mono (Below.size hNext3))
    refine hK.out _ _ hNext4 (fun _ => ?_)
    clear hK K
    try simp only [Act.put, List.getElem_toArray, List.getElem_cons_succ, List.getElem_cons_zero, List.setIfInBounds_toArray, List.set_cons_zero, List.set_cons_succ]
    refine wpAnyH_take (i := 14) (v := .bool false) rfl (by kernel_rfl) (by kernel_rfl) (by kernel_rfl) (fun _ _ _ h => h) (Or.inl ⟨by kernel_rfl, ?_⟩) (by assumption) ?_
    · intro w' hSw
      have y0 := C0 _ hSw
      have y1 := C1 _ hSw
      have y2 := C2 _ hSw
      have y3 := C3 _ hSw
      have y4 := C4 _ hSw
      have y5 := C5 _ hSw
      have y6 := C6 _ hSw
      have y7 := C7 _ hSw
      have y8 := C8 _ hSw
      have y9 := C9 _ hSw
      have y10 := C10 _ hSw
      have y11 := C11 _ hSw
      go_simp
      try (with_reducible rfl)
    simp only [Act.put, List.getElem_toArray, List.getElem_cons_succ, List.getElem_cons_zero, List.setIfInBounds_toArray, List.set_cons_zero, List.set_cons_succ]
    refine wpAnyH_take (i := 15) (v := .bool false) rfl (by kernel_rfl) (by kernel_rfl) (by kernel_rfl) (fun _ _ _ h => h) (Or.inl ⟨by kernel_rfl, ?_⟩) (by assumption) ?_
    · intro w' hSw
      have y0 := C0 _ hSw
      have y1 := C1 _ hSw
      have y2 := C2 _ hSw
      have y3 := C3 _ hSw
      have y4 := C4 _ hSw
      have y5 := C5 _ hSw
      have y6 := C6 _ hSw
      have y7 := C7 _ hSw
      have y8 := C8 _ hSw
      have y9 := C9 _ hSw
      have y10 := C10 _ hSw
      have y11 := C11 _ hSw
      go_simp
      try (with_reducible rfl)
    simp only [Act.put, List.getElem_toArray, List.getElem_cons_succ, List.getElem_cons_zero, List.setIfInBounds_toArray, List.set_cons_zero, List.set_cons_succ]
    refine wpAnyH_take (i := 16) (v := .bool false) rfl (by kernel_rfl) (by kernel_rfl) (by kernel_rfl) (fun _ _ _ h => h) (Or.inl ⟨by kernel_rfl, ?_⟩) (by assumption) ?_
    · intro w' hSw
      have y0 := C0 _ hSw
      have y1 := C1 _ hSw
      have y2 := C2 _ hSw
      have y3 := C3 _ hSw
      have y4 := C4 _ hSw
      have y5 := C5 _ hSw
      have y6 := C6 _ hSw
      have y7 := C7 _ hSw
      have y8 := C8 _ hSw
      have y9 := C9 _ hSw
      have y10 := C10 _ hSw
      have y11 := C11 _ hSw
      go_simp
      try (with_reducible rfl)
    simp only [Act.put, List.getElem_toArray, List.getElem_cons_succ, List.getElem_cons_zero, List.setIfInBounds_toArray, List.set_cons_zero, List.set_cons_succ]
    refine wpAnyH_take (i := 17) (v := undef) rfl (by kernel_rfl) (by kernel_rfl) (by kernel_rfl) (fun _ _ _ h => h) (Or.inr ⟨by kernel_rfl, rfl⟩) (by assumption) ?_
    simp only [Act.put, List.getElem_toArray, List.getElem_cons_succ, List.getElem_cons_zero, List.setIfInBounds_toArray, List.set_cons_zero, List.set_cons_succ]
    refine wpAnyH_take (i := 18) (v := undef) rfl (by kernel_rfl) (by kernel_rfl) (by kernel_rfl) (fun _ _ _ h => h) (Or.inr ⟨by kernel_rfl, rfl⟩) (by assumption) ?_
    simp only [Act.put, List.getElem_toArray, List.getElem_cons_succ, List.getElem_cons_zero, List.setIfInBounds_toArray, List.set_cons_zero, List.set_cons_succ]
    refine wpAnyH_take (i := 19) (v := undef) rfl (by kernel_rfl) (by kernel_rfl) (by kernel_rfl) (fun _ _ _ h => h) (Or.inr ⟨by kernel_rfl, rfl⟩) (by assumption) ?_
    simp only [Act.put, List.getElem_toArray, List.getElem_cons_succ, List.getElem_cons_zero, List.setIfInBounds_toArray, List.set_cons_zero, List.set_cons_succ]
    refine wpAnyH_take (i := 20) (v := undef) rfl (by kernel_rfl) (by kernel_rfl) (by kernel_rfl) (fun _ _ _ h => h) (Or.inr ⟨by kernel_rfl, rfl⟩) (by assumption) ?_
    simp only [Act.put, List.getElem_toArray, List.getElem_cons_succ, List.getElem_cons_zero, List.setIfInBounds_toArray, List.set_cons_zero, List.set_cons_succ]
    refine wpAnyH_take (i := 21) (v := undef) rfl (by kernel_rfl) (by kernel_rfl) (by kernel_rfl) (fun _ _ _ h => h) (Or.inr ⟨by kernel_rfl, rfl⟩) (by assumption) ?_
    simp only [Act.put, List.getElem_toArray, List.getElem_cons_succ, List.getElem_cons_zero, List.setIfInBounds_toArray, List.set_cons_zero, List.set_cons_succ]
    refine wpAnyH_take (i := 22) (v := .bool false) rfl (by kernel_rfl) (by kernel_rfl) (by kernel_rfl) (fun _ _ _ h => h) (Or.inl ⟨by kernel_rfl, ?_⟩) (by assumption) ?_
    · intro w' hSw
      have y0 := C0 _ hSw
      have y1 := C1 _ hSw
      have y2 := C2 _ hSw
      have y3 := C3 _ hSw
      have y4 := C4 _ hSw
      have y5 := C5 _ hSw
      have y6 := C6 _ hSw
      have y7 := C7 _ hSw
      have y8 := C8 _ hSw
      have y9 := C9 _ hSw
      have y10 := C10 _ hSw
      have y11 := C11 _ hSw
      go_simp
      try (with_reducible rfl)
    simp only [Act.put, List.getElem_toArray, List.getElem_cons_succ, List.getElem_cons_zero, List.setIfInBounds_toArray, List.set_cons_zero, List.set_cons_succ]
    refine wpAnyH_ready (rs := [23]) (by kernel_rfl) (by simp) ?_
    refine AllReadyH.cons rfl (fun K hK => ?_) AllReadyH.nil
    go_simp
    refine hK.out _ _ (by assumption) (fun _ => ?_)
    clear hK K
    try simp only [Act.put, List.getElem_toArray, List.getElem_cons_succ, List.getElem_cons_zero, List.setIfInBounds_toArray, List.set_cons_zero, List.set_cons_succ]
    refine wpAnyH_done (by kernel_rfl) ?_ _
    go_wp2
    go_ret
    exact ⟨by rw [HF.out]; rfl, B1.trans (hNext4.mono B1.size)⟩
  subst hs
  by_cases hf : f = f2
  rotate_left
  · have HF : Hid (P = false) := by show _ = _; rw [← HP.out]; exact decide_eq_false fun g => hf g.2.2.1.2.2
    have hd : (f == f2) = false := by simpa using hf
    clear HP hf
    go_upto_region 4 with fail
    have bw0 : Below w1.heap.size w1 w1.drew := bw.drew
    refine wp_region_held (S := fun w' => Below w1.heap.size w1 w') (by kernel_rfl) ?_
    refine wpAnyH_take (i := 0) (v := ?_) rfl (by kernel_rfl) (by kernel_rfl) (by kernel_rfl) (fun _ _ _ h => h) (Or.inl ⟨by kernel_rfl, ?_⟩) (by assumption) ?_
    rotate_left
    · intro w' hSw
      have y0 := C0 _ hSw
      have y1 := C1 _ hSw
      have y2 := C2 _ hSw
      have y3 := C3 _ hSw
      have y4 := C4 _ hSw
      have y5 := C5 _ hSw
      have y6 := C6 _ hSw
      have y7 := C7 _ hSw
      have y8 := C8 _ hSw
      have y9 := C9 _ hSw
      have y10 := C10 _ hSw
      have y11 := C11 _ hSw
      go_simp
      try (with_reducible rfl)
    simp only [Act.put, List.getElem_toArray, List.getElem_cons_succ, List.getElem_cons_zero, List.setIfInBounds_toArray, List.set_cons_zero, List.set_cons_succ]
    refine wpAnyH_take (i := 1) (v := ?_) rfl (by kernel_rfl) (by kernel_rfl) (by kernel_rfl) (fun _ _ _ h => h) (Or.inl ⟨by kernel_rfl, ?_⟩) (by assumption) ?_
    rotate_left
    · intro w' hSw
      have y0 := C0 _ hSw
      have y1 := C1 _ hSw
      have y2 := C2 _ hSw
      have y3 := C3 _ hSw
      have y4 := C4 _ hSw
      have y5 := C5 _ hSw
      have y6 := C6 _ hSw
      have y7 := C7 _ hSw
      have y8 := C8 _ hSw
      have y9 := C9 _ hSw
      have y10 := C10 _ hSw
      have y11 := C11 _ hSw
      go_simp
      try (with_reducible rfl)
    simp only [Act.put, List.getElem_toArray, List.getElem_cons_succ, List.getElem_cons_zero, List.setIfInBounds_toArray, List.set_cons_zero, List.set_cons_succ]
    refine wpAnyH_take (i := 2) (v := ?_) rfl (by kernel_rfl) (by kernel_rfl) (by kernel_rfl) (fun _ _ _ h => h) (Or.inl ⟨by kernel_rfl, ?_⟩) (by assumption) ?_
    rotate_left
    · intro w' hSw
      have y0 := C0 _ hSw
      have y1 := C1 _ hSw
      have y2 := C2 _ hSw
      have y3 := C3 _ hSw
      have y4 := C4 _ hSw
      have y5 := C5 _ hSw
      have y6 := C6 _ hSw
      have y7 := C7 _ hSw
      have y8 := C8 _ hSw
      have y9 := C9 _ hSw
      have y10 := C10 _ hSw
      have y11 := C11 _ hSw
      go_simp
      try (with_reducible rfl)
    simp only [Act.put, List.getElem_toArray, List.getElem_cons_succ, List.getElem_cons_zero, List.setIfInBounds_toArray, List.set_cons_zero, List.set_cons_succ]
    refine wpAnyH_take (i := 3) (v := ?_) rfl (by kernel_rfl) (by kernel_rfl) (by kernel_rfl) (fun _ _ _ h => h) (Or.inl ⟨by kernel_rfl, ?_⟩) (by assumption) ?_
    rotate_left
    · intro w' hSw
      have y0 := C0 _ hSw
      have y1 := C1 _ hSw
      have y2 := C2 _ hSw
      have y3 := C3 _ hSw
      have y4 := C4 _ hSw
      have y5 := C5 _ hSw
      have y6 := C6 _ hSw
      have y7 := C7 _ hSw
      have y8 := C8 _ hSw
      have y9 := C9 _ hSw
      have y10 := C10 _ hSw
      have y11 := C11 _ hSw
      go_simp
      try (with_reducible rfl)
    simp only [Act.put, List.getElem_toArray, List.getElem_cons_succ, List.getElem_cons_zero, List.setIfInBounds_toArray, List.set_cons_zero, List.set_cons_succ]
    refine wpAnyH_take (i := 4) (v := ?_) rfl (by kernel_rfl) (by kernel_rfl) (by kernel_rfl) (fun _ _ _ h => h) (Or.inl ⟨by kernel_rfl, ?_⟩) (by assumption) ?_
    rotate_left
    · intro w' hSw
      have y0 := C0 _ hSw
      have y1 := C1 _ hSw
      have y2 := C2 _ hSw
      have y3 := C3 _ hSw
      have y4 := C4 _ hSw
      have y5 := C5 _ hSw
      have y6 := C6 _ hSw
      have y7 := C7 _ hSw
      have y8 := C8 _ hSw
      have y9 := C9 _ hSw
      have y10 := C10 _ hSw
      have y11 := C11 _ hSw
      go_simp
      try (with_reducible rfl)
    simp only [Act.put, List.getElem_toArray, List.getElem_cons_succ, List.getElem_cons_zero, List.setIfInBounds_toArray, List.set_cons_zero, List.set_cons_succ]
    refine wpAnyH_take (i := 5) (v := ?_) rfl (by kernel_rfl) (by kernel_rfl) (by kernel_rfl) (fun _ _ _ h => h) (Or.inl ⟨by kernel_rfl, ?_⟩) (by assumption) ?_
    rotate_left
    · intro w' hSw
      have y0 := C0 _ hSw
      have y1 := C1 _ hSw
      have y2 := C2 _ hSw
      have y3 := C3 _ hSw
      have y4 := C4 _ hSw
      have y5 := C5 _ hSw
      have y6 := C6 _ hSw
      have y7 := C7 _ hSw
      have y8 := C8 _ hSw
      have y9 := C9 _ hSw
      have y10 := C10 _ hSw
      have y11 := C11 _ hSw
      go_simp
      try (with_reducible rfl)
    simp only [Act.put, List.getElem_toArray, List.getElem_cons_succ, List.getElem_cons_zero, List.setIfInBounds_toArray, List.set_cons_zero, List.set_cons_succ]
    refine wpAnyH_take (i := 6) (v := .bool true) rfl (by kernel_rfl) (by kernel_rfl) (by kernel_rfl) (fun _ _ _ h => h) (Or.inl ⟨by kernel_rfl, ?_⟩) (by assumption) ?_
    · intro w' hSw
      have y0 := C0 _ hSw
      have y1 := C1 _ hSw
      have y2 := C2 _ hSw
      have y3 := C3 _ hSw
      have y4 := C4 _ hSw
      have y5 := C5 _ hSw
      have y6 := C6 _ hSw
      have y7 := C7 _ hSw
      have y8 := C8 _ hSw
      have y9 := C9 _ hSw
      have y10 := C10 _ hSw
      have y11 := C11 _ hSw
      go_simp
      try (with_reducible rfl)
    simp only [Act.put, List.getElem_toArray, List.getElem_cons_succ, List.getElem_cons_zero, List.setIfInBounds_toArray, List.set_cons_zero, List.set_cons_succ]
    refine wpAnyH_take (i := 7) (v := .bool true) rfl (by kernel_rfl) (by kernel_rfl) (by kernel_rfl) (fun _ _ _ h => h) (Or.inl ⟨by kernel_rfl, ?_⟩) (by assumption) ?_
    · intro w' hSw
      have y0 := C0 _ hSw
      have y1 := C1 _ hSw
      have y2 := C2 _ hSw
      have y3 := C3 _ hSw
      have y4 := C4 _ hSw
      have y5 := C5 _ hSw
      have y6 := C6 _ hSw
      have y7 := C7 _ hSw
      have y8 := C8 _ hSw
      have y9 := C9 _ hSw
      have y10 := C10 _ hSw
      have y11 := C11 _ hSw
      go_simp
      try (with_reducible rfl)
    simp only [Act.put, List.getElem_toArray, List.getElem_cons_succ, List.getElem_cons_zero, List.setIfInBounds_toArray, List.set_cons_zero, List.set_cons_succ]
    refine wpAnyH_take (i := 8) (v := ?_) rfl (by kernel_rfl) (by kernel_rfl) (by kernel_rfl) (fun _ _ _ h => h) (Or.inl ⟨by kernel_rfl, ?_⟩) (by assumption) ?_
    rotate_left
    · intro w' hSw
      have y0 := C0 _ hSw
      have y1 := C1 _ hSw
      have y2 := C2 _ hSw
      have y3 := C3 _ hSw
      have y4 := C4 _ hSw
      have y5 := C5 _ hSw
      have y6 := C6 _ hSw
      have y7 := C7 _ hSw
      have y8 := C8 _ hSw
      have y9 := C9 _ hSw
      have y10 := C10 _ hSw
      have y11 := C11 _ hSw
      go_simp
      try (with_reducible rfl)
    simp only [Act.put, List.getElem_toArray, List.getElem_cons_succ, List.getElem_cons_zero, List.setIfInBounds_toArray, List.set_cons_zero, List.set_cons_succ]
    refine wpAnyH_take (i := 9) (v := ?_) rfl (by kernel_rfl) (by kernel_rfl) (by kernel_rfl) (fun _ _ _ h => h) (Or.inl ⟨by kernel_rfl, ?_⟩) (by assumption) ?_
    rotate_left
    · intro w' hSw
      have y0 := C0 _ hSw
      have y1 := C1 _ hSw
      have y2 := C2 _ hSw
      have y3 := C3 _ hSw
      have y4 := C4 _ hSw
      have y5 := C5 _ hSw
      have y6 := C6 _ hSw
      have y7 := C7 _ hSw
      have y8 := C8 _ hSw
      have y9 := C9 _ hSw
      have y10 := C10 _ hSw
      have y11 := C11 _ hSw
      go_simp
      try (with_reducible rfl)
    simp only [Act.put, List.getElem_toArray, List.getElem_cons_succ, List.getElem_cons_zero, List.setIfInBounds_toArray, List.set_cons_zero, List.set_cons_succ]
    refine wpAnyH_take (i := 11) (v := ?_) rfl (by kernel_rfl) (by kernel_rfl) (by kernel_rfl) (fun _ _ _ h => h) (Or.inl ⟨by kernel_rfl, ?_⟩) (by assumption) ?_
    rotate_left
    · intro w' hSw
      have y0 := C0 _ hSw
      have y1 := C1 _ hSw
      have y2 := C2 _ hSw
      have y3 := C3 _ hSw
      have y4 := C4 _ hSw
      have y5 := C5 _ hSw
      have y6 := C6 _ hSw
      have y7 := C7 _ hSw
      have y8 := C8 _ hSw
      have y9 := C9 _ hSw
      have y10 := C10 _ hSw
      have y11 := C11 _ hSw
      go_simp
      try (with_reducible rfl)
    simp only [Act.put, List.getElem_toArray, List.getElem_cons_succ, List.getElem_cons_zero, List.setIfInBounds_toArray, List.set_cons_zero, List.set_cons_succ]
    refine wpAnyH_take (i := 12) (v := ?_) rfl (by kernel_rfl) (by kernel_rfl) (by kernel_rfl) (fun _ _ _ h => h) (Or.inl ⟨by kernel_rfl, ?_⟩) (by assumption) ?_
    rotate_left
    · intro w' hSw
      have y0 := C0 _ hSw
      have y1 := C1 _ hSw
      have y2 := C2 _ hSw
      have y3 := C3 _ hSw
      have y4 := C4 _ hSw
      have y5 := C5 _ hSw
      have y6 := C6 _ hSw
      have y7 := C7 _ hSw
      have y8 := C8 _ hSw
      have y9 := C9 _ hSw
      have y10 := C10 _ hSw
      have y11 := C11 _ hSw
      go_simp
      try (with_reducible rfl)
    simp only [Act.put, List.getElem_toArray, List.getElem_cons_succ, List.getElem_cons_zero, List.setIfInBounds_toArray, List.set_cons_zero, List.set_cons_succ]
    refine wpAnyH_ready (rs := [10]) (by kernel_rfl) (by simp) ?_
    refine AllReadyH.cons rfl (fun K hK => ?_) AllReadyH.nil
    go_simp
    refine (placeOf_any h r s has bl f _).mono ?_
    rintro e w3 ⟨rfl, b3⟩
    have hNext3 : Below w1.heap.size w1 w3 := Below.trans bw0 (b3.mono (Below.size bw0))
    refine hK.out _ _ hNext3 (fun _ => ?_)
    clear hK K
    try simp only [Act.put, List.getElem_toArray, List.getElem_cons_succ, List.getElem_cons_zero, List.setIfInBounds_toArray, List.set_cons_zero, List.set_cons_succ]
    refine wpAnyH_ready (rs := [13]) (by kernel_rfl) (by simp) ?_
    refine AllReadyH.cons rfl (fun K hK => ?_) AllReadyH.nil
    go_simp
    refine (placeOf_any h r s has2 bl2 f2 _).mono ?_
    rintro e w4 ⟨rfl, b4⟩
    have hNext4 : Below w1.heap.size w1 w4 := Below.trans hNext3 (b4.mono (Below.size hNext3))
    refine hK.out _ _ hNext4 (fun _ => ?_)
    clear hK K
    try simp only [Act.put, List.getElem_toArray, List.getElem_cons_succ, List.getElem_cons_zero, List.setIfInBounds_toArray, List.set_cons_zero, List.set_cons_succ]
    refine wpAnyH_take (i := 14) (v := .bool false) rfl (by kernel_rfl) (by kernel_rfl) (by kernel_rfl) (fun _ _ _ h => h) (Or.inl ⟨by kernel_rfl, ?_⟩) (by assumption) ?_
    · intro w' hSw
      have y0 := C0 _ hSw
      have y1 := C1 _ hSw
      have y2 := C2 _ hSw
      have y3 := C3 _ hSw
      have y4 := C4 _ hSw
      have y5 := C5 _ hSw
      have y6 := C6 _ hSw
      have y7 := C7 _ hSw
      have y8 := C8 _ hSw
      have y9 := C9 _ hSw
      have y10 := C10 _ hSw
      have y11 := C11 _ hSw
      go_simp
      try (with_reducible rfl)
    simp only [Act.put, List.getElem_toArray, List.getElem_cons_succ, List.getElem_cons_zero, List.setIfInBounds_toArray, List.set_cons_zero, List.set_cons_succ]
    refine wpAnyH_take (i := 15) (v := .bool false) rfl (by kernel_rfl) (by kernel_rfl) (by kernel_rfl) (fun _ _ _ h => h) (Or.inl ⟨by kernel_rfl, ?_⟩) (by assumption) ?_
    · intro w' hSw
      have y0 := C0 _ hSw
      have y1 := C1 _ hSw
      have y2 := C2 _ hSw
      have y3 := C3 _ hSw
      have y4 := C4 _ hSw
      have y5 := C5 _ hSw
      have y6 := C6 _ hSw
      have y7 := C7 _ hSw
      have y8 := C8 _ hSw
      have y9 := C9 _ hSw
      have y10 := C10 _ hSw
      have y11 := C11 _ hSw
      go_simp
      try (with_reducible rfl)
    simp only [Act.put, List.getElem_toArray, List.getElem_cons_succ, List.getElem_cons_zero, List.setIfInBounds_toArray, List.set_cons_zero, List.set_cons_succ]
    refine wpAnyH_take (i := 16) (v := .bool false) rfl (by kernel_rfl) (by kernel_rfl) (by kernel_rfl) (fun _ _ _ h => h) (Or.inl ⟨by kernel_rfl, ?_⟩) (by assumption) ?_
    · intro w' hSw
      have y0 := C0 _ hSw
      have y1 := C1 _ hSw
      have y2 := C2 _ hSw
      have y3 := C3 _ hSw
      have y4 := C4 _ hSw
      have y5 := C5 _ hSw
      have y6 := C6 _ hSw
      have y7 := C7 _ hSw
      have y8 := C8 _ hSw
      have y9 := C9 _ hSw
      have y10 := C10 _ hSw
      have y11 := C11 _ hSw
      go_simp
      try (with_reducible rfl)
    simp only [Act.put, List.getElem_toArray, List.getElem_cons_succ, List.getElem_cons_zero, List.setIfInBounds_toArray, List.set_cons_zero, List.set_cons_succ]
    refine wpAnyH_take (i := 17) (v := undef) rfl (by kernel_rfl) (by kernel_rfl) (by kernel_rfl) (fun _ _ _ h => h) (Or.inr ⟨by kernel_rfl, rfl⟩) (by assumption) ?_
    simp only [Act.put, List.getElem_toArray, List.getElem_cons_succ, List.getElem_cons_zero, List.setIfInBounds_toArray, List.set_cons_zero, List.set_cons_succ]
    refine wpAnyH_take (i := 18) (v := undef) rfl (by kernel_rfl) (by kernel_rfl) (by kernel_rfl) (fun _ _ _ h => h) (Or.inr ⟨by kernel_rfl, rfl⟩) (by assumption) ?_
    simp only [Act.put, List.getElem_toArray, List.getElem_cons_succ, List.getElem_cons_zero, List.setIfInBounds_toArray, List.set_cons_zero, List.set_cons_succ]
    refine wpAnyH_take (i := 19) (v := undef) rfl (by kernel_rfl) (by kernel_rfl) (by kernel_rfl) (fun _ _ _ h => h) (Or.inr ⟨by kernel_rfl, rfl⟩) (by assumption) ?_
    simp only [Act.put, List.getElem_toArray, List.getElem_cons_succ, List.getElem_cons_zero, List.setIfInBounds_toArray, List.set_cons_zero, List.set_cons_succ]
    refine wpAnyH_take (i := 20) (v := undef) rfl (by kernel_rfl) (by kernel_rfl) (by kernel_rfl) (fun _ _ _ h => h) (Or.inr ⟨by kernel_rfl, rfl⟩) (by assumption) ?_
    simp only [Act.put, List.getElem_toArray, List.getElem_cons_succ, List.getElem_cons_zero, List.setIfInBounds_toArray, List.set_cons_zero, List.set_cons_succ]
    refine wpAnyH_take (i := 21) (v := undef) rfl (by kernel_rfl) (by kernel_rfl) (by kernel_rfl) (fun _ _ _ h => h) (Or.inr ⟨by kernel_rfl, rfl⟩) (by assumption) ?_
    simp only [Act.put, List.getElem_toArray, List.getElem_cons_succ, List.getElem_cons_zero, List.setIfInBounds_toArray, List.set_cons_zero, List.set_cons_succ]
    refine wpAnyH_take (i := 22) (v := .bool false) rfl (by kernel_rfl) (by kernel_rfl) (by kernel_rfl) (fun _ _ _ h => h) (Or.inl ⟨by kernel_rfl, ?_⟩) (by assumption) ?_
    · intro w' hSw
      have y0 := C0 _ hSw
      have y1 := C1 _ hSw
      have y2 := C2 _ hSw
      have y3 := C3 _ hSw
      have y4 := C4 _ hSw
      have y5 := C5 _ hSw
      have y6 := C6 _ hSw
      have y7 := C7 _ hSw
      have y8 := C8 _ hSw
      have y9 := C9 _ hSw
      have y10 := C10 _ hSw
      have y11 := C11 _ hSw
      go_simp
      try (with_reducible rfl)
    simp only [Act.put, List.getElem_toArray, List.getElem_cons_succ, List.getElem_cons_zero, List.setIfInBounds_toArray, List.set_cons_zero, List.set_cons_succ]
    refine wpAnyH_ready (rs := [23]) (by kernel_rfl) (by simp) ?_
    refine AllReadyH.cons rfl (fun K hK => ?_) AllReadyH.nil
    go_simp
    refine hK.out _ _ (by assumption) (fun _ => ?_)
    clear hK K
    try simp only [Act.put, List.getElem_toArray, List.getElem_cons_succ, List.getElem_cons_zero, List.setIfInBounds_toArray, List.set_cons_zero, List.set_cons_succ]
    refine wpAnyH_done (by kernel_rfl) ?_ _
    go_wp2
    go_ret
    exact ⟨by rw [HF.out]; rfl, B1.trans (hNext4.mono B1.size)⟩
  subst hf
  by_cases hb : has = has2
  · subst hb
    by_cases hl : bl = bl2
    · subst hl
      have HF : Hid (P = false) := by show _ = _; rw [← HP.out]; exact decide_eq_false fun g => g.2.2.2 ⟨rfl, rfl⟩
      clear HP
      go_upto_region 4 with fail
      have bw0 : Below w1.heap.size w1 w1.drew := bw.drew
      refine wp_region_held (S := fun w' => Below w1.heap.size w1 w') (by kernel_rfl) ?_
      refine wpAnyH_take (i := 0) (v := ?_) rfl (by kernel_rfl) (by kernel_rfl) (by kernel_rfl) (fun _ _ _ h => h) (Or.inl ⟨by kernel_rfl, ?_⟩) (by assumption) ?_
      rotate_left
      · intro w' hSw
        have y0 := C0 _ hSw
        have y1 := C1 _ hSw
        have y2 := C2 _ hSw
        have y3 := C3 _ hSw
        have y4 := C4 _ hSw
        have y5 := C5 _ hSw
        have y6 := C6 _ hSw
        have y7 := C7 _ hSw
        have y8 := C8 _ hSw
        have y9 := C9 _ hSw
        have y10 := C10 _ hSw
        have y11 := C11 _ hSw
        go_simp
        try (with_reducible rfl)
      simp only [Act.put, List.getElem_toArray, List.getElem_cons_succ, List.getElem_cons_zero, List.setIfInBounds_toArray, List.set_cons_zero, List.set_cons_succ]
      refine wpAnyH_take (i := 1) (v := ?_) rfl (by kernel_rfl) (by kernel_rfl) (by kernel_rfl) (fun _ _ _ h => h) (Or.inl ⟨by kernel_rfl, ?_⟩) (by assumption) ?_
      rotate_left
      · intro w' hSw
        have y0 := C0 _ hSw
        have y1 := C1 _ hSw
        have y2 := C2 _ hSw
        have y3 := C3 _ hSw
        have y4 := C4 _ hSw
        have y5 := C5 _ hSw
        have y6 := C6 _ hSw
        have y7 := C7 _ hSw
        have y8 := C8 _ hSw
        have y9 := C9 _ hSw
        have y10 := C10 _ hSw
        have y11 := C11 _ hSw
        go_simp
        try (with_reducible rfl)
      simp only [Act.put, List.getElem_toArray, List.getElem_cons_succ, List.getElem_cons_zero, List.setIfInBounds_toArray, List.set_cons_zero, List.set_cons_succ]
      refine wpAnyH_take (i := 2) (v := ?_) rfl (by kernel_rfl) (by kernel_rfl) (by kernel_rfl) (fun _ _ _ h => h) (Or.inl ⟨by kernel_rfl, ?_⟩) (by assumption) ?_
      rotate_left
      · intro w' hSw
        have y0 := C0 _ hSw
        have y1 := C1 _ hSw
        have y2 := C2 _ hSw
        have y3 := C3 _ hSw
        have y4 := C4 _ hSw
        have y5 := C5 _ hSw
        have y6 := C6 _ hSw
        have y7 := C7 _ hSw
        have y8 := C8 _ hSw
        have y9 := C9 _ hSw
        have y10 := C10 _ hSw
        have y11 := C11 _ hSw
        go_simp
        try (with_reducible rfl)
      simp only [Act.put, List.getElem_toArray, List.getElem_cons_succ, List.getElem_cons_zero, List.setIfInBounds_toArray, List.set_cons_zero, List.set_cons_succ]
      refine wpAnyH_take (i := 3) (v := ?_) rfl (by kernel_rfl) (by kernel_rfl) (by kernel_rfl) (fun _ _ _ h => h) (Or.inl ⟨by kernel_rfl, ?_⟩) (by assumption) ?_
      rotate_left
      · intro w' hSw
        have y0 := C0 _ hSw
        have y1 := C1 _ hSw
        have y2 := C2 _ hSw
        have y3 := C3 _ hSw
        have y4 := C4 _ hSw
        have y5 := C5 _ hSw
        have y6 := C6 _ hSw
        have y7 := C7 _ hSw
        have y8 := C8 _ hSw
        have y9 := C9 _ hSw
        have y10 := C10 _ hSw
        have y11 := C11 _ hSw
        go_simp
        try (with_reducible rfl)
      simp only [Act.put, List.getElem_toArray, List.getElem_cons_succ, List.getElem_cons_zero, List.setIfInBounds_toArray, List.set_cons_zero, List.set_cons_succ]
      refine wpAnyH_take (i := 4) (v := ?_) rfl (by kernel_rfl) (by kernel_rfl) (by kernel_rfl) (fun _ _ _ h => h) (Or.inl ⟨by kernel_rfl, ?_⟩) (by assumption) ?_
      rotate_left
      · intro w' hSw
        have y0 := C0 _ hSw
        have y1 := C1 _ hSw
        have y2 := C2 _ hSw
        have y3 := C3 _ hSw
        have y4 := C4 _ hSw
        have y5 := C5 _ hSw
        have y6 := C6 _ hSw
        have y7 := C7 _ hSw
        have y8 := C8 _ hSw
        have y9 := C9 _ hSw
        have y10 := C10 _ hSw
        have y11 := C11 _ hSw
        go_simp
        try (with_reducible rfl)
      simp only [Act.put, List.getElem_toArray, List.getElem_cons_succ, List.getElem_cons_zero, List.setIfInBounds_toArray, List.set_cons_zero, List.set_cons_succ]
      refine wpAnyH_take (i := 5) (v := ?_) rfl (by kernel_rfl) (by kernel_rfl) (by kernel_rfl) (fun _ _ _ h => h) (Or.inl ⟨by kernel_rfl, ?_⟩) (by assumption) ?_
      rotate_left
      · intro w' hSw
        have y0 := C0 _ hSw
        have y1 := C1 _ hSw
        have y2 := C2 _ hSw
        have y3 := C3 _ hSw
        have y4 := C4 _ hSw
        have y5 := C5 _ hSw
        have y6 := C6 _ hSw
        have y7 := C7 _ hSw
        have y8 := C8 _ hSw
        have y9 := C9 _ hSw
        have y10 := C10 _ hSw
        have y11 := C11 _ hSw
        go_simp
        try (with_reducible rfl)
      simp only [Act.put, List.getElem_toArray, List.getElem_cons_succ, List.getElem_cons_zero, List.setIfInBounds_toArray, List.set_cons_zero, List.set_cons_succ]
      refine wpAnyH_take (i := 6) (v := .bool true) rfl (by kernel_rfl) (by kernel_rfl) (by kernel_rfl) (fun _ _ _ h => h) (Or.inl ⟨by kernel_rfl, ?_⟩) (by assumption) ?_
      · intro w' hSw
        have y0 := C0 _ hSw
        have y1 := C1 _ hSw
        have y2 := C2 _ hSw
        have y3 := C3 _ hSw
        have y4 := C4 _ hSw
        have y5 := C5 _ hSw
        have y6 := C6 _ hSw
        have y7 := C7 _ hSw
        have y8 := C8 _ hSw
        have y9 := C9 _ hSw
        have y10 := C10 _ hSw
        have y11 := C11 _ hSw
        go_simp
        try (with_reducible rfl)
      simp only [Act.put, List.getElem_toArray, List.getElem_cons_succ, List.getElem_cons_zero, List.setIfInBounds_toArray, List.set_cons_zero, List.set_cons_succ]
      refine wpAnyH_take (i := 7) (v := .bool true) rfl (by kernel_rfl) (by kernel_rfl) (by kernel_rfl) (fun _ _ _ h => h) (Or.inl ⟨by kernel_rfl, ?_⟩) (by assumption) ?_
      · intro w' hSw
        have y0 := C0 _ hSw
        have y1 := C1 _ hSw
        have y2 := C2 _ hSw
        have y3 := C3 _ hSw
        have y4 := C4 _ hSw
        have y5 := C5 _ hSw
        have y6 := C6 _ hSw
        have y7 := C7 _ hSw
        have y8 := C8 _ hSw
        have y9 := C9 _ hSw
        have y10 := C10 _ hSw
        have y11 := C11 _ hSw
        go_simp
        try (with_reducible rfl)
      simp only [Act.put, List.getElem_toArray, List.getElem_cons_succ, List.getElem_cons_zero, List.setIfInBounds_toArray, List.set_cons_zero, List.set_cons_succ]
      refine wpAnyH_take (i := 8) (v := ?_) rfl (by kernel_rfl) (by kernel_rfl) (by kernel_rfl) (fun _ _ _ h => h) (Or.inl ⟨by kernel_rfl, ?_⟩) (by assumption) ?_
      rotate_left
      · intro w' hSw
        have y0 := C0 _ hSw
        have y1 := C1 _ hSw
        have y2 := C2 _ hSw
        have y3 := C3 _ hSw
        have y4 := C4 _ hSw
        have y5 := C5 _ hSw
        have y6 := C6 _ hSw
        have y7 := C7 _ hSw
        have y8 := C8 _ hSw
        have y9 := C9 _ hSw
        have y10 := C10 _ hSw
        have y11 := C11 _ hSw
        go_simp
        try (with_reducible rfl)
      simp only [Act.put, List.getElem_toArray, List.getElem_cons_succ, List.getElem_cons_zero, List.setIfInBounds_toArray, List.set_cons_zero, List.set_cons_succ]
      refine wpAnyH_take (i := 9) (v := ?_) rfl (by kernel_rfl) (by kernel_rfl) (by kernel_rfl) (fun _ _ _ h => h) (Or.inl ⟨by kernel_rfl, ?_⟩) (by assumption) ?_
      rotate_left
      · intro w' hSw
        have y0 := C0 _ hSw
        have y1 := C1 _ hSw
        have y2 := C2 _ hSw
        have y3 := C3 _ hSw
        have y4 := C4 _ hSw
        have y5 := C5 _ hSw
        have y6 := C6 _ hSw
        have y7 := C7 _ hSw
        have y8 := C8 _ hSw
        have y9 := C9 _ hSw
        have y10 := C10 _ hSw
        have y11 := C11 _ hSw
        go_simp
        try (with_reducible rfl)
      simp only [Act.put, List.getElem_toArray, List.getElem_cons_succ, List.getElem_cons_zero, List.setIfInBounds_toArray, List.set_cons_zero, List.set_cons_succ]
      refine wpAnyH_take (i := 11) (v := ?_) rfl (by kernel_rfl) (by kernel_rfl) (by kernel_rfl) (fun _ _ _ h => h) (Or.inl ⟨by kernel_rfl, ?_⟩) (by assumption) ?_
      rotate_left
      · intro w' hSw
        have y0 := C0 _ hSw
        have y1 := C1 _ hSw
        have y2 := C2 _ hSw
        have y3 := C3 _ hSw
        have y4 := C4 _ hSw
        have y5 := C5 _ hSw
        have y6 := C6 _ hSw
        have y7 := C7 _ hSw
        have y8 := C8 _ hSw
        have y9 := C9 _ hSw
        have y10 := C10 _ hSw
        have y11 := C11 _ hSw
        go_simp
        try (with_reducible rfl)
      simp only [Act.put, List.getElem_toArray, List.getElem_cons_succ, List.getElem_cons_zero, List.setIfInBounds_toArray, List.set_cons_zero, List.set_cons_succ]
      refine wpAnyH_take (i := 12) (v := ?_) rfl (by kernel_rfl) (by kernel_rfl) (by kernel_rfl) (fun _ _ _ h => h) (Or.inl ⟨by kernel_rfl, ?_⟩) (by assumption) ?_
      rotate_left
      · intro w' hSw
        have y0 := C0 _ hSw
        have y1 := C1 _ hSw
        have y2 := C2 _ hSw
        have y3 := C3 _ hSw
        have y4 := C4 _ hSw
        have y5 := C5 _ hSw
        have y6 := C6 _ hSw
        have y7 := C7 _ hSw
        have y8 := C8 _ hSw
        have y9 := C9 _ hSw
        have y10 := C10 _ hSw
        have y11 := C11 _ hSw
        go_simp
        try (with_reducible rfl)
      simp only [Act.put, List.getElem_toArray, List.getElem_cons_succ, List.getElem_cons_zero, List.setIfInBounds_toArray, List.set_cons_zero, List.set_cons_succ]
      refine wpAnyH_ready (rs := [10]) (by kernel_rfl) (by simp) ?_
      refine AllReadyH.cons rfl (fun K hK => ?_) AllReadyH.nil
      go_simp
      refine (placeOf_any h r s has bl f _).mono ?_
      rintro e w3 ⟨rfl, b3⟩
      have hNext3 : Below w1.heap.size w1 w3 := Below.trans bw0 (b3.mono (Below.size bw0))
      refine hK.out _ _ hNext3 (fun _ => ?_)
      clear hK K
      try simp only [Act.put, List.getElem_toArray, List.getElem_cons_succ, List.getElem_cons_zero, List.setIfInBounds_toArray, List.set_cons_zero, List.set_cons_succ]
      refine wpAnyH_ready (rs := [13]) (by kernel_rfl) (by simp) ?_
      refine AllReadyH.cons rfl (fun K hK => ?_) AllReadyH.nil
      go_simp
      refine (placeOf_any h r s has bl f _).mono ?_
      rintro e w4 ⟨rfl, b4⟩
      have hNext4 : Below w1.heap.size w1 w4 := Below.trans hNext3 (b4.mono (Below.size hNext3))
      refine hK.out _ _ hNext4 (fun _ => ?_)
      clear hK K
      try simp only [Act.put, List.getElem_toArray, List.getElem_cons_succ, List.getElem_cons_zero, List.setIfInBounds_toArray, List.set_cons_zero, List.set_cons_succ]
      refine wpAnyH_take (i := 14) (v := .bool true) rfl (by kernel_rfl) (by kernel_rfl) (by kernel_rfl) (fun _ _ _ h => h) (Or.inl ⟨by kernel_rfl, ?_⟩) (by assumption) ?_
      · intro w' hSw
        have y0 := C0 _ hSw
        have y1 := C1 _ hSw
        have y2 := C2 _ hSw
        have y3 := C3 _ hSw
        have y4 := C4 _ hSw
        have y5 := C5 _ hSw
        have y6 := C6 _ hSw
        have y7 := C7 _ hSw
        have y8 := C8 _ hSw
        have y9 := C9 _ hSw
        have y10 := C10 _ hSw
        have y11 := C11 _ hSw
        go_simp
        try (with_reducible rfl)
      simp only [Act.put, List.getElem_toArray, List.getElem_cons_succ, List.getElem_cons_zero, List.setIfInBounds_toArray, List.set_cons_zero, List.set_cons_succ]
      refine wpAnyH_take (i := 15) (v := .bool true) rfl (by kernel_rfl) (by kernel_rfl) (by kernel_rfl) (fun _ _ _ h => h) (Or.inl ⟨by kernel_rfl, ?_⟩) (by assumption) ?_
      · intro w' hSw
        have y0 := C0 _ hSw
        have y1 := C1 _ hSw
        have y2 := C2 _ hSw
        have y3 := C3 _ hSw
        have y4 := C4 _ hSw
        have y5 := C5 _ hSw
        have y6 := C6 _ hSw
        have y7 := C7 _ hSw
        have y8 := C8 _ hSw
        have y9 := C9 _ hSw
        have y10 := C10 _ hSw
        have y11 := C11 _ hSw
        go_simp
        try (with_reducible rfl)
      simp only [Act.put, List.getElem_toArray, List.getElem_cons_succ, List.getElem_cons_zero, List.setIfInBounds_toArray, List.set_cons_zero, List.set_cons_succ]
      refine wpAnyH_take (i := 16) (v := .bool true) rfl (by kernel_rfl) (by kernel_rfl) (by kernel_rfl) (fun _ _ _ h => h) (Or.inl ⟨by kernel_rfl, ?_⟩) (by assumption) ?_
      · intro w' hSw
        have y0 := C0 _ hSw
        have y1 := C1 _ hSw
        have y2 := C2 _ hSw
        have y3 := C3 _ hSw
        have y4 := C4 _ hSw
        have y5 := C5 _ hSw
        have y6 := C6 _ hSw
        have y7 := C7 _ hSw
        have y8 := C8 _ hSw
        have y9 := C9 _ hSw
        have y10 := C10 _ hSw
        have y11 := C11 _ hSw
        go_simp
        try (with_reducible rfl)
      simp only [Act.put, List.getElem_toArray, List.getElem_cons_succ, List.getElem_cons_zero, List.setIfInBounds_toArray, List.set_cons_zero, List.set_cons_succ]
      refine wpAnyH_take (i := 17) (v := ?_) rfl (by kernel_rfl) (by kernel_rfl) (by kernel_rfl) (fun _ _ _ h => h) (Or.inl ⟨by kernel_rfl, ?_⟩) (by assumption) ?_
      rotate_left
      · intro w' hSw
        have y0 := C0 _ hSw
        have y1 := C1 _ hSw
        have y2 := C2 _ hSw
        have y3 := C3 _ hSw
        have y4 := C4 _ hSw
        have y5 := C5 _ hSw
        have y6 := C6 _ hSw
        have y7 := C7 _ hSw
        have y8 := C8 _ hSw
        have y9 := C9 _ hSw
        have y10 := C10 _ hSw
        have y11 := C11 _ hSw
        go_simp
        try (with_reducible rfl)
      simp only [Act.put, List.getElem_toArray, List.getElem_cons_succ, List.getElem_cons_zero, List.setIfInBounds_toArray, List.set_cons_zero, List.set_cons_succ]
      refine wpAnyH_take (i := 18) (v := ?_) rfl (by kernel_rfl) (by kernel_rfl) (by kernel_rfl) (fun _ _ _ h => h) (Or.inl ⟨by kernel_rfl, ?_⟩) (by assumption) ?_
      rotate_left
      · intro w' hSw
        have y0 := C0 _ hSw
        have y1 := C1 _ hSw
        have y2 := C2 _ hSw
        have y3 := C3 _ hSw
        have y4 := C4 _ hSw
        have y5 := C5 _ hSw
        have y6 := C6 _ hSw
        have y7 := C7 _ hSw
        have y8 := C8 _ hSw
        have y9 := C9 _ hSw
        have y10 := C10 _ hSw
        have y11 := C11 _ hSw
        go_simp
        try (with_reducible rfl)
      simp only [Act.put, List.getElem_toArray, List.getElem_cons_succ, List.getElem_cons_zero, List.setIfInBounds_toArray, List.set_cons_zero, List.set_cons_succ]
      refine wpAnyH_take (i := 19) (v := ?_) rfl (by kernel_rfl) (by kernel_rfl) (by kernel_rfl) (fun _ _ _ h => h) (Or.inl ⟨by kernel_rfl, ?_⟩) (by assumption) ?_
      rotate_left
      · intro w' hSw
        have y0 := C0 _ hSw
        have y1 := C1 _ hSw
        have y2 := C2 _ hSw
        have y3 := C3 _ hSw
        have y4 := C4 _ hSw
        have y5 := C5 _ hSw
        have y6 := C6 _ hSw
        have y7 := C7 _ hSw
        have y8 := C8 _ hSw
        have y9 := C9 _ hSw
        have y10 := C10 _ hSw
        have y11 := C11 _ hSw
        go_simp
        try (with_reducible rfl)
      simp only [Act.put, List.getElem_toArray, List.getElem_cons_succ, List.getElem_cons_zero, List.setIfInBounds_toArray, List.set_cons_zero, List.set_cons_succ]
      refine wpAnyH_take (i := 20) (v := ?_) rfl (by kernel_rfl) (by kernel_rfl) (by kernel_rfl) (fun _ _ _ h => h) (Or.inl ⟨by kernel_rfl, ?_⟩) (by assumption) ?_
      rotate_left
      · intro w' hSw
        have y0 := C0 _ hSw
        have y1 := C1 _ hSw
        have y2 := C2 _ hSw
        have y3 := C3 _ hSw
        have y4 := C4 _ hSw
        have y5 := C5 _ hSw
        have y6 := C6 _ hSw
        have y7 := C7 _ hSw
        have y8 := C8 _ hSw
        have y9 := C9 _ hSw
        have y10 := C10 _ hSw
        have y11 := C11 _ hSw
        go_simp
        try (with_reducible rfl)
      simp only [Act.put, List.getElem_toArray, List.getElem_cons_succ, List.getElem_cons_zero, List.setIfInBounds_toArray, List.set_cons_zero, List.set_cons_succ]
      refine wpAnyH_take (i := 21) (v := .bool false) rfl (by kernel_rfl) (by kernel_rfl) (by kernel_rfl) (fun _ _ _ h => h) (Or.inl ⟨by kernel_rfl, ?_⟩) (by assumption) ?_
      · intro w' hSw
        have y0 := C0 _ hSw
        have y1 := C1 _ hSw
        have y2 := C2 _ hSw
        have y3 := C3 _ hSw
        have y4 := C4 _ hSw
        have y5 := C5 _ hSw
        have y6 := C6 _ hSw
        have y7 := C7 _ hSw
        have y8 := C8 _ hSw
        have y9 := C9 _ hSw
        have y10 := C10 _ hSw
        have y11 := C11 _ hSw
        go_simp
        try (with_reducible rfl)
      simp only [Act.put, List.getElem_toArray, List.getElem_cons_succ, List.getElem_cons_zero, List.setIfInBounds_toArray, List.set_cons_zero, List.set_cons_succ]
      refine wpAnyH_take (i := 22) (v := .bool false) rfl (by kernel_rfl) (by kernel_rfl) (by kernel_rfl) (fun _ _ _ h => h) (Or.inl ⟨by kernel_rfl, ?_⟩) (by assumption) ?_
      · intro w' hSw
        have y0 := C0 _ hSw
        have y1 := C1 _ hSw
        have y2 := C2 _ hSw
        have y3 := C3 _ hSw
        have y4 := C4 _ hSw
        have y5 := C5 _ hSw
        have y6 := C6 _ hSw
        have y7 := C7 _ hSw
        have y8 := C8 _ hSw
        have y9 := C9 _ hSw
        have y10 := C10 _ hSw
        have y11 := C11 _ hSw
        go_simp
        try (with_reducible rfl)
      simp only [Act.put, List.getElem_toArray, List.getElem_cons_succ, List.getElem_cons_zero, List.setIfInBounds_toArray, List.set_cons_zero, List.set_cons_succ]
      refine wpAnyH_ready (rs := [23]) (by kernel_rfl) (by simp) ?_
      refine AllReadyH.cons rfl (fun K hK => ?_) AllReadyH.nil
      go_simp
      refine hK.out _ _ (by assumption) (fun _ => ?_)
      clear hK K
      try simp only [Act.put, List.getElem_toArray, List.getElem_cons_succ, List.getElem_cons_zero, List.setIfInBounds_toArray, List.set_cons_zero, List.set_cons_succ]
      refine wpAnyH_done (by kernel_rfl) ?_ _
      go_wp2
      go_ret
      exact ⟨by rw [HF.out]; rfl, B1.trans (hNext4.mono B1.size)⟩
    · have HF : Hid (P = true) := by show _ = _; rw [← HP.out]; exact decide_eq_true ⟨rfl, rfl, ⟨rfl, rfl, rfl⟩, fun g => hl g.2⟩
      have hd : (bl == bl2) = false := by simpa using hl
      clear HP hl
      go_upto_region 4 with fail
      have bw0 : Below w1.heap.size w1 w1.drew := bw.drew
      refine wp_region_held (S := fun w' => Below w1.heap.size w1 w') (by kernel_rfl) ?_
      refine wpAnyH_take (i := 0) (v := ?_) rfl (by kernel_rfl) (by kernel_rfl) (by kernel_rfl) (fun _ _ _ h => h) (Or.inl ⟨by kernel_rfl, ?_⟩) (by assumption) ?_
      rotate_left
      · intro w' hSw
        have y0 := C0 _ hSw
        have y1 := C1 _ hSw
        have y2 := C2 _ hSw
        have y3 := C3 _ hSw
        have y4 := C4 _ hSw
        have y5 := C5 _ hSw
        have y6 := C6 _ hSw
        have y7 := C7 _ hSw
        have y8 := C8 _ hSw
        have y9 := C9 _ hSw
        have y10 := C10 _ hSw
        have y11 := C11 _ hSw
        go_simp
        try (with_reducible rfl)
      simp only [Act.put, List.getElem_toArray, List.getElem_cons_succ, List.getElem_cons_zero, List.setIfInBounds_toArray, List.set_cons_zero, List.set_cons_succ]
      refine wpAnyH_take (i := 1) (v := ?_) rfl (by kernel_rfl) (by kernel_rfl) (by kernel_rfl) (fun _ _ _ h => h) (Or.inl ⟨by kernel_rfl, ?_⟩) (by assumption) ?_
      rotate_left
      · intro w' hSw
        have y0 := C0 _ hSw
        have y1 := C1 _ hSw
        have y2 := C2 _ hSw
        have y3 := C3 _ hSw
        have y4 := C4 _ hSw
        have y5 := C5 _ hSw
        have y6 := C6 _ hSw
        have y7 := C7 _ hSw
        have y8 := C8 _ hSw
        have y9 := C9 _ hSw
        have y10 := C10 _ hSw
        have y11 := C11 _ hSw
        go_simp
        try (with_reducible rfl)
      simp only [Act.put, List.getElem_toArray, List.getElem_cons_succ, List.getElem_cons_zero, List.setIfInBounds_toArray, List.set_cons_zero, List.set_cons_succ]
      refine wpAnyH_take (i := 2) (v := ?_) rfl (by kernel_rfl) (by kernel_rfl) (by kernel_rfl) (fun _ _ _ h => h) (Or.inl ⟨by kernel_rfl, ?_⟩) (by assumption) ?_
      rotate_left
      · intro w' hSw
        have y0 := C0 _ hSw
        have y1 := C1 _ hSw
        have y2 := C2 _ hSw
        have y3 := C3 _ hSw
        have y4 := C4 _ hSw
        have y5 := C5 _ hSw
        have y6 := C6 _ hSw
        have y7 := C7 _ hSw
        have y8 := C8 _ hSw
        have y9 := C9 _ hSw
        have y10 := C10 _ hSw
        have y11 := C11 _ hSw
        go_simp
        try (with_reducible rfl)
      simp only [Act.put, List.getElem_toArray, List.getElem_cons_succ, List.getElem_cons_zero, List.setIfInBounds_toArray, List.set_cons_zero, List.set_cons_succ]
      refine wpAnyH_take (i := 3) (v := ?_) rfl (by kernel_rfl) (by kernel_rfl) (by kernel_rfl) (fun _ _ _ h => h) (Or.inl ⟨by kernel_rfl, ?_⟩) (by assumption) ?_
      rotate_left
      · intro w' hSw
        have y0 := C0 _ hSw
        have y1 := C1 _ hSw
        have y2 := C2 _ hSw
        have y3 := C3 _ hSw
        have y4 := C4 _ hSw
        have y5 := C5 _ hSw
        have y6 := C6 _ hSw
        have y7 := C7 _ hSw
        have y8 := C8 _ hSw
        have y9 := C9 _ hSw
        have y10 := C10 _ hSw
        have y11 := C11 _ hSw
        go_simp
        try (with_reducible rfl)
      simp only [Act.put, List.getElem_toArray, List.getElem_cons_succ, List.getElem_cons_zero, List.setIfInBounds_toArray, List.set_cons_zero, List.set_cons_succ]
      refine wpAnyH_take (i := 4) (v := ?_) rfl (by kernel_rfl) (by kernel_rfl) (by kernel_rfl) (fun _ _ _ h => h) (Or.inl ⟨by kernel_rfl, ?_⟩) (by assumption) ?_
      rotate_left
      · intro w' hSw
        have y0 := C0 _ hSw
        have y1 := C1 _ hSw
        have y2 := C2 _ hSw
        have y3 := C3 _ hSw
        have y4 := C4 _ hSw
        have y5 := C5 _ hSw
        have y6 := C6 _ hSw
        have y7 := C7 _ hSw
        have y8 := C8 _ hSw
        have y9 := C9 _ hSw
        have y10 := C10 _ hSw
        have y11 := C11 _ hSw
        go_simp
        try (with_reducible rfl)
      simp only [Act.put, List.getElem_toArray, List.getElem_cons_succ, List.getElem_cons_zero, List.setIfInBounds_toArray, List.set_cons_zero, List.set_cons_succ]
      refine wpAnyH_take (i := 5) (v := ?_) rfl (by kernel_rfl) (by kernel_rfl) (by kernel_rfl) (fun _ _ _ h => h) (Or.inl ⟨by kernel_rfl, ?_⟩) (by assumption) ?_
      rotate_left
      · intro w' hSw
        have y0 := C0 _ hSw
        have y1 := C1 _ hSw
        have y2 := C2 _ hSw
        have y3 := C3 _ hSw
        have y4 := C4 _ hSw
        have y5 := C5 _ hSw
        have y6 := C6 _ hSw
        have y7 := C7 _ hSw
        have y8 := C8 _ hSw
        have y9 := C9 _ hSw
        have y10 := C10 _ hSw
        have y11 := C11 _ hSw
        go_simp
        try (with_reducible rfl)
      simp only [Act.put, List.getElem_toArray, List.getElem_cons_succ, List.getElem_cons_zero, List.setIfInBounds_toArray, List.set_cons_zero, List.set_cons_succ]
      refine wpAnyH_take (i := 6) (v := .bool true) rfl (by kernel_rfl) (by kernel_rfl) (by kernel_rfl) (fun _ _ _ h => h) (Or.inl ⟨by kernel_rfl, ?_⟩) (by assumption) ?_
      · intro w' hSw
        have y0 := C0 _ hSw
        have y1 := C1 _ hSw
        have y2 := C2 _ hSw
        have y3 := C3 _ hSw
        have y4 := C4 _ hSw
        have y5 := C5 _ hSw
        have y6 := C6 _ hSw
        have y7 := C7 _ hSw
        have y8 := C8 _ hSw
        have y9 := C9 _ hSw
        have y10 := C10 _ hSw
        have y11 := C11 _ hSw
        go_simp
        try (with_reducible rfl)
      simp only [Act.put, List.getElem_toArray, List.getElem_cons_succ, List.getElem_cons_zero, List.setIfInBounds_toArray, List.set_cons_zero, List.set_cons_succ]
      refine wpAnyH_take (i := 7) (v := .bool true) rfl (by kernel_rfl) (by kernel_rfl) (by kernel_rfl) (fun _ _ _ h => h) (Or.inl ⟨by kernel_rfl, ?_⟩) (by assumption) ?_
      · intro w' hSw
        have y0 := C0 _ hSw
        have y1 := C1 _ hSw
        have y2 := C2 _ hSw
        have y3 := C3 _ hSw
        have y4 := C4 _ hSw
        have y5 := C5 _ hSw
        have y6 := C6 _ hSw
        have y7 := C7 _ hSw
        have y8 := C8 _ hSw
        have y9 := C9 _ hSw
        have y10 := C10 _ hSw
        have y11 := C11 _ hSw
        go_simp
        try (with_reducible rfl)
      simp only [Act.put, List.getElem_toArray, List.getElem_cons_succ, List.getElem_cons_zero, List.setIfInBounds_toArray, List.set_cons_zero, List.set_cons_succ]
      refine wpAnyH_take (i := 8) (v := ?_) rfl (by kernel_rfl) (by kernel_rfl) (by kernel_rfl) (fun _ _ _ h => h) (Or.inl ⟨by kernel_rfl, ?_⟩) (by assumption) ?_
      rotate_left
      · intro w' hSw
        have y0 := C0 _ hSw
        have y1 := C1 _ hSw
        have y2 := C2 _ hSw
        have y3 := C3 _ hSw
        have y4 := C4 _ hSw
        have y5 := C5 _ hSw
        have y6 := C6 _ hSw
        have y7 := C7 _ hSw
        have y8 := C8 _ hSw
        have y9 := C9 _ hSw
        have y10 := C10 _ hSw
        have y11 := C11 _ hSw
        go_simp
        try (with_reducible rfl)
      simp only [Act.put, List.getElem_toArray, List.getElem_cons_succ, List.getElem_cons_zero, List.setIfInBounds_toArray, List.set_cons_zero, List.set_cons_succ]
      refine wpAnyH_take (i := 9) (v := ?_) rfl (by kernel_rfl) (by kernel_rfl) (by kernel_rfl) (fun _ _ _ h => h) (Or.inl ⟨by kernel_rfl, ?_⟩) (by assumption) ?_
      rotate_left
      · intro w' hSw
        have y0 := C0 _ hSw
        have y1 := C1 _ hSw
        have y2 := C2 _ hSw
        have y3 := C3 _ hSw
        have y4 := C4 _ hSw
        have y5 := C5 _ hSw
        have y6 := C6 _ hSw
        have y7 := C7 _ hSw
        have y8 := C8 _ hSw
        have y9 := C9 _ hSw
        have y10 := C10 _ hSw
        have y11 := C11 _ hSw
        go_simp
        try (with_reducible rfl)
      simp only [Act.put, List.getElem_toArray, List.getElem_cons_succ, List.getElem_cons_zero, List.setIfInBounds_toArray, List.set_cons_zero, List.set_cons_succ]
      refine wpAnyH_take (i := 11) (v := ?_) rfl (by kernel_rfl) (by kernel_rfl) (by kernel_rfl) (fun _ _ _ h => h) (Or.inl ⟨by kernel_rfl, ?_⟩) (by assumption) ?_
      rotate_left
      · intro w' hSw
        have y0 := C0 _ hSw
        have y1 := C1 _ hSw
        have y2 := C2 _ hSw
        have y3 := C3 _ hSw
        have y4 := C4 _ hSw
        have y5 := C5 _ hSw
        have y6 := C6 _ hSw
        have y7 := C7 _ hSw
        have y8 := C8 _ hSw
        have y9 := C9 _ hSw
        have y10 := C10 _ hSw
        have y11 := C11 _ hSw
        go_simp
        try (with_reducible rfl)
      simp only [Act.put, List.getElem_toArray, List.getElem_cons_succ, List.getElem_cons_zero, List.setIfInBounds_toArray, List.set_cons_zero, List.set_cons_succ]
      refine wpAnyH_take (i := 12) (v := ?_) rfl (by kernel_rfl) (by kernel_rfl) (by kernel_rfl) (fun _ _ _ h => h) (Or.inl ⟨by kernel_rfl, ?_⟩) (by assumption) ?_
      rotate_left
      · intro w' hSw
        have y0 := C0 _ hSw
        have y1 := C1 _ hSw
        have y2 := C2 _ hSw
        have y3 := C3 _ hSw
        have y4 := C4 _ hSw
        have y5 := C5 _ hSw
        have y6 := C6 _ hSw
        have y7 := C7 _ hSw
        have y8 := C8 _ hSw
        have y9 := C9 _ hSw
        have y10 := C10 _ hSw
        have y11 := C11 _ hSw
        go_simp
        try (with_reducible rfl)
      simp only [Act.put, List.getElem_toArray, List.getElem_cons_succ, List.getElem_cons_zero, List.setIfInBounds_toArray, List.set_cons_zero, List.set_cons_succ]
      refine wpAnyH_ready (rs := [10]) (by kernel_rfl) (by simp) ?_
      refine AllReadyH.cons rfl (fun K hK => ?_) AllReadyH.nil
      go_simp
      refine (placeOf_any h r s has bl f _).mono ?_
      rintro e w3 ⟨rfl, b3⟩
      have hNext3 : Below w1.heap.size w1 w3 := Below.trans bw0 (b3.mono (Below.size bw0))
      refine hK.out _ _ hNext3 (fun _ => ?_)
      clear hK K
      try simp only [Act.put, List.getElem_toArray, List.getElem_cons_succ, List.getElem_cons_zero, List.setIfInBounds_toArray, List.set_cons_zero, List.set_cons_succ]
      refine wpAnyH_ready (rs := [13]) (by kernel_rfl) (by simp) ?_
      refine AllReadyH.cons rfl (fun K hK => ?_) AllReadyH.nil
      go_simp
      refine (placeOf_any h r s has bl2 f _).mono ?_
      rintro e w4 ⟨rfl, b4⟩
      have hNext4 : Below w1.heap.size w1 w4 := Below.trans hNext3 (b4.mono (Below.size hNext3))
      refine hK.out _ _ hNext4 (fun _ => ?_)
      clear hK K
      try simp only [Act.put, List.getElem_toArray, List.getElem_cons_succ, List.getElem_cons_zero, List.setIfInBounds_toArray, List.set_cons_zero, List.set_cons_succ]
      refine wpAnyH_take (i := 14) (v := .bool true) rfl (by kernel_rfl) (by kernel_rfl) (by kernel_rfl) (fun _ _ _ h => h) (Or.inl ⟨by kernel_rfl, ?_⟩) (by assumption) ?_
      · intro w' hSw
        have y0 := C0 _ hSw
        have y1 := C1 _ hSw
        have y2 := C2 _ hSw
        have y3 := C3 _ hSw
        have y4 := C4 _ hSw
        have y5 := C5 _ hSw
        have y6 := C6 _ hSw
        have y7 := C7 _ hSw
        have y8 := C8 _ hSw
        have y9 := C9 _ hSw
        have y10 := C10 _ hSw
        have y11 := C11 _ hSw
        go_simp
        try (with_reducible rfl)
      simp only [Act.put, List.getElem_toArray, List.getElem_cons_succ, List.getElem_cons_zero, List.setIfInBounds_toArray, List.set_cons_zero, List.set_cons_succ]
      refine wpAnyH_take (i := 15) (v := .bool true) rfl (by kernel_rfl) (by kernel_rfl) (by kernel_rfl) (fun _ _ _ h => h) (Or.inl ⟨by kernel_rfl, ?_⟩) (by assumption) ?_
      · intro w' hSw
        have y0 := C0 _ hSw
        have y1 := C1 _ hSw
        have y2 := C2 _ hSw
        have y3 := C3 _ hSw
        have y4 := C4 _ hSw
        have y5 := C5 _ hSw
        have y6 := C6 _ hSw
        have y7 := C7 _ hSw
        have y8 := C8 _ hSw
        have y9 := C9 _ hSw
        have y10 := C10 _ hSw
        have y11 := C11 _ hSw
        go_simp
        try (with_reducible rfl)
      simp only [Act.put, List.getElem_toArray, List.getElem_cons_succ, List.getElem_cons_zero, List.setIfInBounds_toArray, List.set_cons_zero, List.set_cons_succ]
      refine wpAnyH_take (i := 16) (v := .bool true) rfl (by kernel_rfl) (by kernel_rfl) (by kernel_rfl) (fun _ _ _ h => h) (Or.inl ⟨by kernel_rfl, ?_⟩) (by assumption) ?_
      · intro w' hSw
        have y0 := C0 _ hSw
        have y1 := C1 _ hSw
        have y2 := C2 _ hSw
        have y3 := C3 _ hSw
        have y4 := C4 _ hSw
        have y5 := C5 _ hSw
        have y6 := C6 _ hSw
        have y7 := C7 _ hSw
        have y8 := C8 _ hSw
        have y9 := C9 _ hSw
        have y10 := C10 _ hSw
        have y11 := C11 _ hSw
        go_simp
        try (with_reducible rfl)
      simp only [Act.put, List.getElem_toArray, List.getElem_cons_succ, List.getElem_cons_zero, List.setIfInBounds_toArray, List.set_cons_zero, List.set_cons_succ]
      refine wpAnyH_take (i := 17) (v := ?_) rfl (by kernel_rfl) (by kernel_rfl) (by kernel_rfl) (fun _ _ _ h => h) (Or.inl ⟨by kernel_rfl, ?_⟩) (by assumption) ?_
      rotate_left
      · intro w' hSw
        have y0 := C0 _ hSw
        have y1 := C1 _ hSw
        have y2 := C2 _ hSw
        have y3 := C3 _ hSw
        have y4 := C4 _ hSw
        have y5 := C5 _ hSw
        have y6 := C6 _ hSw
        have y7 := C7 _ hSw
        have y8 := C8 _ hSw
        have y9 := C9 _ hSw
        have y10 := C10 _ hSw
        have y11 := C11 _ hSw
        go_simp
        try (with_reducible rfl)
      simp only [Act.put, List.getElem_toArray, List.getElem_cons_succ, List.getElem_cons_zero, List.setIfInBounds_toArray, List.set_cons_zero, List.set_cons_succ]
      refine wpAnyH_take (i := 18) (v := ?_) rfl (by kernel_rfl) (by kernel_rfl) (by kernel_rfl) (fun _ _ _ h => h) (Or.inl ⟨by kernel_rfl, ?_⟩) (by assumption) ?_
      rotate_left
      · intro w' hSw
        have y0 := C0 _ hSw
        have y1 := C1 _ hSw
        have y2 := C2 _ hSw
        have y3 := C3 _ hSw
        have y4 := C4 _ hSw
        have y5 := C5 _ hSw
        have y6 := C6 _ hSw
        have y7 := C7 _ hSw
        have y8 := C8 _ hSw
        have y9 := C9 _ hSw
        have y10 := C10 _ hSw
        have y11 := C11 _ hSw
        go_simp
        try (with_reducible rfl)
      simp only [Act.put, List.getElem_toArray, List.getElem_cons_succ, List.getElem_cons_zero, List.setIfInBounds_toArray, List.set_cons_zero, List.set_cons_succ]
      refine wpAnyH_take (i := 19) (v := ?_) rfl (by kernel_rfl) (by kernel_rfl) (by kernel_rfl) (fun _ _ _ h => h) (Or.inl ⟨by kernel_rfl, ?_⟩) (by assumption) ?_
      rotate_left
      · intro w' hSw
        have y0 := C0 _ hSw
        have y1 := C1 _ hSw
        have y2 := C2 _ hSw
        have y3 := C3 _ hSw
        have y4 := C4 _ hSw
        have y5 := C5 _ hSw
        have y6 := C6 _ hSw
        have y7 := C7 _ hSw
        have y8 := C8 _ hSw
        have y9 := C9 _ hSw
        have y10 := C10 _ hSw
        have y11 := C11 _ hSw
        go_simp
        try (with_reducible rfl)
      simp only [Act.put, List.getElem_toArray, List.getElem_cons_succ, List.getElem_cons_zero, List.setIfInBounds_toArray, List.set_cons_zero, List.set_cons_succ]
      refine wpAnyH_take (i := 20) (v := ?_) rfl (by kernel_rfl) (by kernel_rfl) (by kernel_rfl) (fun _ _ _ h => h) (Or.inl ⟨by kernel_rfl, ?_⟩) (by assumption) ?_
      rotate_left
      · intro w' hSw
        have y0 := C0 _ hSw
        have y1 := C1 _ hSw
        have y2 := C2 _ hSw
        have y3 := C3 _ hSw
        have y4 := C4 _ hSw
        have y5 := C5 _ hSw
        have y6 := C6 _ hSw
        have y7 := C7 _ hSw
        have y8 := C8 _ hSw
        have y9 := C9 _ hSw
        have y10 := C10 _ hSw
        have y11 := C11 _ hSw
        go_simp
        try (with_reducible rfl)
      simp only [Act.put, List.getElem_toArray, List.getElem_cons_succ, List.getElem_cons_zero, List.setIfInBounds_toArray, List.set_cons_zero, List.set_cons_succ]
      refine wpAnyH_take (i := 21) (v := .bool true) rfl (by kernel_rfl) (by kernel_rfl) (by kernel_rfl) (fun _ _ _ h => h) (Or.inl ⟨by kernel_rfl, ?_⟩) (by assumption) ?_
      · intro w' hSw
        have y0 := C0 _ hSw
        have y1 := C1 _ hSw
        have y2 := C2 _ hSw
        have y3 := C3 _ hSw
        have y4 := C4 _ hSw
        have y5 := C5 _ hSw
        have y6 := C6 _ hSw
        have y7 := C7 _ hSw
        have y8 := C8 _ hSw
        have y9 := C9 _ hSw
        have y10 := C10 _ hSw
        have y11 := C11 _ hSw
        go_simp
        try (with_reducible rfl)
      simp only [Act.put, List.getElem_toArray, List.getElem_cons_succ, List.getElem_cons_zero, List.setIfInBounds_toArray, List.set_cons_zero, List.set_cons_succ]
      refine wpAnyH_take (i := 22) (v := .bool true) rfl (by kernel_rfl) (by kernel_rfl) (by kernel_rfl) (fun _ _ _ h => h) (Or.inl ⟨by kernel_rfl, ?_⟩) (by assumption) ?_
      · intro w' hSw
        have y0 := C0 _ hSw
        have y1 := C1 _ hSw
        have y2 := C2 _ hSw
        have y3 := C3 _ hSw
        have y4 := C4 _ hSw
        have y5 := C5 _ hSw
        have y6 := C6 _ hSw
        have y7 := C7 _ hSw
        have y8 := C8 _ hSw
        have y9 := C9 _ hSw
        have y10 := C10 _ hSw
        have y11 := C11 _ hSw
        go_simp
        try (with_reducible rfl)
      simp only [Act.put, List.getElem_toArray, List.getElem_cons_succ, List.getElem_cons_zero, List.setIfInBounds_toArray, List.set_cons_zero, List.set_cons_succ]
      refine wpAnyH_ready (rs := [23]) (by kernel_rfl) (by simp) ?_
      refine AllReadyH.cons rfl (fun K hK => ?_) AllReadyH.nil
      go_simp
      refine hK.out _ _ (by assumption) (fun _ => ?_)
      clear hK K
      try simp only [Act.put, List.getElem_toArray, List.getElem_cons_succ, List.getElem_cons_zero, List.setIfInBounds_toArray, List.set_cons_zero, List.set_cons_succ]
      refine wpAnyH_done (by kernel_rfl) ?_ _
      go_wp2
      go_ret
      exact ⟨by rw [HF.out]; rfl, B1.trans (hNext4.mono B1.size)⟩
  · have HF : Hid (P = true) := by show _ = _; rw [← HP.out]; exact decide_eq_true ⟨rfl, rfl, ⟨rfl, rfl, rfl⟩, fun g => hb g.1⟩
    have hd : (has == has2) = false := by simpa using hb
    clear HP hb
    go_upto_region 4 with fail
    have bw0 : Below w1.heap.size w1 w1.drew := bw.drew
    refine wp_region_held (S := fun w' => Below w1.heap.size w1 w') (by kernel_rfl) ?_
    refine wpAnyH_take (i := 0) (v := ?_) rfl (by kernel_rfl) (by kernel_rfl) (by kernel_rfl) (fun _ _ _ h => h) (Or.inl ⟨by kernel_rfl, ?_⟩) (by assumption) ?_
    rotate_left
    · intro w' hSw
      have y0 := C0 _ hSw
      have y1 := C1 _ hSw
      have y2 := C2 _ hSw
      have y3 := C3 _ hSw
      have y4 := C4 _ hSw
      have y5 := C5 _ hSw
      have y6 := C6 _ hSw
      have y7 := C7 _ hSw
      have y8 := C8 _ hSw
      have y9 := C9 _ hSw
      have y10 := C10 _ hSw
      have y11 := C11 _ hSw
      go_simp
      try (with_reducible rfl)
    simp only [Act.put, List.getElem_toArray, List.getElem_cons_succ, List.getElem_cons_zero, List.setIfInBounds_toArray, List.set_cons_zero, List.set_cons_succ]
    refine wpAnyH_take (i := 1) (v := ?_) rfl (by kernel_rfl) (by kernel_rfl) (by kernel_rfl) (fun _ _ _ h => h) (Or.inl ⟨by kernel_rfl, ?_⟩) (by assumption) ?_
    rotate_left
    · intro w' hSw
      have y0 := C0 _ hSw
      have y1 := C1 _ hSw
      have y2 := C2 _ hSw
      have y3 := C3 _ hSw
      have y4 := C4 _ hSw
      have y5 := C5 _ hSw
      have y6 := C6 _ hSw
      have y7 := C7 _ hSw
      have y8 := C8 _ hSw
      have y9 := C9 _ hSw
      have y10 := C10 _ hSw
      have y11 := C11 _ hSw
      go_simp
      try (with_reducible rfl)
    simp only [Act.put, List.getElem_toArray, List.getElem_cons_succ, List.getElem_cons_zero, List.setIfInBounds_toArray, List.set_cons_zero, List.set_cons_succ]
    refine wpAnyH_take (i := 2) (v := ?_) rfl (by kernel_rfl) (by kernel_rfl) (by kernel_rfl) (fun _ _ _ h => h) (Or.inl ⟨by kernel_rfl, ?_⟩) (by assumption) ?_
    rotate_left
    · intro w' hSw
      have y0 := C0 _ hSw
      have y1 := C1 _ hSw
      have y2 := C2 _ hSw
      have y3 := C3 _ hSw
      have y4 := C4 _ hSw
      have y5 := C5 _ hSw
      have y6 := C6 _ hSw
      have y7 := C7 _ hSw
      have y8 := C8 _ hSw
      have y9 := C9 _ hSw
      have y10 := C10 _ hSw
      have y11 := C11 _ hSw
      go_simp
      try (with_reducible rfl)
    simp only [Act.put, List.getElem_toArray, List.getElem_cons_succ, List.getElem_cons_zero, List.setIfInBounds_toArray, List.set_cons_zero, List.set_cons_succ]
    refine wpAnyH_take (i := 3) (v := ?_) rfl (by kernel_rfl) (by kernel_rfl) (by kernel_rfl) (fun _ _ _ h => h) (Or.inl ⟨by kernel_rfl, ?_⟩) (by assumption) ?_
    rotate_left
    · intro w' hSw
      have y0 := C0 _ hSw
      have y1 := C1 _ hSw
      have y2 := C2 _ hSw
      have y3 := C3 _ hSw
      have y4 := C4 _ hSw
      have y5 := C5 _ hSw
      have y6 := C6 _ hSw
      have y7 := C7 _ hSw
      have y8 := C8 _ hSw
      have y9 := C9 _ hSw
      have y10 := C10 _ hSw
      have y11 := C11 _ hSw
      go_simp
      try (with_reducible rfl)
    simp only [Act.put, List.getElem_toArray, List.getElem_cons_succ, List.getElem_cons_zero, List.setIfInBounds_toArray, List.set_cons_zero, List.set_cons_succ]
    refine wpAnyH_take (i := 4) (v := ?_) rfl (by kernel_rfl) (by kernel_rfl) (by kernel_rfl) (fun _ _ _ h => h) (Or.inl ⟨by kernel_rfl, ?_⟩) (by assumption) ?_
    rotate_left
    · intro w' hSw
      have y0 := C0 _ hSw
      have y1 := C1 _ hSw
      have y2 := C2 _ hSw
      have y3 := C3 _ hSw
      have y4 := C4 _ hSw
      have y5 := C5 _ hSw
      have y6 := C6 _ hSw
      have y7 := C7 _ hSw
      have y8 := C8 _ hSw
      have y9 := C9 _ hSw
      have y10 := C10 _ hSw
      have y11 := C11 _ hSw
      go_simp
      try (with_reducible rfl)
    simp only [Act.put, List.getElem_toArray, List.getElem_cons_succ, List.getElem_cons_zero, List.setIfInBounds_toArray, List.set_cons_zero, List.set_cons_succ]
    refine wpAnyH_take (i := 5) (v := ?_) rfl (by kernel_rfl) (by kernel_rfl) (by kernel_rfl) (fun _ _ _ h => h) (Or.inl ⟨by kernel_rfl, ?_⟩) (by assumption) ?_
    rotate_left
    · intro w' hSw
      have y0 := C0 _ hSw
      have y1 := C1 _ hSw
      have y2 := C2 _ hSw
      have y3 := C3 _ hSw
      have y4 := C4 _ hSw
      have y5 := C5 _ hSw
      have y6 := C6 _ hSw
      have y7 := C7 _ hSw
      have y8 := C8 _ hSw
      have y9 := C9 _ hSw
      have y10 := C10 _ hSw
      have y11 := C11 _ hSw
      go_simp
      try (with_reducible rfl)
    simp only [Act.put, List.getElem_toArray, List.getElem_cons_succ, List.getElem_cons_zero, List.setIfInBounds_toArray, List.set_cons_zero, List.set_cons_succ]
    refine wpAnyH_take (i := 6) (v := .bool true) rfl (by kernel_rfl) (by kernel_rfl) (by kernel_rfl) (fun _ _ _ h => h) (Or.inl ⟨by kernel_rfl, ?_⟩) (by assumption) ?_
    · intro w' hSw
      have y0 := C0 _ hSw
      have y1 := C1 _ hSw
      have y2 := C2 _ hSw
      have y3 := C3 _ hSw
      have y4 := C4 _ hSw
      have y5 := C5 _ hSw
      have y6 := C6 _ hSw
      have y7 := C7 _ hSw
      have y8 := C8 _ hSw
      have y9 := C9 _ hSw
      have y10 := C10 _ hSw
      have y11 := C11 _ hSw
      go_simp
      try (with_reducible rfl)
    simp only [Act.put, List.getElem_toArray, List.getElem_cons_succ, List.getElem_cons_zero, List.setIfInBounds_toArray, List.set_cons_zero, List.set_cons_succ]
    refine wpAnyH_take (i := 7) (v := .bool true) rfl (by kernel_rfl) (by kernel_rfl) (by kernel_rfl) (fun _ _ _ h => h) (Or.inl ⟨by kernel_rfl, ?_⟩) (by assumption) ?_
    · intro w' hSw
      have y0 := C0 _ hSw
      have y1 := C1 _ hSw
      have y2 := C2 _ hSw
      have y3 := C3 _ hSw
      have y4 := C4 _ hSw
      have y5 := C5 _ hSw
      have y6 := C6 _ hSw
      have y7 := C7 _ hSw
      have y8 := C8 _ hSw
      have y9 := C9 _ hSw
      have y10 := C10 _ hSw
      have y11 := C11 _ hSw
      go_simp
      try (with_reducible rfl)
    simp only [Act.put, List.getElem_toArray, List.getElem_cons_succ, List.getElem_cons_zero, List.setIfInBounds_toArray, List.set_cons_zero, List.set_cons_succ]
    refine wpAnyH_take (i := 8) (v := ?_) rfl (by kernel_rfl) (by kernel_rfl) (by kernel_rfl) (fun _ _ _ h => h) (Or.inl ⟨by kernel_rfl, ?_⟩) (by assumption) ?_
    rotate_left
    · intro w' hSw
      have y0 := C0 _ hSw
      have y1 := C1 _ hSw
      have y2 := C2 _ hSw
      have y3 := C3 _ hSw
      have y4 := C4 _ hSw
      have y5 := C5 _ hSw
      have y6 := C6 _ hSw
      have y7 := C7 _ hSw
      have y8 := C8 _ hSw
      have y9 := C9 _ hSw
      have y10 := C10 _ hSw
      have y11 := C11 _ hSw
      go_simp
      try (with_reducible rfl)
    simp only [Act.put, List.getElem_toArray, List.getElem_cons_succ, List.getElem_cons_zero, List.setIfInBounds_toArray, List.set_cons_zero, List.set_cons_succ]
    refine wpAnyH_take (i := 9) (v := ?_) rfl (by kernel_rfl) (by kernel_rfl) (by kernel_rfl) (fun _ _ _ h => h) (Or.inl ⟨by kernel_rfl, ?_⟩) (by assumption) ?_
    rotate_left
    · intro w' hSw
      have y0 := C0 _ hSw
      have y1 := C1 _ hSw
      have y2 := C2 _ hSw
      have y3 := C3 _ hSw
      have y4 := C4 _ hSw
      have y5 := C5 _ hSw
      have y6 := C6 _ hSw
      have y7 := C7 _ hSw
      have y8 := C8 _ hSw
      have y9 := C9 _ hSw
      have y10 := C10 _ hSw
      have y11 := C11 _ hSw
      go_simp
      try (with_reducible rfl)
    simp only [Act.put, List.getElem_toArray, List.getElem_cons_succ, List.getElem_cons_zero, List.setIfInBounds_toArray, List.set_cons_zero, List.set_cons_succ]
    refine wpAnyH_take (i := 11) (v := ?_) rfl (by kernel_rfl) (by kernel_rfl) (by kernel_rfl) (fun _ _ _ h => h) (Or.inl ⟨by kernel_rfl, ?_⟩) (by assumption) ?_
    rotate_left
    · intro w' hSw
      have y0 := C0 _ hSw
      have y1 := C1 _ hSw
      have y2 := C2 _ hSw
      have y3 := C3 _ hSw
      have y4 := C4 _ hSw
      have y5 := C5 _ hSw
      have y6 := C6 _ hSw
      have y7 := C7 _ hSw
      have y8 := C8 _ hSw
      have y9 := C9 _ hSw
      have y10 := C10 _ hSw
      have y11 := C11 _ hSw
      go_simp
      try (with_reducible rfl)
    simp only [Act.put, List.getElem_toArray, List.getElem_cons_succ, List.getElem_cons_zero, List.setIfInBounds_toArray, List.set_cons_zero, List.set_cons_succ]
    refine wpAnyH_take (i := 12) (v := ?_) rfl (by kernel_rfl) (by kernel_rfl) (by kernel_rfl) (fun _ _ _ h => h) (Or.inl ⟨by kernel_rfl, ?_⟩) (by assumption) ?_
    rotate_left
    · intro w' hSw
      have y0 := C0 _ hSw
      have y1 := C1 _ hSw
      have y2 := C2 _ hSw
      have y3 := C3 _ hSw
      have y4 := C4 _ hSw
      have y5 := C5 _ hSw
      have y6 := C6 _ hSw
      have y7 := C7 _ hSw
      have y8 := C8 _ hSw
      have y9 := C9 _ hSw
      have y10 := C10 _ hSw
      have y11 := C11 _ hSw
      go_simp
      try (with_reducible rfl)
    simp only [Act.put, List.getElem_toArray, List.getElem_cons_succ, List.getElem_cons_zero, List.setIfInBounds_toArray, List.set_cons_zero, List.set_cons_succ]
    refine wpAnyH_ready (rs := [10]) (by kernel_rfl) (by simp) ?_
    refine AllReadyH.cons rfl (fun K hK => ?_) AllReadyH.nil
    go_simp
    refine (placeOf_any h r s has bl f _).mono ?_
    rintro e w3 ⟨rfl, b3⟩
    have hNext3 : Below w1.heap.size w1 w3 := Below.trans bw0 (b3.mono (Below.size bw0))
    refine hK.out _ _ hNext3 (fun _ => ?_)
    clear hK K
    try simp only [Act.put, List.getElem_toArray, List.getElem_cons_succ, List.getElem_cons_zero, List.setIfInBounds_toArray, List.set_cons_zero, List.set_cons_succ]
    refine wpAnyH_ready (rs := [13]) (by kernel_rfl) (by simp) ?_
    refine AllReadyH.cons rfl (fun K hK => ?_) AllReadyH.nil
    go_simp
    refine (placeOf_any h r s has2 bl2 f _).mono ?_
    rintro e w4 ⟨rfl, b4⟩
    have hNext4 : Below w1.heap.size w1 w4 := Below.trans hNext3 (b4.mono (Below.size hNext3))
    refine hK.out _ _ hNext4 (fun _ => ?_)
    clear hK K
    try simp only [Act.put, List.getElem_toArray, List.getElem_cons_succ, List.getElem_cons_zero, List.setIfInBounds_toArray, List.set_cons_zero, List.set_cons_succ]
    refine wpAnyH_take (i := 14) (v := .bool true) rfl (by kernel_rfl) (by kernel_rfl) (by kernel_rfl) (fun _ _ _ h => h) (Or.inl ⟨by kernel_rfl, ?_⟩) (by assumption) ?_
    · intro w' hSw
      have y0 := C0 _ hSw
      have y1 := C1 _ hSw
      have y2 := C2 _ hSw
      have y3 := C3 _ hSw
      have y4 := C4 _ hSw
      have y5 := C5 _ hSw
      have y6 := C6 _ hSw
      have y7 := C7 _ hSw
      have y8 := C8 _ hSw
      have y9 := C9 _ hSw
      have y10 := C10 _ hSw
      have y11 := C11 _ hSw
      go_simp
      try (with_reducible rfl)
    simp only [Act.put, List.getElem_toArray, List.getElem_cons_succ, List.getElem_cons_zero, List.setIfInBounds_toArray, List.set_cons_zero, List.set_cons_succ]
    refine wpAnyH_take (i := 15) (v := .bool true) rfl (by kernel_rfl) (by kernel_rfl) (by kernel_rfl) (fun _ _ _ h => h) (Or.inl ⟨by kernel_rfl, ?_⟩) (by assumption) ?_
    · intro w' hSw
      have y0 := C0 _ hSw
      have y1 := C1 _ hSw
      have y2 := C2 _ hSw
      have y3 := C3 _ hSw
      have y4 := C4 _ hSw
      have y5 := C5 _ hSw
      have y6 := C6 _ hSw
      have y7 := C7 _ hSw
      have y8 := C8 _ hSw
      have y9 := C9 _ hSw
      have y10 := C10 _ hSw
      have y11 := C11 _ hSw
      go_simp
      try (with_reducible rfl)
    simp only [Act.put, List.getElem_toArray, List.getElem_cons_succ, List.getElem_cons_zero, List.setIfInBounds_toArray, List.set_cons_zero, List.set_cons_succ]
    refine wpAnyH_take (i := 16) (v := .bool true) rfl (by kernel_rfl) (by kernel_rfl) (by kernel_rfl) (fun _ _ _ h => h) (Or.inl ⟨by kernel_rfl, ?_⟩) (by assumption) ?_
    · intro w' hSw
      have y0 := C0 _ hSw
      have y1 := C1 _ hSw
      have y2 := C2 _ hSw
      have y3 := C3 _ hSw
      have y4 := C4 _ hSw
      have y5 := C5 _ hSw
      have y6 := C6 _ hSw
      have y7 := C7 _ hSw
      have y8 := C8 _ hSw
      have y9 := C9 _ hSw
      have y10 := C10 _ hSw
      have y11 := C11 _ hSw
      go_simp
      try (with_reducible rfl)
    simp only [Act.put, List.getElem_toArray, List.getElem_cons_succ, List.getElem_cons_zero, List.setIfInBounds_toArray, List.set_cons_zero, List.set_cons_succ]
    refine wpAnyH_take (i := 17) (v := ?_) rfl (by kernel_rfl) (by kernel_rfl) (by kernel_rfl) (fun _ _ _ h => h) (Or.inl ⟨by kernel_rfl, ?_⟩) (by assumption) ?_
    rotate_left
    · intro w' hSw
      have y0 := C0 _ hSw
      have y1 := C1 _ hSw
      have y2 := C2 _ hSw
      have y3 := C3 _ hSw
      have y4 := C4 _ hSw
      have y5 := C5 _ hSw
      have y6 := C6 _ hSw
      have y7 := C7 _ hSw
      have y8 := C8 _ hSw
      have y9 := C9 _ hSw
      have y10 := C10 _ hSw
      have y11 := C11 _ hSw
      go_simp
      try (with_reducible rfl)
    simp only [Act.put, List.getElem_toArray, List.getElem_cons_succ, List.getElem_cons_zero, List.setIfInBounds_toArray, List.set_cons_zero, List.set_cons_succ]
    refine wpAnyH_take (i := 18) (v := ?_) rfl (by kernel_rfl) (by kernel_rfl) (by kernel_rfl) (fun _ _ _ h => h) (Or.inl ⟨by kernel_rfl, ?_⟩) (by assumption) ?_
    rotate_left
    · intro w' hSw
      have y0 := C0 _ hSw
      have y1 := C1 _ hSw
      have y2 := C2 _ hSw
      have y3 := C3 _ hSw
      have y4 := C4 _ hSw
      have y5 := C5 _ hSw
      have y6 := C6 _ hSw
      have y7 := C7 _ hSw
      have y8 := C8 _ hSw
      have y9 := C9 _ hSw
      have y10 := C10 _ hSw
      have y11 := C11 _ hSw
      go_simp
      try (with_reducible rfl)
    simp only [Act.put, List.getElem_toArray, List.getElem_cons_succ, List.getElem_cons_zero, List.setIfInBounds_toArray, List.set_cons_zero, List.set_cons_succ]
    refine wpAnyH_take (i := 19) (v := ?_) rfl (by kernel_rfl) (by kernel_rfl) (by kernel_rfl) (fun _ _ _ h => h) (Or.inl ⟨by kernel_rfl, ?_⟩) (by assumption) ?_
    rotate_left
    · intro w' hSw
      have y0 := C0 _ hSw
      have y1 := C1 _ hSw
      have y2 := C2 _ hSw
      have y3 := C3 _ hSw
      have y4 := C4 _ hSw
      have y5 := C5 _ hSw
      have y6 := C6 _ hSw
      have y7 := C7 _ hSw
      have y8 := C8 _ hSw
      have y9 := C9 _ hSw
      have y10 := C10 _ hSw
      have y11 := C11 _ hSw
      go_simp
      try (with_reducible rfl)
    simp only [Act.put, List.getElem_toArray, List.getElem_cons_succ, List.getElem_cons_zero, List.setIfInBounds_toArray, List.set_cons_zero, List.set_cons_succ]
    refine wpAnyH_take (i := 20) (v := ?_) rfl (by kernel_rfl) (by kernel_rfl) (by kernel_rfl) (fun _ _ _ h => h) (Or.inl ⟨by kernel_rfl, ?_⟩) (by assumption) ?_
    rotate_left
    · intro w' hSw
      have y0 := C0 _ hSw
      have y1 := C1 _ hSw
      have y2 := C2 _ hSw
      have y3 := C3 _ hSw
      have y4 := C4 _ hSw
      have y5 := C5 _ hSw
      have y6 := C6 _ hSw
      have y7 := C7 _ hSw
      have y8 := C8 _ hSw
      have y9 := C9 _ hSw
      have y10 := C10 _ hSw
      have y11 := C11 _ hSw
      go_simp
      try (with_reducible rfl)
    simp only [Act.put, List.getElem_toArray, List.getElem_cons_succ, List.getElem_cons_zero, List.setIfInBounds_toArray, List.set_cons_zero, List.set_cons_succ]
    refine wpAnyH_take (i := 21) (v := .bool true) rfl (by kernel_rfl) (by kernel_rfl) (by kernel_rfl) (fun _ _ _ h => h) (Or.inl ⟨by kernel_rfl, ?_⟩) (by assumption) ?_
    · intro w' hSw
      have y0 := C0 _ hSw
      have y1 := C1 _ hSw
      have y2 := C2 _ hSw
      have y3 := C3 _ hSw
      have y4 := C4 _ hSw
      have y5 := C5 _ hSw
      have y6 := C6 _ hSw
      have y7 := C7 _ hSw
      have y8 := C8 _ hSw
      have y9 := C9 _ hSw
      have y10 := C10 _ hSw
      have y11 := C11 _ hSw
      go_simp
      try (with_reducible rfl)
    simp only [Act.put, List.getElem_toArray, List.getElem_cons_succ, List.getElem_cons_zero, List.setIfInBounds_toArray, List.set_cons_zero, List.set_cons_succ]
    refine wpAnyH_take (i := 22) (v := .bool true) rfl (by kernel_rfl) (by kernel_rfl) (by kernel_rfl) (fun _ _ _ h => h) (Or.inl ⟨by kernel_rfl, ?_⟩) (by assumption) ?_
    · intro w' hSw
      have y0 := C0 _ hSw
      have y1 := C1 _ hSw
      have y2 := C2 _ hSw
      have y3 := C3 _ hSw
      have y4 := C4 _ hSw
      have y5 := C5 _ hSw
      have y6 := C6 _ hSw
      have y7 := C7 _ hSw
      have y8 := C8 _ hSw
      have y9 := C9 _ hSw
      have y10 := C10 _ hSw
      have y11 := C11 _ hSw
      go_simp
      try (with_reducible rfl)
    simp only [Act.put, List.getElem_toArray, List.getElem_cons_succ, List.getElem_cons_zero, List.setIfInBounds_toArray, List.set_cons_zero, List.set_cons_succ]
    refine wpAnyH_ready (rs := [23]) (by kernel_rfl) (by simp) ?_
    refine AllReadyH.cons rfl (fun K hK => ?_) AllReadyH.nil
    go_simp
    refine hK.out _ _ (by assumption) (fun _ => ?_)
    clear hK K
    try simp only [Act.put, List.getElem_toArray, List.getElem_cons_succ, List.getElem_cons_zero, List.setIfInBounds_toArray, List.set_cons_zero, List.set_cons_succ]
    refine wpAnyH_done (by kernel_rfl) ?_ _
    go_wp2
    go_ret
    exact ⟨by rw [HF.out]; rfl, B1.trans (hNext4.mono B1.size)⟩

end Go.Proofs.Ytomkiglagpfnoaa
