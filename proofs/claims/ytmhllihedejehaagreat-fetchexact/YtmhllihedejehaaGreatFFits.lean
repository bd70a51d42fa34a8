/- Has a node the digest that is wanted? -/
import Derived.Test.YtmhllihedejehaaGreatFMay
import Derived.Deep.RegionHeld3
namespace Go.Proofs.YtmhllihedejehaaGreat
open Go.RowKit
set_option linter.unusedVariables false
set_option linter.unusedSimpArgs false

/-- It fits. -/
def fitsN (wd : Int) (top : Bool) (d k : Int) (key val : Key) (pos l r : Int) : Bool :=
  if top = true then wholeP wd k (str key) (str val) pos l r == d else (k != 0) && (overP wd k (str key) (str val) pos l r == d)
theorem bel_in {a w w2 : World} (h : Below a.heap.size a w) (h2 : Below w.heap.size w w2) : Below a.heap.size a w2 := h.trans (h2.mono h.size)

set_option maxRecDepth 8000 in
set_option maxHeartbeats 3200000 in
theorem fits_any (fb b : Nat) (wd d : Int) (up : Option Addr) (c1 c2 c3 c4 c5 s0 s1 : Value) (k : Int) (key val : Key) (pos l r : Int) (w : World) (hw : okW wd) (hk : key.length ≤ maxLen) (hv : val.length ≤ maxLen) (hl : 0 ≤ l ∧ l ≤ 18446744073709551615) (hr : 0 ≤ r ∧ r ≤ 18446744073709551615)
    (hf : Blk w fb #[.int .i64 wd, c1, c2, c3, c4, c5] 74) (hp : Blk w b #[.int .u64 d, .pointer up, s0, s1] 71) :
    Calls Tryz.prog 32 #[.pointer (some ⟨fb, 0, none⟩), .pointer (some ⟨b, 0, none⟩), .agg #[.int .i64 k, .string (str key), .string (str val), .int .i64 pos, .int .u64 l, .int .u64 r]] w fun e w' => e = .returned (.bool (fitsN wd up.isNone d k key val pos l r)) ∧ Below w.heap.size w w' := by
  have z1 : (str key).size ≤ maxLen := by rw [str_size]; exact hk
  have z2 : (str val).size ≤ maxLen := by rw [str_size]; exact hv
  have bA : Below w.heap.size w (w.alloc (.cells #[.int .i64 k, .string (str key), .string (str val), .int .i64 pos, .int .u64 l, .int .u64 r] 28)) := (Below.refl _ _).alloc (Nat.le_refl _) _
  have hf' := hf.alloc (.cells #[.int .i64 k, .string (str key), .string (str val), .int .i64 pos, .int .u64 l, .int .u64 r] 28)
  have hp' := hp.alloc (.cells #[.int .i64 k, .string (str key), .string (str val), .int .i64 pos, .int .u64 l, .int .u64 r] 28)
  have kn := Blk.new w #[.int .i64 k, .string (str key), .string (str val), .int .i64 pos, .int .u64 l, .int .u64 r] 28
  have u1 := (hp'.cell 1).trans rfl
  have zp := hp'.lt
  have zw : w.heap.size < (w.alloc (.cells #[.int .i64 k, .string (str key), .string (str val), .int .i64 pos, .int .u64 l, .int .u64 r] 28)).heap.size := by simp
  clear hf hp
  go_enter Tryz.func32, Tryz.ntmps32
  go_upto_region 1 with fail
  generalize w.alloc (.cells #[.int .i64 k, .string (str key), .string (str val), .int .i64 pos, .int .u64 l, .int .u64 r] 28) = wB at *
  have F0 : ∀ w', Below wB.heap.size wB w' → w'.cell? ⟨fb, 0, none⟩ = some (.int .i64 wd) := fun w' h => ((hf'.below h hf'.lt).cell 0).trans rfl
  have P0 : ∀ w', Below wB.heap.size wB w' → w'.cell? ⟨b, 0, none⟩ = some (.int .u64 d) := fun w' h => ((hp'.below h hp'.lt).cell 0).trans rfl
  have N0 : ∀ w', Below wB.heap.size wB w' → w'.cell? ⟨w.heap.size, 0, none⟩ = some (.int .i64 k) := fun w' h => ((kn.below h kn.lt).cell 0).trans rfl
  have N1 : ∀ w', Below wB.heap.size wB w' → w'.cell? ⟨w.heap.size, 1, none⟩ = some (.string (str key)) := fun w' h => ((kn.below h kn.lt).cell 1).trans rfl
  have N2 : ∀ w', Below wB.heap.size wB w' → w'.cell? ⟨w.heap.size, 2, none⟩ = some (.string (str val)) := fun w' h => ((kn.below h kn.lt).cell 2).trans rfl
  have N3 : ∀ w', Below wB.heap.size wB w' → w'.cell? ⟨w.heap.size, 3, none⟩ = some (.int .i64 pos) := fun w' h => ((kn.below h kn.lt).cell 3).trans rfl
  have N4 : ∀ w', Below wB.heap.size wB w' → w'.cell? ⟨w.heap.size, 4, none⟩ = some (.int .u64 l) := fun w' h => ((kn.below h kn.lt).cell 4).trans rfl
  have N5 : ∀ w', Below wB.heap.size wB w' → w'.cell? ⟨w.heap.size, 5, none⟩ = some (.int .u64 r) := fun w' h => ((kn.below h kn.lt).cell 5).trans rfl
  have KT := fun w' => top_any wd k (str key) (str val) pos l r w' hw z1 z2 hl hr
  have KO := fun w' => over_any wd k (str key) (str val) pos l r w' hw z1 z2 hl hr
  have bw : Below wB.heap.size wB wB := Below.refl _ _
  have bd : Below wB.heap.size wB wB.drew := (Below.refl _ _).drew
  clear hf' hp' kn
  cases up with
  | none =>
    go_upto_region 2 with fail
    go_region_held3 (fun w' => Below wB.heap.size wB w') (first | assumption | (refine Below.drew ?_; assumption))
      (first
      | (go_at_call 57
         refine (KT _).mono ?_
         rintro e w3 ⟨rfl, b3⟩
         have hNext : Below wB.heap.size wB w3 := bel_in (by assumption) b3))
    all_goals (
      go_wp2
      go_ret
      exact ⟨rfl, bA.trans (hNext.mono bA.size)⟩)
  | some x =>
    by_cases hk0 : k = 0
    · subst hk0
      go_upto_region 3 with fail
      refine wp_region_held (S := fun w' => Below wB.heap.size wB w') (by kernel_rfl) ?_
      refine wpAnyH_take (i := 0) (v := ?_) rfl (by kernel_rfl) (by kernel_rfl) (by kernel_rfl) (fun _ _ _ h => h) (Or.inl ⟨by kernel_rfl, ?_⟩) (by assumption) ?_
      rotate_left
      · intro w' hSw
        have y_F0 := F0 _ hSw
        have y_P0 := P0 _ hSw
        have y_N0 := N0 _ hSw
        have y_N1 := N1 _ hSw
        have y_N2 := N2 _ hSw
        have y_N3 := N3 _ hSw
        have y_N4 := N4 _ hSw
        have y_N5 := N5 _ hSw
        go_simp
        try (with_reducible rfl)
      simp only [Act.put, List.getElem_toArray, List.getElem_cons_succ, List.getElem_cons_zero, List.setIfInBounds_toArray, List.set_cons_zero, List.set_cons_succ]
      refine wpAnyH_take (i := 1) (v := ?_) rfl (by kernel_rfl) (by kernel_rfl) (by kernel_rfl) (fun _ _ _ h => h) (Or.inl ⟨by kernel_rfl, ?_⟩) (by assumption) ?_
      rotate_left
      · intro w' hSw
        have y_F0 := F0 _ hSw
        have y_P0 := P0 _ hSw
        have y_N0 := N0 _ hSw
        have y_N1 := N1 _ hSw
        have y_N2 := N2 _ hSw
        have y_N3 := N3 _ hSw
        have y_N4 := N4 _ hSw
        have y_N5 := N5 _ hSw
        go_simp
        try (with_reducible rfl)
      simp only [Act.put, List.getElem_toArray, List.getElem_cons_succ, List.getElem_cons_zero, List.setIfInBounds_toArray, List.set_cons_zero, List.set_cons_succ]
      refine wpAnyH_take (i := 2) (v := .bool false) rfl (by kernel_rfl) (by kernel_rfl) (by kernel_rfl) (fun _ _ _ h => h) (Or.inl ⟨by kernel_rfl, ?_⟩) (by assumption) ?_
      · intro w' hSw
        have y_F0 := F0 _ hSw
        have y_P0 := P0 _ hSw
        have y_N0 := N0 _ hSw
        have y_N1 := N1 _ hSw
        have y_N2 := N2 _ hSw
        have y_N3 := N3 _ hSw
        have y_N4 := N4 _ hSw
        have y_N5 := N5 _ hSw
        go_simp
        try (with_reducible rfl)
      simp only [Act.put, List.getElem_toArray, List.getElem_cons_succ, List.getElem_cons_zero, List.setIfInBounds_toArray, List.set_cons_zero, List.set_cons_succ]
      refine wpAnyH_take (i := 3) (v := .bool false) rfl (by kernel_rfl) (by kernel_rfl) (by kernel_rfl) (fun _ _ _ h => h) (Or.inl ⟨by kernel_rfl, ?_⟩) (by assumption) ?_
      · intro w' hSw
        have y_F0 := F0 _ hSw
        have y_P0 := P0 _ hSw
        have y_N0 := N0 _ hSw
        have y_N1 := N1 _ hSw
        have y_N2 := N2 _ hSw
        have y_N3 := N3 _ hSw
        have y_N4 := N4 _ hSw
        have y_N5 := N5 _ hSw
        go_simp
        try (with_reducible rfl)
      simp only [Act.put, List.getElem_toArray, List.getElem_cons_succ, List.getElem_cons_zero, List.setIfInBounds_toArray, List.set_cons_zero, List.set_cons_succ]
      refine wpAnyH_take (i := 4) (v := undef) rfl (by kernel_rfl) (by kernel_rfl) (by kernel_rfl) (fun _ _ _ h => h) (Or.inr ⟨by kernel_rfl, rfl⟩) (by assumption) ?_
      simp only [Act.put, List.getElem_toArray, List.getElem_cons_succ, List.getElem_cons_zero, List.setIfInBounds_toArray, List.set_cons_zero, List.set_cons_succ]
      refine wpAnyH_take (i := 5) (v := undef) rfl (by kernel_rfl) (by kernel_rfl) (by kernel_rfl) (fun _ _ _ h => h) (Or.inr ⟨by kernel_rfl, rfl⟩) (by assumption) ?_
      simp only [Act.put, List.getElem_toArray, List.getElem_cons_succ, List.getElem_cons_zero, List.setIfInBounds_toArray, List.set_cons_zero, List.set_cons_succ]
      refine wpAnyH_take (i := 6) (v := undef) rfl (by kernel_rfl) (by kernel_rfl) (by kernel_rfl) (fun _ _ _ h => h) (Or.inr ⟨by kernel_rfl, rfl⟩) (by assumption) ?_
      simp only [Act.put, List.getElem_toArray, List.getElem_cons_succ, List.getElem_cons_zero, List.setIfInBounds_toArray, List.set_cons_zero, List.set_cons_succ]
      refine wpAnyH_take (i := 7) (v := undef) rfl (by kernel_rfl) (by kernel_rfl) (by kernel_rfl) (fun _ _ _ h => h) (Or.inr ⟨by kernel_rfl, rfl⟩) (by assumption) ?_
      simp only [Act.put, List.getElem_toArray, List.getElem_cons_succ, List.getElem_cons_zero, List.setIfInBounds_toArray, List.set_cons_zero, List.set_cons_succ]
      refine wpAnyH_take (i := 8) (v := undef) rfl (by kernel_rfl) (by kernel_rfl) (by kernel_rfl) (fun _ _ _ h => h) (Or.inr ⟨by kernel_rfl, rfl⟩) (by assumption) ?_
      simp only [Act.put, List.getElem_toArray, List.getElem_cons_succ, List.getElem_cons_zero, List.setIfInBounds_toArray, List.set_cons_zero, List.set_cons_succ]
      refine wpAnyH_take (i := 10) (v := undef) rfl (by kernel_rfl) (by kernel_rfl) (by kernel_rfl) (fun _ _ _ h => h) (Or.inr ⟨by kernel_rfl, rfl⟩) (by assumption) ?_
      simp only [Act.put, List.getElem_toArray, List.getElem_cons_succ, List.getElem_cons_zero, List.setIfInBounds_toArray, List.set_cons_zero, List.set_cons_succ]
      refine wpAnyH_take (i := 11) (v := undef) rfl (by kernel_rfl) (by kernel_rfl) (by kernel_rfl) (fun _ _ _ h => h) (Or.inr ⟨by kernel_rfl, rfl⟩) (by assumption) ?_
      simp only [Act.put, List.getElem_toArray, List.getElem_cons_succ, List.getElem_cons_zero, List.setIfInBounds_toArray, List.set_cons_zero, List.set_cons_succ]
      refine wpAnyH_take (i := 12) (v := undef) rfl (by kernel_rfl) (by kernel_rfl) (by kernel_rfl) (fun _ _ _ h => h) (Or.inr ⟨by kernel_rfl, rfl⟩) (by assumption) ?_
      simp only [Act.put, List.getElem_toArray, List.getElem_cons_succ, List.getElem_cons_zero, List.setIfInBounds_toArray, List.set_cons_zero, List.set_cons_succ]
      refine wpAnyH_take (i := 13) (v := undef) rfl (by kernel_rfl) (by kernel_rfl) (by kernel_rfl) (fun _ _ _ h => h) (Or.inr ⟨by kernel_rfl, rfl⟩) (by assumption) ?_
      simp only [Act.put, List.getElem_toArray, List.getElem_cons_succ, List.getElem_cons_zero, List.setIfInBounds_toArray, List.set_cons_zero, List.set_cons_succ]
      refine wpAnyH_ready (rs := [9]) (by kernel_rfl) (by simp) ?_
      refine AllReadyH.cons rfl (fun K hK => ?_) AllReadyH.nil
      go_simp
      refine hK.out _ _ (by assumption) (fun _ => ?_)
      clear hK K
      try simp only [Act.put, List.getElem_toArray, List.getElem_cons_succ, List.getElem_cons_zero, List.setIfInBounds_toArray, List.set_cons_zero, List.set_cons_succ]
      refine wpAnyH_take (i := 14) (v := undef) rfl (by kernel_rfl) (by kernel_rfl) (by kernel_rfl) (fun _ _ _ h => h) (Or.inr ⟨by kernel_rfl, rfl⟩) (by assumption) ?_
      simp only [Act.put, List.getElem_toArray, List.getElem_cons_succ, List.getElem_cons_zero, List.setIfInBounds_toArray, List.set_cons_zero, List.set_cons_succ]
      refine wpAnyH_take (i := 15) (v := .bool false) rfl (by kernel_rfl) (by kernel_rfl) (by kernel_rfl) (fun _ _ _ h => h) (Or.inl ⟨by kernel_rfl, ?_⟩) (by assumption) ?_
      · intro w' hSw
        have y_F0 := F0 _ hSw
        have y_P0 := P0 _ hSw
        have y_N0 := N0 _ hSw
        have y_N1 := N1 _ hSw
        have y_N2 := N2 _ hSw
        have y_N3 := N3 _ hSw
        have y_N4 := N4 _ hSw
        have y_N5 := N5 _ hSw
        go_simp
        try (with_reducible rfl)
      simp only [Act.put, List.getElem_toArray, List.getElem_cons_succ, List.getElem_cons_zero, List.setIfInBounds_toArray, List.set_cons_zero, List.set_cons_succ]
      refine wpAnyH_ready (rs := [16]) (by kernel_rfl) (by simp) ?_
      refine AllReadyH.cons rfl (fun K hK => ?_) AllReadyH.nil
      go_simp
      refine hK.out _ _ (by assumption) (fun _ => ?_)
      clear hK K
      try simp only [Act.put, List.getElem_toArray, List.getElem_cons_succ, List.getElem_cons_zero, List.setIfInBounds_toArray, List.set_cons_zero, List.set_cons_succ]
      refine wpAnyH_done (by kernel_rfl) ?_ _
      go_wp2
      go_ret
      exact ⟨rfl, bA.drew⟩
    · have hk1 : (k != 0) = true := by simpa using hk0
      go_upto_region 3 with fail
      refine wp_region_held (S := fun w' => Below wB.heap.size wB w') (by kernel_rfl) ?_
      refine wpAnyH_take (i := 0) (v := ?_) rfl (by kernel_rfl) (by kernel_rfl) (by kernel_rfl) (fun _ _ _ h => h) (Or.inl ⟨by kernel_rfl, ?_⟩) (by assumption) ?_
      rotate_left
      · intro w' hSw
        have y_F0 := F0 _ hSw
        have y_P0 := P0 _ hSw
        have y_N0 := N0 _ hSw
        have y_N1 := N1 _ hSw
        have y_N2 := N2 _ hSw
        have y_N3 := N3 _ hSw
        have y_N4 := N4 _ hSw
        have y_N5 := N5 _ hSw
        go_simp
        try (with_reducible rfl)
      simp only [Act.put, List.getElem_toArray, List.getElem_cons_succ, List.getElem_cons_zero, List.setIfInBounds_toArray, List.set_cons_zero, List.set_cons_succ]
      refine wpAnyH_take (i := 1) (v := ?_) rfl (by kernel_rfl) (by kernel_rfl) (by kernel_rfl) (fun _ _ _ h => h) (Or.inl ⟨by kernel_rfl, ?_⟩) (by assumption) ?_
      rotate_left
      · intro w' hSw
        have y_F0 := F0 _ hSw
        have y_P0 := P0 _ hSw
        have y_N0 := N0 _ hSw
        have y_N1 := N1 _ hSw
        have y_N2 := N2 _ hSw
        have y_N3 := N3 _ hSw
        have y_N4 := N4 _ hSw
        have y_N5 := N5 _ hSw
        go_simp
        try (with_reducible rfl)
      simp only [Act.put, List.getElem_toArray, List.getElem_cons_succ, List.getElem_cons_zero, List.setIfInBounds_toArray, List.set_cons_zero, List.set_cons_succ]
      refine wpAnyH_take (i := 2) (v := .bool true) rfl (by kernel_rfl) (by kernel_rfl) (by kernel_rfl) (fun _ _ _ h => h) (Or.inl ⟨by kernel_rfl, ?_⟩) (by assumption) ?_
      · intro w' hSw
        have y_F0 := F0 _ hSw
        have y_P0 := P0 _ hSw
        have y_N0 := N0 _ hSw
        have y_N1 := N1 _ hSw
        have y_N2 := N2 _ hSw
        have y_N3 := N3 _ hSw
        have y_N4 := N4 _ hSw
        have y_N5 := N5 _ hSw
        go_simp
        try (with_reducible rfl)
      simp only [Act.put, List.getElem_toArray, List.getElem_cons_succ, List.getElem_cons_zero, List.setIfInBounds_toArray, List.set_cons_zero, List.set_cons_succ]
      refine wpAnyH_take (i := 3) (v := .bool true) rfl (by kernel_rfl) (by kernel_rfl) (by kernel_rfl) (fun _ _ _ h => h) (Or.inl ⟨by kernel_rfl, ?_⟩) (by assumption) ?_
      · intro w' hSw
        have y_F0 := F0 _ hSw
        have y_P0 := P0 _ hSw
        have y_N0 := N0 _ hSw
        have y_N1 := N1 _ hSw
        have y_N2 := N2 _ hSw
        have y_N3 := N3 _ hSw
        have y_N4 := N4 _ hSw
        have y_N5 := N5 _ hSw
        go_simp
        try (with_reducible rfl)
      simp only [Act.put, List.getElem_toArray, List.getElem_cons_succ, List.getElem_cons_zero, List.setIfInBounds_toArray, List.set_cons_zero, List.set_cons_succ]
      refine wpAnyH_take (i := 4) (v := ?_) rfl (by kernel_rfl) (by kernel_rfl) (by kernel_rfl) (fun _ _ _ h => h) (Or.inl ⟨by kernel_rfl, ?_⟩) (by assumption) ?_
      rotate_left
      · intro w' hSw
        have y_F0 := F0 _ hSw
        have y_P0 := P0 _ hSw
        have y_N0 := N0 _ hSw
        have y_N1 := N1 _ hSw
        have y_N2 := N2 _ hSw
        have y_N3 := N3 _ hSw
        have y_N4 := N4 _ hSw
        have y_N5 := N5 _ hSw
        go_simp
        try (with_reducible rfl)
      simp only [Act.put, List.getElem_toArray, List.getElem_cons_succ, List.getElem_cons_zero, List.setIfInBounds_toArray, List.set_cons_zero, List.set_cons_succ]
      refine wpAnyH_take (i := 5) (v := ?_) rfl (by kernel_rfl) (by kernel_rfl) (by kernel_rfl) (fun _ _ _ h => h) (Or.inl ⟨by kernel_rfl, ?_⟩) (by assumption) ?_
      rotate_left
      · intro w' hSw
        have y_F0 := F0 _ hSw
        have y_P0 := P0 _ hSw
        have y_N0 := N0 _ hSw
        have y_N1 := N1 _ hSw
        have y_N2 := N2 _ hSw
        have y_N3 := N3 _ hSw
        have y_N4 := N4 _ hSw
        have y_N5 := N5 _ hSw
        go_simp
        try (with_reducible rfl)
      simp only [Act.put, List.getElem_toArray, List.getElem_cons_succ, List.getElem_cons_zero, List.setIfInBounds_toArray, List.set_cons_zero, List.set_cons_succ]
      refine wpAnyH_take (i := 6) (v := ?_) rfl (by kernel_rfl) (by kernel_rfl) (by kernel_rfl) (fun _ _ _ h => h) (Or.inl ⟨by kernel_rfl, ?_⟩) (by assumption) ?_
      rotate_left
      · intro w' hSw
        have y_F0 := F0 _ hSw
        have y_P0 := P0 _ hSw
        have y_N0 := N0 _ hSw
        have y_N1 := N1 _ hSw
        have y_N2 := N2 _ hSw
        have y_N3 := N3 _ hSw
        have y_N4 := N4 _ hSw
        have y_N5 := N5 _ hSw
        go_simp
        try (with_reducible rfl)
      simp only [Act.put, List.getElem_toArray, List.getElem_cons_succ, List.getElem_cons_zero, List.setIfInBounds_toArray, List.set_cons_zero, List.set_cons_succ]
      refine wpAnyH_take (i := 7) (v := ?_) rfl (by kernel_rfl) (by kernel_rfl) (by kernel_rfl) (fun _ _ _ h => h) (Or.inl ⟨by kernel_rfl, ?_⟩) (by assumption) ?_
      rotate_left
      · intro w' hSw
        have y_F0 := F0 _ hSw
        have y_P0 := P0 _ hSw
        have y_N0 := N0 _ hSw
        have y_N1 := N1 _ hSw
        have y_N2 := N2 _ hSw
        have y_N3 := N3 _ hSw
        have y_N4 := N4 _ hSw
        have y_N5 := N5 _ hSw
        go_simp
        try (with_reducible rfl)
      simp only [Act.put, List.getElem_toArray, List.getElem_cons_succ, List.getElem_cons_zero, List.setIfInBounds_toArray, List.set_cons_zero, List.set_cons_succ]
      refine wpAnyH_take (i := 8) (v := ?_) rfl (by kernel_rfl) (by kernel_rfl) (by kernel_rfl) (fun _ _ _ h => h) (Or.inl ⟨by kernel_rfl, ?_⟩) (by assumption) ?_
      rotate_left
      · intro w' hSw
        have y_F0 := F0 _ hSw
        have y_P0 := P0 _ hSw
        have y_N0 := N0 _ hSw
        have y_N1 := N1 _ hSw
        have y_N2 := N2 _ hSw
        have y_N3 := N3 _ hSw
        have y_N4 := N4 _ hSw
        have y_N5 := N5 _ hSw
        go_simp
        try (with_reducible rfl)
      simp only [Act.put, List.getElem_toArray, List.getElem_cons_succ, List.getElem_cons_zero, List.setIfInBounds_toArray, List.set_cons_zero, List.set_cons_succ]
      refine wpAnyH_take (i := 10) (v := ?_) rfl (by kernel_rfl) (by kernel_rfl) (by kernel_rfl) (fun _ _ _ h => h) (Or.inl ⟨by kernel_rfl, ?_⟩) (by assumption) ?_
      rotate_left
      · intro w' hSw
        have y_F0 := F0 _ hSw
        have y_P0 := P0 _ hSw
        have y_N0 := N0 _ hSw
        have y_N1 := N1 _ hSw
        have y_N2 := N2 _ hSw
        have y_N3 := N3 _ hSw
        have y_N4 := N4 _ hSw
        have y_N5 := N5 _ hSw
        go_simp
        try (with_reducible rfl)
      simp only [Act.put, List.getElem_toArray, List.getElem_cons_succ, List.getElem_cons_zero, List.setIfInBounds_toArray, List.set_cons_zero, List.set_cons_succ]
      refine wpAnyH_take (i := 11) (v := ?_) rfl (by kernel_rfl) (by kernel_rfl) (by kernel_rfl) (fun _ _ _ h => h) (Or.inl ⟨by kernel_rfl, ?_⟩) (by assumption) ?_
      rotate_left
      · intro w' hSw
        have y_F0 := F0 _ hSw
        have y_P0 := P0 _ hSw
        have y_N0 := N0 _ hSw
        have y_N1 := N1 _ hSw
        have y_N2 := N2 _ hSw
        have y_N3 := N3 _ hSw
        have y_N4 := N4 _ hSw
        have y_N5 := N5 _ hSw
        go_simp
        try (with_reducible rfl)
      simp only [Act.put, List.getElem_toArray, List.getElem_cons_succ, List.getElem_cons_zero, List.setIfInBounds_toArray, List.set_cons_zero, List.set_cons_succ]
      refine wpAnyH_take (i := 12) (v := ?_) rfl (by kernel_rfl) (by kernel_rfl) (by kernel_rfl) (fun _ _ _ h => h) (Or.inl ⟨by kernel_rfl, ?_⟩) (by assumption) ?_
      rotate_left
      · intro w' hSw
        have y_F0 := F0 _ hSw
        have y_P0 := P0 _ hSw
        have y_N0 := N0 _ hSw
        have y_N1 := N1 _ hSw
        have y_N2 := N2 _ hSw
        have y_N3 := N3 _ hSw
        have y_N4 := N4 _ hSw
        have y_N5 := N5 _ hSw
        go_simp
        try (with_reducible rfl)
      simp only [Act.put, List.getElem_toArray, List.getElem_cons_succ, List.getElem_cons_zero, List.setIfInBounds_toArray, List.set_cons_zero, List.set_cons_succ]
      refine wpAnyH_take (i := 13) (v := ?_) rfl (by kernel_rfl) (by kernel_rfl) (by kernel_rfl) (fun _ _ _ h => h) (Or.inl ⟨by kernel_rfl, ?_⟩) (by assumption) ?_
      rotate_left
      · intro w' hSw
        have y_F0 := F0 _ hSw
        have y_P0 := P0 _ hSw
        have y_N0 := N0 _ hSw
        have y_N1 := N1 _ hSw
        have y_N2 := N2 _ hSw
        have y_N3 := N3 _ hSw
        have y_N4 := N4 _ hSw
        have y_N5 := N5 _ hSw
        go_simp
        try (with_reducible rfl)
      simp only [Act.put, List.getElem_toArray, List.getElem_cons_succ, List.getElem_cons_zero, List.setIfInBounds_toArray, List.set_cons_zero, List.set_cons_succ]
      refine wpAnyH_ready (rs := [9]) (by kernel_rfl) (by simp) ?_
      refine AllReadyH.cons rfl (fun K hK => ?_) AllReadyH.nil
      go_simp
      refine (KO _).mono ?_
      rintro e w3 ⟨rfl, b3⟩
      have hNext : Below wB.heap.size wB w3 := bel_in bd b3
      refine hK.out _ _ (hNext) (fun _ => ?_)
      clear hK K
      try simp only [Act.put, List.getElem_toArray, List.getElem_cons_succ, List.getElem_cons_zero, List.setIfInBounds_toArray, List.set_cons_zero, List.set_cons_succ]
      refine wpAnyH_take (i := 14) (v := ?_) rfl (by kernel_rfl) (by kernel_rfl) (by kernel_rfl) (fun _ _ _ h => h) (Or.inl ⟨by kernel_rfl, ?_⟩) (by assumption) ?_
      rotate_left
      · intro w' hSw
        have y_F0 := F0 _ hSw
        have y_P0 := P0 _ hSw
        have y_N0 := N0 _ hSw
        have y_N1 := N1 _ hSw
        have y_N2 := N2 _ hSw
        have y_N3 := N3 _ hSw
        have y_N4 := N4 _ hSw
        have y_N5 := N5 _ hSw
        go_simp
        try (with_reducible rfl)
      simp only [Act.put, List.getElem_toArray, List.getElem_cons_succ, List.getElem_cons_zero, List.setIfInBounds_toArray, List.set_cons_zero, List.set_cons_succ]
      refine wpAnyH_take (i := 15) (v := ?_) rfl (by kernel_rfl) (by kernel_rfl) (by kernel_rfl) (fun _ _ _ h => h) (Or.inl ⟨by kernel_rfl, ?_⟩) (by assumption) ?_
      rotate_left
      · intro w' hSw
        have y_F0 := F0 _ hSw
        have y_P0 := P0 _ hSw
        have y_N0 := N0 _ hSw
        have y_N1 := N1 _ hSw
        have y_N2 := N2 _ hSw
        have y_N3 := N3 _ hSw
        have y_N4 := N4 _ hSw
        have y_N5 := N5 _ hSw
        go_simp
        try (with_reducible rfl)
      simp only [Act.put, List.getElem_toArray, List.getElem_cons_succ, List.getElem_cons_zero, List.setIfInBounds_toArray, List.set_cons_zero, List.set_cons_succ]
      refine wpAnyH_ready (rs := [16]) (by kernel_rfl) (by simp) ?_
      refine AllReadyH.cons rfl (fun K hK => ?_) AllReadyH.nil
      go_simp
      refine hK.out _ _ (hNext) (fun _ => ?_)
      clear hK K
      try simp only [Act.put, List.getElem_toArray, List.getElem_cons_succ, List.getElem_cons_zero, List.setIfInBounds_toArray, List.set_cons_zero, List.set_cons_succ]
      refine wpAnyH_done (by kernel_rfl) ?_ _
      go_wp2
      go_ret
      exact ⟨by simp [fitsN, hk1], bA.trans (hNext.mono bA.size)⟩
end Go.Proofs.YtmhllihedejehaaGreat
