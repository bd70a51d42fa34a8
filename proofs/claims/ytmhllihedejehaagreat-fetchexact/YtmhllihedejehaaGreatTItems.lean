/- Items of all keys, of a tree that is not empty. -/
import Derived.RangeFuncNested
import Derived.RangeFuncWrites
import Derived.RangeFuncBox
import Derived.Maps.AppendAt
import Derived.Test.YtmhllihedejehaaGreatM43
import Derived.Test.YtmhllihedejehaaGreatTRPut2
namespace Go.Proofs.YtmhllihedejehaaGreat
open Go.RowKit Go.Shelf
attribute [local go_sem] Oper.semAt_some
set_option linter.unusedVariables false
set_option linter.unusedSimpArgs false

/-- The items that leaves bear. -/
def its {wd : Int} {w0 : World} (l : List (Lf wd w0)) : List (Key × Key) := l.map fun x => x.1.2

set_option maxRecDepth 100000 in
set_option maxHeartbeats 2000000 in
theorem items_some (wd : Int) (b : Nat) (t : Tr) (w : World) (h : NodeAt wd w b t) (hn : t.items.length ≤ 100000) (hk : ∀ x ∈ t.items, x.1.length ≤ 4096) :
    Calls Tryz.prog 20 #[.agg #[.int .i64 wd, .pointer (some ⟨b, 0, none⟩)], .string (str []), .int .i64 (-1)] w fun e W' => ∃ v, e = .returned v ∧ W'.ownsRow (w.heap.size + 3) 64 2 v t.items.length (flat t.items) ∧ Below w.heap.size w W' := by
  obtain ⟨xs, hx, ex⟩ := leaves_of wd w t b h
  obtain ⟨i0, hi, hz0, hz1, hz2⟩ := info_parts infoItem
  have hxl : xs.length = t.items.length := by rw [← ex]; simp
  refine (callsIn_wide (n := 5)).1 ?_
  refine callsIn_of_wp_marks Tryz.func20 rfl trivial ?_ rfl
  simp only [Tryz.ntmps20, List.size_toArray, List.length_cons, List.length_nil, Nat.reduceAdd, Nat.reduceSub, Array.replicate_succ, Array.replicate_zero, List.push_toArray, List.append_toArray, List.nil_append, List.cons_append]
  have hfm : Tryz.prog.follows .mixedOrders = true := by kernel_rfl
  have hdd : ∀ k : Nat, (Fence.wide.depth.isSome = true → 1 ≤ k) := fun k h => by cases h
  obtain ⟨wB, HwB⟩ : ∃ x, Hid (x = ((w.alloc (.cells #[.int .i64 wd, .pointer (some ⟨b, 0, none⟩)] 34)).alloc (.cells #[.string (str [])] 9)).alloc (.cells #[.int .i64 (-1)] 3)) := ⟨_, rfl⟩
  have bB : Below w.heap.size w wB := by rw [HwB.out]; exact (((Below.refl _ _).alloc (Nat.le_refl _) _).alloc (by simp) _).alloc (by simp; omega) _
  have sB : wB.heap.size = w.heap.size + 3 := by rw [HwB.out]; simp
  have bC : Below wB.heap.size wB (wB.alloc (.cells #[.slice none 0 0] 22)) := (Below.refl _ _).alloc (Nat.le_refl _) _
  have KL := fun m => (callsIn_wide (n := m)).2 (leaves_some wd b t (wB.alloc (.cells #[.slice none 0 0] 22)) (NodeAt.below (bB.trans (bC.mono bB.size)) h))
  rw [HwB.out] at KL
  gi_wp2_with ((try refine ⟨trivial, ?_⟩); (try refine ⟨hdd _, ?_⟩); gi_at_call 40; refine (KL _).mono ?_; rintro e w1 ⟨⟨B, rfl, hc, hB1, hB2⟩, b1⟩)
  rw [← HwB.out] at b1 hB1
  have bW1 : Below wB.heap.size wB w1 := bC.trans (b1.mono bC.size)
  have bx7 : Boxed w1 (w.heap.size + 3) 22 (.slice none 0 0) := by
    have h0 := Boxed.new wB 22 (.slice none 0 0)
    rw [sB] at h0
    unfold Boxed at *
    rw [b1.block (w.heap.size + 3) (by simp [sB])]
    exact h0
  have c4 : wB.cell? ⟨w.heap.size + 1, 0, none⟩ = some (.string (str [])) := by
    rw [HwB.out]
    have h0 := ((Blk.new (w.alloc (.cells #[.int .i64 wd, .pointer (some ⟨b, 0, none⟩)] 34)) #[.string (str [])] 9).alloc (.cells #[.int .i64 (-1)] 3)).cell 0
    rw [World.size_alloc] at h0
    exact h0.trans rfl
  have c5 : wB.cell? ⟨w.heap.size + 2, 0, none⟩ = some (.int .i64 (-1)) := by
    rw [HwB.out]
    have h0 := (Blk.new ((w.alloc (.cells #[.int .i64 wd, .pointer (some ⟨b, 0, none⟩)] 34)).alloc (.cells #[.string (str [])] 9)) #[.int .i64 (-1)] 3).cell 0
    simp only [World.size_alloc] at h0
    exact h0.trans rfl
  have s1 : w.heap.size + 3 ≤ w1.heap.size := by have := bW1.size; omega
  have hM : ∀ x : Lf wd w, x.1.2.1.length ≤ 4096 → True := fun _ _ => trivial
  refine wpIn_rangeFunc_ownG rfl (by omega) (gf := 68) (lb := #[.pointer (some ⟨B, 0, none⟩)]) rfl trivial (enters_of Tryz.func68 (by kernel_rfl) rfl)
    (leaves_stops wd w t 4 b B xs hx w1 hB2 (bB.trans (bW1.mono bB.size)) hc) belowK_t (belowK_b (by omega)) (Below.refl _ _) (fun _ => rfl)
    (fun pre W => (∃ v, Boxed W (w.heap.size + 3) 22 v ∧ W.ownsRow (w.heap.size + 3) 64 2 v pre.length (flat (its pre)) ∧ True) ∧ Below wB.heap.size wB W)
    (fun _ _ _ => False)
    (OwnFrom.and (Own.from (holdsRow_own (w.heap.size + 3) (w.heap.size + 3) 22 64 2 (fun pre => pre.length) (fun pre => flat (its pre)) (fun _ _ => True)) _) (ownFrom_below (Nat.le_refl _) (by omega)))
    (fun _ _ _ _ _ hs _ _ => hs)
    ⟨⟨_, bx7, World.ownsRow_nil _ _ _ _, trivial⟩, bW1⟩
    (fun x => { tmps := #[.agg #[.int .i64 wd, .pointer (some ⟨b, 0, none⟩)], .string (str []), .int .i64 (-1), .pointer (some ⟨w.heap.size, 0, none⟩), .pointer (some ⟨w.heap.size + 1, 0, none⟩), .pointer (some ⟨w.heap.size + 1 + 1, 0, none⟩), .slice none 0 0, .pointer (some ⟨w.heap.size + 1 + 1 + 1, 0, none⟩), .pointer (some ⟨x.1.1, 0, none⟩), .agg #[.int .i64 wd, .pointer (some ⟨b, 0, none⟩)], .string (str []), .func (.func 68) #[] #[.pointer (some ⟨B, 0, none⟩)], .pointer (some ⟨x.1.1, 0, none⟩), undef, undef, undef, undef, undef, undef, undef, undef, undef, undef, undef, undef, undef, undef, undef, undef, undef, undef, undef, undef, undef, undef, undef, undef, undef, undef], defers := [] }) ?assign ?body ?done ?stop
  case assign =>
    intro l x W K hK
    gi_wp2
    exact hK
  case body =>
    rintro l pre x W ⟨⟨v, hv, hrow, _⟩, hB⟩ hlt
    have hc7 := hv.cell
    have hf7 := hv.frozen
    obtain ⟨sa, sc, rfl, _⟩ := ItemsAt.of_owns (m := its pre) (by simpa [its] using hrow)
    have d4 : W.cell? ⟨w.heap.size + 1, 0, none⟩ = some (.string (str [])) := (hB.cell (p := ⟨w.heap.size + 1, 0, none⟩) (by show w.heap.size + 1 < wB.heap.size; rw [sB]; omega)).trans c4
    have d5 : W.cell? ⟨w.heap.size + 2, 0, none⟩ = some (.int .i64 (-1)) := (hB.cell (p := ⟨w.heap.size + 2, 0, none⟩) (by show w.heap.size + 2 < wB.heap.size; rw [sB]; omega)).trans c5
    obtain ⟨⟨xb, xk, xv⟩, hx1⟩ := x
    have hx2 := NodeAt.below (bB.trans (hB.mono bB.size)) hx1
    have e1 := (Blk.cell hx2 1).trans rfl
    have e2 := (Blk.cell hx2 2).trans rfl
    have hlen : ((its pre).length : Int) ≠ -1 := by omega
    have hlb : (((its pre).length : Int) == -1) = false := by simp
    gi_wp2
    rename_i K1 a1 K2 a2
    have C7 : ∀ w', Below W.heap.size W w' → w'.cell? ⟨w.heap.size + 3, 0, none⟩ = some (.slice sa (its pre).length sc) := fun w' h => by rw [h.cell (p := ⟨w.heap.size + 3, 0, none⟩) hv.lt]; exact hc7
    have C5 : ∀ w', Below W.heap.size W w' → w'.cell? ⟨w.heap.size + 2, 0, none⟩ = some (.int .i64 (-1)) := fun w' h => by rw [h.cell (p := ⟨w.heap.size + 2, 0, none⟩) (by have := hv.lt; show w.heap.size + 2 < _; omega)]; exact d5
    have C4 : ∀ w', Below W.heap.size W w' → w'.cell? ⟨w.heap.size + 1, 0, none⟩ = some (.string (str [])) := fun w' h => by rw [h.cell (p := ⟨w.heap.size + 1, 0, none⟩) (by have := hv.lt; show w.heap.size + 1 < _; omega)]; exact d4
    have E1 : ∀ w', Below W.heap.size W w' → w'.cell? ⟨xb, 1, none⟩ = some (.string (str xk)) := fun w' h => (Blk.cell (NodeAt.below h hx2) 1).trans rfl
    have hHeld : Below W.heap.size W W.drew := (Below.refl _ _).drew
    refine wpIn_region_held (S := fun w' => Below W.heap.size W w') l 3 hfm (by kernel_rfl) (fun ⟨_, _, h⟩ => h) ?_
    refine wpAnyH_take (i := 0) (v := ?_) rfl (by kernel_rfl) (by kernel_rfl) (by kernel_rfl) (fun _ _ _ h => h) (Or.inl ⟨by kernel_rfl, ?_⟩) (by assumption) ?_
    rotate_left
    · intro w' hSw
      have y7 := C7 _ hSw
      have y5 := C5 _ hSw
      have y4 := C4 _ hSw
      have y1 := E1 _ hSw
      go_simp
      try (with_reducible rfl)
    simp only [Act.put, List.getElem_toArray, List.getElem_cons_succ, List.getElem_cons_zero, List.setIfInBounds_toArray, List.set_cons_zero, List.set_cons_succ]
    refine wpAnyH_take (i := 1) (v := ?_) rfl (by kernel_rfl) (by kernel_rfl) (by kernel_rfl) (fun _ _ _ h => h) (Or.inl ⟨by kernel_rfl, ?_⟩) (by assumption) ?_
    rotate_left
    · intro w' hSw
      have y7 := C7 _ hSw
      have y5 := C5 _ hSw
      have y4 := C4 _ hSw
      have y1 := E1 _ hSw
      go_simp
      try (with_reducible rfl)
    simp only [Act.put, List.getElem_toArray, List.getElem_cons_succ, List.getElem_cons_zero, List.setIfInBounds_toArray, List.set_cons_zero, List.set_cons_succ]
    refine wpAnyH_take (i := 2) (v := ?_) rfl (by kernel_rfl) (by kernel_rfl) (by kernel_rfl) (fun _ _ _ h => h) (Or.inl ⟨by kernel_rfl, ?_⟩) (by assumption) ?_
    rotate_left
    · intro w' hSw
      have y7 := C7 _ hSw
      have y5 := C5 _ hSw
      have y4 := C4 _ hSw
      have y1 := E1 _ hSw
      go_simp
      try (with_reducible rfl)
    simp only [Act.put, List.getElem_toArray, List.getElem_cons_succ, List.getElem_cons_zero, List.setIfInBounds_toArray, List.set_cons_zero, List.set_cons_succ]
    refine wpAnyH_take (i := 3) (v := .bool false) rfl (by kernel_rfl) (by kernel_rfl) (by kernel_rfl) (fun _ _ _ h => h) (Or.inl ⟨by kernel_rfl, ?_⟩) (by assumption) ?_
    · intro w' hSw
      have y7 := C7 _ hSw
      have y5 := C5 _ hSw
      have y4 := C4 _ hSw
      have y1 := E1 _ hSw
      try exact congrArg _ hlb
      go_simp
      try (with_reducible rfl)
    simp only [Act.put, List.getElem_toArray, List.getElem_cons_succ, List.getElem_cons_zero, List.setIfInBounds_toArray, List.set_cons_zero, List.set_cons_succ]
    refine wpAnyH_take (i := 4) (v := ?_) rfl (by kernel_rfl) (by kernel_rfl) (by kernel_rfl) (fun _ _ _ h => h) (Or.inl ⟨by kernel_rfl, ?_⟩) (by assumption) ?_
    rotate_left
    · intro w' hSw
      have y7 := C7 _ hSw
      have y5 := C5 _ hSw
      have y4 := C4 _ hSw
      have y1 := E1 _ hSw
      go_simp
      try (with_reducible rfl)
    simp only [Act.put, List.getElem_toArray, List.getElem_cons_succ, List.getElem_cons_zero, List.setIfInBounds_toArray, List.set_cons_zero, List.set_cons_succ]
    refine wpAnyH_take (i := 5) (v := ?_) rfl (by kernel_rfl) (by kernel_rfl) (by kernel_rfl) (fun _ _ _ h => h) (Or.inl ⟨by kernel_rfl, ?_⟩) (by assumption) ?_
    rotate_left
    · intro w' hSw
      have y7 := C7 _ hSw
      have y5 := C5 _ hSw
      have y4 := C4 _ hSw
      have y1 := E1 _ hSw
      go_simp
      try (with_reducible rfl)
    simp only [Act.put, List.getElem_toArray, List.getElem_cons_succ, List.getElem_cons_zero, List.setIfInBounds_toArray, List.set_cons_zero, List.set_cons_succ]
    refine wpAnyH_take (i := 6) (v := ?_) rfl (by kernel_rfl) (by kernel_rfl) (by kernel_rfl) (fun _ _ _ h => h) (Or.inl ⟨by kernel_rfl, ?_⟩) (by assumption) ?_
    rotate_left
    · intro w' hSw
      have y7 := C7 _ hSw
      have y5 := C5 _ hSw
      have y4 := C4 _ hSw
      have y1 := E1 _ hSw
      go_simp
      try (with_reducible rfl)
    simp only [Act.put, List.getElem_toArray, List.getElem_cons_succ, List.getElem_cons_zero, List.setIfInBounds_toArray, List.set_cons_zero, List.set_cons_succ]
    refine wpAnyH_take (i := 7) (v := ?_) rfl (by kernel_rfl) (by kernel_rfl) (by kernel_rfl) (fun _ _ _ h => h) (Or.inl ⟨by kernel_rfl, ?_⟩) (by assumption) ?_
    rotate_left
    · intro w' hSw
      have y7 := C7 _ hSw
      have y5 := C5 _ hSw
      have y4 := C4 _ hSw
      have y1 := E1 _ hSw
      go_simp
      try (with_reducible rfl)
    simp only [Act.put, List.getElem_toArray, List.getElem_cons_succ, List.getElem_cons_zero, List.setIfInBounds_toArray, List.set_cons_zero, List.set_cons_succ]
    refine wpAnyH_take (i := 8) (v := ?_) rfl (by kernel_rfl) (by kernel_rfl) (by kernel_rfl) (fun _ _ _ h => h) (Or.inl ⟨by kernel_rfl, ?_⟩) (by assumption) ?_
    rotate_left
    · intro w' hSw
      have y7 := C7 _ hSw
      have y5 := C5 _ hSw
      have y4 := C4 _ hSw
      have y1 := E1 _ hSw
      go_simp
      try (with_reducible rfl)
    simp only [Act.put, List.getElem_toArray, List.getElem_cons_succ, List.getElem_cons_zero, List.setIfInBounds_toArray, List.set_cons_zero, List.set_cons_succ]
    refine wpAnyH_take (i := 9) (v := ?_) rfl (by kernel_rfl) (by kernel_rfl) (by kernel_rfl) (fun _ _ _ h => h) (Or.inl ⟨by kernel_rfl, ?_⟩) (by assumption) ?_
    rotate_left
    · intro w' hSw
      have y7 := C7 _ hSw
      have y5 := C5 _ hSw
      have y4 := C4 _ hSw
      have y1 := E1 _ hSw
      go_simp
      try (with_reducible rfl)
    simp only [Act.put, List.getElem_toArray, List.getElem_cons_succ, List.getElem_cons_zero, List.setIfInBounds_toArray, List.set_cons_zero, List.set_cons_succ]
    refine wpAnyH_ready (rs := [10]) (by kernel_rfl) (by simp) ?_
    refine AllReadyH.cons rfl (fun K hK => ?_) AllReadyH.nil
    go_simp
    refine (hasPre_all xk _).mono ?_
    rintro e w' ⟨rfl, rfl⟩
    refine hK.out _ _ hHeld (fun _ => ?_)
    clear hK K
    refine wpAnyH_take (i := 11) (v := ?_) rfl (by kernel_rfl) (by kernel_rfl) (by kernel_rfl) (fun _ _ _ h => h) (Or.inl ⟨by kernel_rfl, ?_⟩) (by assumption) ?_
    rotate_left
    · intro w' hSw
      have y7 := C7 _ hSw
      have y5 := C5 _ hSw
      have y4 := C4 _ hSw
      have y1 := E1 _ hSw
      go_simp
      try (with_reducible rfl)
    simp only [Act.put, List.getElem_toArray, List.getElem_cons_succ, List.getElem_cons_zero, List.setIfInBounds_toArray, List.set_cons_zero, List.set_cons_succ]
    refine wpAnyH_take (i := 12) (v := ?_) rfl (by kernel_rfl) (by kernel_rfl) (by kernel_rfl) (fun _ _ _ h => h) (Or.inl ⟨by kernel_rfl, ?_⟩) (by assumption) ?_
    rotate_left
    · intro w' hSw
      have y7 := C7 _ hSw
      have y5 := C5 _ hSw
      have y4 := C4 _ hSw
      have y1 := E1 _ hSw
      go_simp
      try (with_reducible rfl)
    simp only [Act.put, List.getElem_toArray, List.getElem_cons_succ, List.getElem_cons_zero, List.setIfInBounds_toArray, List.set_cons_zero, List.set_cons_succ]
    refine wpAnyH_done (by kernel_rfl) ?_ _
    refine a2 _ _ ?_
    gi_wp2
    clear C5 C4 a2
    have hH5 : W.drew.drew.cell? ⟨w.heap.size + 3, 0, none⟩ = some (.slice sa (its pre).length sc) ∧ W.drew.drew.cell? ⟨xb, 1, none⟩ = some (.string (str xk)) ∧ W.drew.drew.cell? ⟨xb, 2, none⟩ = some (.string (str xv)) := ⟨C7 _ hHeld.drew, E1 _ hHeld.drew, (Blk.cell (NodeAt.below hHeld.drew hx2) 2).trans rfl⟩
    refine wpIn_region_last (S := fun w' => w'.cell? ⟨w.heap.size + 3, 0, none⟩ = some (.slice sa (its pre).length sc) ∧ w'.cell? ⟨xb, 1, none⟩ = some (.string (str xk)) ∧ w'.cell? ⟨xb, 2, none⟩ = some (.string (str xv))) l _ 12 _ rfl (by kernel_rfl) hfm (by kernel_rfl) (fun ⟨_, _, h⟩ => h) ?_
    simp only [List.setIfInBounds_toArray, List.set_cons_zero, List.set_cons_succ]
    refine wpAnyH_take (i := 0) (v := ?_) rfl (by kernel_rfl) (by kernel_rfl) (by kernel_rfl) (fun _ _ _ h => h) (Or.inl ⟨by kernel_rfl, ?_⟩) (by assumption) ?_
    rotate_left
    · intro w' hSw
      have y7 := hSw.1
      have y1 := hSw.2.1
      have y2 := hSw.2.2
      go_simp
      try (with_reducible rfl)
    simp only [Act.put, List.getElem_toArray, List.getElem_cons_succ, List.getElem_cons_zero, List.setIfInBounds_toArray, List.set_cons_zero, List.set_cons_succ]
    refine wpAnyH_take (i := 1) (v := ?_) rfl (by kernel_rfl) (by kernel_rfl) (by kernel_rfl) (fun _ _ _ h => h) (Or.inl ⟨by kernel_rfl, ?_⟩) (by assumption) ?_
    rotate_left
    · intro w' hSw
      have y7 := hSw.1
      have y1 := hSw.2.1
      have y2 := hSw.2.2
      go_simp
      try (with_reducible rfl)
    simp only [Act.put, List.getElem_toArray, List.getElem_cons_succ, List.getElem_cons_zero, List.setIfInBounds_toArray, List.set_cons_zero, List.set_cons_succ]
    refine wpAnyH_take (i := 2) (v := ?_) rfl (by kernel_rfl) (by kernel_rfl) (by kernel_rfl) (fun _ _ _ h => h) (Or.inl ⟨by kernel_rfl, ?_⟩) (by assumption) ?_
    rotate_left
    · intro w' hSw
      have y7 := hSw.1
      have y1 := hSw.2.1
      have y2 := hSw.2.2
      go_simp
      try (with_reducible rfl)
    simp only [Act.put, List.getElem_toArray, List.getElem_cons_succ, List.getElem_cons_zero, List.setIfInBounds_toArray, List.set_cons_zero, List.set_cons_succ]
    refine wpAnyH_take (i := 3) (v := ?_) rfl (by kernel_rfl) (by kernel_rfl) (by kernel_rfl) (fun _ _ _ h => h) (Or.inl ⟨by kernel_rfl, ?_⟩) (by assumption) ?_
    rotate_left
    · intro w' hSw
      have y7 := hSw.1
      have y1 := hSw.2.1
      have y2 := hSw.2.2
      go_simp
      try (with_reducible rfl)
    simp only [Act.put, List.getElem_toArray, List.getElem_cons_succ, List.getElem_cons_zero, List.setIfInBounds_toArray, List.set_cons_zero, List.set_cons_succ]
    refine wpAnyH_take (i := 4) (v := ?_) rfl (by kernel_rfl) (by kernel_rfl) (by kernel_rfl) (fun _ _ _ h => h) (Or.inl ⟨by kernel_rfl, ?_⟩) (by assumption) ?_
    rotate_left
    · intro w' hSw
      have y7 := hSw.1
      have y1 := hSw.2.1
      have y2 := hSw.2.2
      go_simp
      try (with_reducible rfl)
    simp only [Act.put, List.getElem_toArray, List.getElem_cons_succ, List.getElem_cons_zero, List.setIfInBounds_toArray, List.set_cons_zero, List.set_cons_succ]
    refine wpAnyH_take (i := 5) (v := ?_) rfl (by kernel_rfl) (by kernel_rfl) (by kernel_rfl) (fun _ _ _ h => h) (Or.inl ⟨by kernel_rfl, ?_⟩) (by assumption) ?_
    rotate_left
    · intro w' hSw
      have y7 := hSw.1
      have y1 := hSw.2.1
      have y2 := hSw.2.2
      go_simp
      try (with_reducible rfl)
    simp only [Act.put, List.getElem_toArray, List.getElem_cons_succ, List.getElem_cons_zero, List.setIfInBounds_toArray, List.set_cons_zero, List.set_cons_succ]
    refine wpAnyH_take (i := 6) (v := ?_) rfl (by kernel_rfl) (by kernel_rfl) (by kernel_rfl) (fun _ _ _ h => h) (Or.inl ⟨by kernel_rfl, ?_⟩) (by assumption) ?_
    rotate_left
    · intro w' hSw
      have y7 := hSw.1
      have y1 := hSw.2.1
      have y2 := hSw.2.2
      go_simp
      try (with_reducible rfl)
    simp only [Act.put, List.getElem_toArray, List.getElem_cons_succ, List.getElem_cons_zero, List.setIfInBounds_toArray, List.set_cons_zero, List.set_cons_succ]
    refine wpAnyH_take (i := 7) (v := ?_) rfl (by kernel_rfl) (by kernel_rfl) (by kernel_rfl) (fun _ _ _ h => h) (Or.inl ⟨by kernel_rfl, ?_⟩) (by assumption) ?_
    rotate_left
    · intro w' hSw
      have y7 := hSw.1
      have y1 := hSw.2.1
      have y2 := hSw.2.2
      go_simp
      try (with_reducible rfl)
    simp only [Act.put, List.getElem_toArray, List.getElem_cons_succ, List.getElem_cons_zero, List.setIfInBounds_toArray, List.set_cons_zero, List.set_cons_succ]
    refine wpAnyH_take (i := 8) (v := ?_) rfl (by kernel_rfl) (by kernel_rfl) (by kernel_rfl) (fun _ _ _ h => h) (Or.inl ⟨by kernel_rfl, ?_⟩) (by assumption) ?_
    rotate_left
    · intro w' hSw
      have y7 := hSw.1
      have y1 := hSw.2.1
      have y2 := hSw.2.2
      go_simp
      try (with_reducible rfl)
    simp only [Act.put, List.getElem_toArray, List.getElem_cons_succ, List.getElem_cons_zero, List.setIfInBounds_toArray, List.set_cons_zero, List.set_cons_succ]
    refine wpAnyH_take (i := 9) (v := ?_) rfl (by kernel_rfl) (by kernel_rfl) (by kernel_rfl) (fun _ _ _ h => h) (Or.inl ⟨by kernel_rfl, ?_⟩) (by assumption) ?_
    rotate_left
    · intro w' hSw
      have y7 := hSw.1
      have y1 := hSw.2.1
      have y2 := hSw.2.2
      go_simp
      try (with_reducible rfl)
    simp only [Act.put, List.getElem_toArray, List.getElem_cons_succ, List.getElem_cons_zero, List.setIfInBounds_toArray, List.set_cons_zero, List.set_cons_succ]
    refine wpAnyH_ready (rs := [10]) (by kernel_rfl) (by simp) ?_
    refine AllReadyH.cons rfl (fun K hK => ?_) AllReadyH.nil
    go_simp
    have hsW : w.heap.size + 3 ≤ W.heap.size := by have := hB.size; omega
    have hB6 : Below W.heap.size W (W.alloc (.cells #[.string (str xk), .string (str xv)] 64)).drew.drew := ((Below.refl _ W).alloc (Nat.le_refl _) _).drew.drew
    refine hK.out _ _ ⟨C7 _ hB6, E1 _ hB6, (Blk.cell (NodeAt.below hB6 hx2) 2).trans rfl⟩ (fun _ => ?_)
    clear hK K
    have hlp : (its pre).length = pre.length := by simp [its]
    have hr6 : (W.alloc (.cells #[.string (str xk), .string (str xv)] 64)).drew.drew.ownsRow (w.heap.size + 3) 64 2 (.slice sa (its pre).length sc) (its pre).length (flat (its pre)) := by rw [hlp] at hrow ⊢; exact hrow.alloc _
    have hb3 : (its pre).length + 1 ≤ maxLen := by unfold maxLen; omega
    have hb4 : ((its pre).length + 1) * 32 ≤ 140737488355328 := by omega
    refine wpAnyH_ready (rs := [11]) (by kernel_rfl) (by simp) ?_
    refine AllReadyH.cons rfl (fun K hK => ?_) AllReadyH.nil
    refine wp_append_lies _ _ _ _ (by rfl) (w.heap.size + 3) 64 i0 (.agg #[.string ⟨#[]⟩, .string ⟨#[]⟩]) 2 32 Tryz.underlying22 hi hz0 hz1 hz2 rfl (by omega) (.slice sa (its pre).length sc) (its pre).length (flat (its pre)) (by rfl) hr6 ⟨W.heap.size, 0, none⟩ 1 1 [.string (str xk), .string (str xv)] (by rfl) (by rfl) (cells_two W _ _ _) (by simp [Value.oneCell']) (by omega) hb3 hb4 (by show _ ≤ (W.alloc _).heap.size; simp; omega) (W.heap.size + 1) (by show (W.alloc _).heap.size = _; simp) ?_
    intro g4 cg4 w4 hown4 hgrow4 hat4 hlt4
    have b4 : Below (w.heap.size + 3) W w4 := (((Below.refl _ W).alloc hsW _).drew.drew).grown hgrow4 (by show _ ≤ (W.alloc _).heap.size; simp; omega) (fun k e => (hrow.lt k e).1)
    obtain ⟨hv1, hv2, hr2, hk2, hb2⟩ := hv.appended (tmp := .cells #[.string (str xk), .string (str xv)] 64) (by decide) hrow hsW (Nat.le_refl _) hown4 ⟨hgrow4.os, hgrow4.tape, hgrow4.output, hgrow4.size, hgrow4.block⟩
    have hc1 := hv1.cell
    have hf1 := hv1.frozen
    have hx4 := NodeAt.below (bB.trans ((hB.trans (sB ▸ b4)).mono bB.size)) hx1
    refine hK.out _ _ ⟨hc1, (Blk.cell hx4 1).trans rfl, (Blk.cell hx4 2).trans rfl⟩ (fun _ => ?_)
    clear hK K
    refine wpAnyH_ready (rs := [12]) (by kernel_rfl) (by simp) ?_
    refine AllReadyH.cons rfl (fun K hK => ?_) AllReadyH.nil
    go_simp
    refine hK.out _ _ ⟨hc1, (Blk.cell hx4 1).trans rfl, (Blk.cell hx4 2).trans rfl⟩ (fun _ => ?_)
    clear hK K
    refine wpAnyH_done (by kernel_rfl) ?_ _
    simp only [ThenLast]
    refine wpOp_step rfl (fun K hK => ?_)
    go_simp
    refine hK _ _ ?_
    clear hK K
    have hit : its (pre ++ [⟨(xb, xk, xv), hx1⟩]) = its pre ++ [(xk, xv)] := by simp [its]
    have hr3 : (w4.setCell ⟨w.heap.size + 3, 0, none⟩ (.slice (some ⟨g4, 0, none⟩) (pre.length + 1) cg4)).ownsRow (w.heap.size + 3) 64 2 (.slice (some ⟨g4, 0, none⟩) (pre.length + 1) cg4) (pre ++ [(⟨(xb, xk, xv), hx1⟩ : Lf wd w)]).length (flat (its (pre ++ [⟨(xb, xk, xv), hx1⟩]))) := by
      rw [hit, flat_snoc, List.length_append]
      have h3 := hr2
      rw [hlp] at h3
      exact h3
    rw [hlp] at hv2 hb2 hk2
    exact ⟨hk2.from _, hb2.mono (by omega), ⟨_, hv2, hr3, trivial⟩, hB.trans (sB ▸ hb2)⟩
  case done =>
    rintro D ys W hD rfl ⟨⟨v, hv, hrow, _⟩, hB⟩ hK
    have hc := hv.cell
    gi_wp2
    have hits : its ys = t.items := ex
    refine ⟨by simp, .inl ⟨_, _, rfl, run_takeDeferred hK, ?_⟩⟩
    have hw1 : w.heap.size ≤ w1.heap.size := by omega
    refine ⟨_, results_tmp rfl _ _ _, v, rfl, ?_, ?_⟩
    · rw [hits, hxl] at hrow
      exact ownsRow_putObj hrow _ hK rfl
    · exact (bB.trans (hB.mono bB.size)).trans (belowK_b (w := w) (Nat.le_refl _) W D _ _ (by omega) hK rfl rfl)
  case stop =>
    rintro D c pre W _ _ h _
    exact h.elim
end Go.Proofs.YtmhllihedejehaaGreat
