/- The digest of a whole tree with a node above all (chapter 3, T3, T4): the program's and the answer's. -/
import Derived.Test.YtfjkgglflmakhaaDoorTrieImg
namespace Go.Proofs.YtfjkgglflmakhaaDoor
open Go.RowKit
set_option linter.unusedVariables false

set_option maxHeartbeats 400000 in
theorem whole_none (d : Int) (w : World) :
    Calls Tryd.prog 30 #[.int .u64 d, .bool false] w fun e w' => ∃ v, e = .returned v ∧ Img w' 5 [] v ∧ Below w.heap.size w w' := by
  go_enter Tryd.func30, Tryd.ntmps30
  go_wp2
  exact bodyPost_ret (v := .agg #[.int .i64 5, .slice none 0 0]) (by simp [results, Tryd.results30, go_sem]) rfl
    ⟨_, rfl, ⟨_, 0, rfl, strs_nil _⟩, (Below.refl _ _).alloc (Nat.le_refl _) _⟩

set_option maxHeartbeats 400000 in
theorem whole_some (x : Int) (w : World) (hx : 0 ≤ x ∧ x ≤ 18446744073709551615) :
    Calls Tryd.prog 30 #[.int .u64 x, .bool true] w fun e w' => ∃ v, e = .returned v ∧ Img w' 5 [str (be x 8)] v ∧ Below w.heap.size w w' := by
  go_enter Tryd.func30, Tryd.ntmps30
  go_wp2_with fail
  refine (reight _ _ hx).mono ?_
  rintro e w2 ⟨rfl, b12⟩
  obtain ⟨kc, kf, kz⟩ := own_kept b12
  have c0 := kc 0
  have c1 := kc 1
  have f0 := kf 0
  have f1 := kf 1
  clear kc kf
  go_wp2
  have hS := strs_one ((w2.setCell ⟨w.heap.size, 0, none⟩ (.int .i64 5)).setCell ⟨w.heap.size, 1, none⟩ (.slice (some ⟨w2.heap.size, 0, none⟩) 1 1)) (str (be x 8)) (be8_size x)
  rw [size_setCell, size_setCell] at hS
  have hb : Below w.heap.size w w2 := ((Below.refl _ _).alloc (Nat.le_refl _) _).trans (b12.mono (by simp))
  exact bodyPost_ret (v := .agg #[.int .i64 5, .slice (some ⟨w2.heap.size, 0, none⟩) 1 1]) (by simp [results, Tryd.results30, go_sem, c0, c1, kz]) rfl
    ⟨_, rfl, ⟨_, 1, rfl, hS⟩, ((hb.setCell (Nat.le_refl _) _).setCell (Nat.le_refl _) _).alloc (by rw [size_setCell, size_setCell]; exact Nat.le_of_lt kz) _⟩




end Go.Proofs.YtfjkgglflmakhaaDoor
