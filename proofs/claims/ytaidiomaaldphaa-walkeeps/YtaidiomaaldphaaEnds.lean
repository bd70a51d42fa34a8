/- The contracts of Five and Eight, of the program and of the answer: each gives the lowest bytes of its number, the highest first. -/
import Derived.Test.YtaidiomaaldphaaProg
import Derived.Test.YtaidiomaaldphaaBe
import Derived.WalkKit
import Derived.WalkSpells
import Derived.WalkLawsBesides
import Derived.KernelRfl
import Derived.RowKit3
namespace Go.Proofs.Ytaidiomaaldphaa
open Go.RowKit
set_option linter.unusedVariables false





set_option maxHeartbeats 400000 in
theorem high5 (n : Int) (w : World) (h : 0 ≤ n ∧ n ≤ 18446744073709551615) :
    Calls Try.prog 37 #[.int .u64 n, .int .i64 5] w fun e w' => e = .returned (.string ⟨(be n 5).toArray⟩) ∧ Below w.heap.size w w' := by
  have hmk : ∀ w, (Instr.makeSlice 58 (.int .i64 5) (.int .i64 5)).run Try.prog w = .ok (.slice (some ⟨w.heap.size, 0, none⟩) 5 5) (w.alloc (.cells #[.int .u8 0, .int .u8 0, .int .u8 0, .int .u8 0, .int .u8 0] 5)) := fun _ => by kernel_rfl
  have hc := conv_five (P := Try.prog) 58 9 5 Try.underlying58 Try.underlying5 Try.underlying9
  go_enter Try.func37, Try.ntmps37
  go_wp2
  refine wp_loop_rounds 6 ?_
  iterate 6 (rw [rounds_succ]; go_wp2)
  go_ret
  exact ⟨by rw [← five_str]; rfl, (Below.refl _ _).alloc (Nat.le_refl _) _⟩

set_option maxHeartbeats 800000 in
theorem high8 (n : Int) (w : World) (h : 0 ≤ n ∧ n ≤ 18446744073709551615) :
    Calls Try.prog 37 #[.int .u64 n, .int .i64 8] w fun e w' => e = .returned (.string ⟨(be n 8).toArray⟩) ∧ Below w.heap.size w w' := by
  have hmk : ∀ w, (Instr.makeSlice 58 (.int .i64 8) (.int .i64 8)).run Try.prog w = .ok (.slice (some ⟨w.heap.size, 0, none⟩) 8 8) (w.alloc (.cells #[.int .u8 0, .int .u8 0, .int .u8 0, .int .u8 0, .int .u8 0, .int .u8 0, .int .u8 0, .int .u8 0] 5)) := fun _ => by kernel_rfl
  have hc := conv_eight (P := Try.prog) 58 9 5 Try.underlying58 Try.underlying5 Try.underlying9
  go_enter Try.func37, Try.ntmps37
  go_wp2
  refine wp_loop_rounds 9 ?_
  iterate 9 (rw [rounds_succ]; go_wp2)
  go_ret
  exact ⟨by rw [← eight_str n h]; rfl, (Below.refl _ _).alloc (Nat.le_refl _) _⟩

theorem u64_bounds (n : Int) : 0 ≤ n % 18446744073709551616 ∧ n % 18446744073709551616 ≤ 18446744073709551615 := by omega

set_option maxHeartbeats 400000 in
theorem wfive (n : Int) (w : World) :
    Calls Try.prog 20 #[.int .i64 n] w fun e w' => e = .returned (.string ⟨(be n 5).toArray⟩) ∧ Below w.heap.size w w' := by
  go_enter Try.func20, Try.ntmps20
  go_wp2_with fail
  refine (high5 _ _ (u64_bounds n)).mono ?_
  rintro e w' ⟨rfl, hg⟩
  rw [be_wrap n _ 5 (by omega) rfl]
  go_wp2
  go_ret
  exact ⟨rfl, hg⟩

set_option maxHeartbeats 400000 in
theorem weight (n : Int) (w : World) (h : 0 ≤ n ∧ n ≤ 18446744073709551615) :
    Calls Try.prog 21 #[.int .u64 n] w fun e w' => e = .returned (.string ⟨(be n 8).toArray⟩) ∧ Below w.heap.size w w' := by
  go_enter Try.func21, Try.ntmps21
  go_wp2_with fail
  refine (high8 _ _ h).mono ?_
  rintro e w' ⟨rfl, hg⟩
  go_wp2
  go_ret
  exact ⟨rfl, hg⟩
end Go.Proofs.Ytaidiomaaldphaa
