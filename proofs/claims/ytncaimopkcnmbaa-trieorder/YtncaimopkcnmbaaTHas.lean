/- Every key begins with nothing. -/
import Derived.Test.YtncaimopkcnmbaaTRoot
namespace Go.Proofs.Ytncaimopkcnmbaa
open Go.RowKit
set_option linter.unusedVariables false
set_option linter.unusedSimpArgs false

theorem hasPre_all (k : Key) (w : World) :
    Calls Try.prog 28 #[.string (str k), .string (str [])] w fun e w' => e = .returned (.bool true) ∧ w = w' := by
  have s1 := str_size k
  have s2 := str_size []
  have s3 := str_toList []
  have key : ∀ w, Calls Try.prog 45 #[.string (str k), .string (str [])] w fun e w' => e = .returned (.bool true) ∧ w = w' := by
    intro w
    go_enter Try.func45, Try.ntmps45
    go_wp2
    go_ret
    exact ⟨by simp, rfl⟩
  go_enter Try.func28, Try.ntmps28
  go_wp2_with fail
  refine (key _).mono ?_
  rintro e w' ⟨rfl, rfl⟩
  go_wp2
  go_ret
  exact ⟨rfl, rfl⟩
end Go.Proofs.Ytncaimopkcnmbaa
