/- Which of several TrieOrder picks. -/
import Derived.Test.YtncaimopkcnmbaaTPut4
namespace Go.Proofs.Ytncaimopkcnmbaa
open Go.RowKit
set_option linter.unusedVariables false

theorem pick_any (c n : Int) (w : World) (hc : -9223372036854775808 ≤ c ∧ c ≤ 9223372036854775807) (hn : 1 ≤ n ∧ n ≤ 9223372036854775807) :
    Calls Try.prog 6 #[.int .i64 c, .int .i64 n] w fun e w' => (∃ r, e = .returned (.int .i64 r) ∧ 0 ≤ r ∧ r < n) ∧ w = w' := by
  by_cases h : c < 0
  · have hq := Int.emod_nonneg (-(c + 1)) (show n ≠ 0 by omega)
    have hq2 := Int.emod_lt_of_pos (-(c + 1)) (show 0 < n by omega)
    go_enter Try.func6, Try.ntmps6
    go_wp2
    go_ret
    have e : -((c + 1).tmod n) = -(c + 1) % n := by rw [← Int.neg_tmod, Int.tmod_eq_emod_of_nonneg (by omega)]
    rw [← e] at hq hq2
    exact ⟨⟨_, rfl, hq, hq2⟩, rfl⟩
  · have hq := Int.emod_nonneg c (show n ≠ 0 by omega)
    have hq2 := Int.emod_lt_of_pos c (show 0 < n by omega)
    go_enter Try.func6, Try.ntmps6
    go_wp2
    go_ret
    exact ⟨⟨_, rfl, hq, hq2⟩, rfl⟩
end Go.Proofs.Ytncaimopkcnmbaa
