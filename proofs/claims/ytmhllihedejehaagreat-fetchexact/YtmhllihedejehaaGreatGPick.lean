/- Which of several the law picks: always the same. -/
import Derived.Test.YtmhllihedejehaaGreatM39
namespace Go.Proofs.YtmhllihedejehaaGreat
open Go.RowKit
set_option linter.unusedVariables false

/-- What is picked. -/
def pickP (c n : Int) : Int := if c < 0 then -(c + 1) % n else c % n
theorem pickP_bd (c n : Int) (hn : 1 ≤ n) : 0 ≤ pickP c n ∧ pickP c n < n := by
  unfold pickP
  split
  · exact ⟨Int.emod_nonneg _ (by omega), Int.emod_lt_of_pos _ (by omega)⟩
  · exact ⟨Int.emod_nonneg _ (by omega), Int.emod_lt_of_pos _ (by omega)⟩
theorem pick_det (c n : Int) (w : World) (hc : -9223372036854775808 ≤ c ∧ c ≤ 9223372036854775807) (hn : 1 ≤ n ∧ n ≤ 9223372036854775807) :
    Calls Tryz.prog 5 #[.int .i64 c, .int .i64 n] w fun e w' => e = .returned (.int .i64 (pickP c n)) ∧ w = w' := by
  by_cases h : c < 0
  · have hp : pickP c n = -(c + 1) % n := if_pos h
    have e : -((c + 1).tmod n) = -(c + 1) % n := by rw [← Int.neg_tmod, Int.tmod_eq_emod_of_nonneg (by omega)]
    have HP : Hid (-((c + 1).tmod n) = pickP c n) := by show _ = _; rw [hp, e]
    clear hp e
    go_enter Tryz.func5, Tryz.ntmps5
    go_wp2
    go_ret
    exact ⟨by rw [← HP.out]; rfl, rfl⟩
  · have HP : Hid (pickP c n = c % n) := if_neg h
    go_enter Tryz.func5, Tryz.ntmps5
    go_wp2
    go_ret
    exact ⟨by rw [HP.out]; rfl, rfl⟩
end Go.Proofs.YtmhllihedejehaaGreat
