/- Whether items are few. -/
import Derived.Test.YtncaimopkcnmbaaTItm
namespace Go.Proofs.Ytncaimopkcnmbaa
open Go.RowKit
set_option linter.unusedVariables false
set_option linter.unusedSimpArgs false

/-- It says yes or no, and no of more than so many. -/
def Few (n : Nat) (e : Ending) : Prop := ∃ z : Bool, e = .returned (.bool z) ∧ (z = true → n ≤ 1024)

set_option maxHeartbeats 1600000 in
theorem light_any (la : Option Addr) (ca : Nat) (l : List (Key × Key)) (w : World) (hl : l.length ≤ maxLen) (h1 : ItemsAt w la l) :
    Calls Try.prog 5 #[.slice la l.length ca] w fun e w' => Few l.length e ∧ Below w.heap.size w w' := by
  unfold maxLen at hl
  go_enter Try.func5, Try.ntmps5
  go_wp2_with fail
  go_loopw [3, 4] (fun nv iv wv => ∃ (i : Nat) (n : Int), i ≤ l.length ∧ iv = .int .i64 i ∧ nv = .int .i64 n ∧ Below w.heap.size w wv) (fun _ iv _ => l.length - (intOf iv).toNat)
  case atStart => exact ⟨0, _, Nat.zero_le _, rfl, rfl, Below.refl _ _⟩
  case round =>
    obtain ⟨i, n, hi, rfl, rfl, hb⟩ := hrel
    by_cases hlt : i < l.length
    · have hlt' : (i : Int) < (l.length : Int) := by omega
      by_cases hn : n ≤ 65536
      · rcases ItemsAt.below h1 hb with h0 | ⟨b1, o1, e1, z1, c1⟩
        · rw [h0] at hlt; simp at hlt
        subst e1
        obtain ⟨a1, a2⟩ := c1 i _ (List.getElem?_eq_getElem hlt)
        generalize l[i] = x at *
        obtain ⟨xk, xv⟩ := x
        simp only at a1 a2
        clear c1 h1
        go_upto_region 5 with fail
        go_quiet (fail)
        go_wp2
        exact ⟨⟨i + 1, _, by omega, by go_num, rfl, below_drewN hb _⟩, by simp [intOf]; omega⟩
      · have hnd : decide (n ≤ 65536) = false := by simpa using hn
        go_wp2
        go_ret
        exact ⟨⟨false, rfl, fun h => by cases h⟩, hb⟩
    · have hge : ¬ (i : Int) < (l.length : Int) := by omega
      by_cases hn : n ≤ 65536
      · by_cases hs : l.length ≤ 1024
        · have hs' : (l.length : Int) ≤ 1024 := by omega
          go_wp2
          go_ret
          exact ⟨⟨true, rfl, fun _ => hs⟩, hb⟩
        · have hs' : ¬ (l.length : Int) ≤ 1024 := by omega
          have hsd : decide ((l.length : Int) ≤ 1024) = false := by simpa using hs'
          go_wp2
          go_ret
          exact ⟨⟨false, rfl, fun h => by cases h⟩, hb⟩
      · have hnd : decide (n ≤ 65536) = false := by simpa using hn
        go_wp2
        go_ret
        exact ⟨⟨false, rfl, fun h => by cases h⟩, hb⟩
end Go.Proofs.Ytncaimopkcnmbaa
