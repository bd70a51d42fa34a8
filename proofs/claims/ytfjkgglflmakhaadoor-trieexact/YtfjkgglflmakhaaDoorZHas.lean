/- strings.HasPrefix. -/
import Derived.Test.YtfjkgglflmakhaaDoorZPure
import Derived.Test.YtfjkgglflmakhaaDoorM34
namespace Go.Proofs.YtfjkgglflmakhaaDoor
open Go.RowKit
set_option linter.unusedVariables false
set_option linter.unusedSimpArgs false

set_option maxHeartbeats 800000 in
theorem hasPre2_any (k p : Key) (w : World) (hp : p.length ≤ maxLen) :
    Calls Tryd.prog 53 #[.string (str k), .string (str p)] w fun e w' => e = .returned (.bool (p.isPrefixOf k)) ∧ w = w' := by
  have s1 := str_size k
  have s2 := str_size p
  unfold maxLen at hp
  by_cases h : p.length ≤ k.length
  · have h' : (p.length : Int) ≤ (k.length : Int) := by omega
    have hex : (str k).extract 0 p.length = str (k.take p.length) := by
      unfold str
      apply ByteArray.ext
      rw [ByteArray.data_extract]
      apply Array.ext'
      simp
    have HP : Hid (p.isPrefixOf k = ((str (k.take p.length)).toList == (str p).toList)) := by
      show _ = _
      rw [str_toList, str_toList, Bool.eq_iff_iff, List.isPrefixOf_iff_prefix, beq_iff_eq]
      constructor
      · intro h2; exact (List.prefix_iff_eq_take.1 h2).symm
      · intro h2; rw [← h2]; exact List.take_prefix _ _
    go_enter Tryd.func53, Tryd.ntmps53
    go_wp2
    go_ret
    exact ⟨by rw [HP.out]; rfl, rfl⟩
  · have h' : ¬ (p.length : Int) ≤ (k.length : Int) := by omega
    have HP : Hid (p.isPrefixOf k = false) := by
      show _ = _
      rw [Bool.eq_false_iff]
      intro e
      have := (List.isPrefixOf_iff_prefix.1 e).length_le
      omega
    go_enter Tryd.func53, Tryd.ntmps53
    go_wp2
    go_ret
    exact ⟨by rw [HP.out]; rfl, rfl⟩
theorem hasPre_any (k p : Key) (w : World) (hp : p.length ≤ maxLen) :
    Calls Tryd.prog 34 #[.string (str k), .string (str p)] w fun e w' => e = .returned (.bool (p.isPrefixOf k)) ∧ w = w' := by
  have K := hasPre2_any k p w hp
  go_enter Tryd.func34, Tryd.ntmps34
  go_wp2_with fail
  refine K.mono ?_
  rintro e w' ⟨rfl, rfl⟩
  go_wp2
  go_ret
  exact ⟨rfl, rfl⟩
end Go.Proofs.YtfjkgglflmakhaaDoor
