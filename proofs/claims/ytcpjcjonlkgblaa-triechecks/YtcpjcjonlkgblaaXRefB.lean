/- The answer's writing of benches as lists of parts; turns that are too far; texts that are empty. -/
import Derived.Test.YtcpjcjonlkgblaaXRef
import Derived.Test.YtcpjcjonlkgblaaM29
import Derived.Test.YtcpjcjonlkgblaaM25
import Derived.Test.YtcpjcjonlkgblaaWRefB
namespace Go.Proofs.Ytcpjcjonlkgblaa.W
open Go.RowKit
set_option linter.unusedVariables false

theorem pairsZ_each (ps : List (Int × Int)) : encZL (eachL pairA ps) = pairsZ ps ∧ (!okL (eachL pairA ps)) = pairsFar ps ∧ wtL (eachL pairA ps) = 12 * ps.length := by
  induction ps with
  | nil => exact ⟨rfl, rfl, rfl⟩
  | cons p r ih =>
    obtain ⟨h1, h2, h3⟩ := ih
    refine ⟨?_, ?_, ?_⟩
    · simp only [eachL, encZL_append, h1, pairsZ, List.flatMap_cons]
      simp [pairA, encZL, Atom.encZ, List.append_assoc]
    · have e : pairsFar (p :: r) = ((!inNum p.1 || !inNum p.2) || pairsFar r) := by simp [pairsFar]
      rw [e, ← h2]
      simp only [eachL, okL_append, pairA, okL, far_plain, Bool.and_true, Bool.not_and]
    · simp only [eachL, wtL_append, h3, pairA, wtL, Atom.wt, List.length_cons]; omega



theorem turn_enc (l : List Atom) (y : Turn) : encZL (l ++ y.atoms) = encZL (l ++ intA y.p ++ digL y.d) := by
  simp only [Turn.atoms, encZL_append, intA, encZL, Atom.encZ, List.append_assoc]

theorem turn_near {w : World} {b : Nat} {l : List Atom} {odd : Bool} {y : Turn} (h : ¬ 288 ≤ y.p) (R : RefL w b (l ++ intA y.p ++ digL y.d) odd) : RefL w b (l ++ y.atoms) odd := by
  have e : okL (l ++ y.atoms) = okL (l ++ intA y.p ++ digL y.d) := by
    simp only [Turn.atoms, okL_append, intA, okL, Atom.ok, Bool.and_assoc, Bool.and_true]
    have h1 : decide (y.p ≤ 287) = true := by simp; omega
    have h2 : decide (y.p ≤ 1099511627775) = true := by simp; omega
    rw [h1, h2]
  unfold RefL at *
  rw [turn_enc, e]; exact R

theorem turn_far {w : World} {b : Nat} {l : List Atom} {odd : Bool} {y : Turn} (h : 288 ≤ y.p) (R : RefL w b (l ++ intA y.p ++ digL y.d) odd) : RefL (w.setCell ⟨b, 1, none⟩ (.bool true)) b (l ++ y.atoms) odd := by
  have e : (!okL (l ++ y.atoms)) = true := by
    simp only [Turn.atoms, okL_append, okL, Atom.ok]
    have h1 : decide (y.p ≤ 287) = false := by simp; omega
    rw [h1]; simp
  unfold RefL at *
  rw [turn_enc, e]; exact RefAt.setF R true
end Go.Proofs.Ytcpjcjonlkgblaa.W
