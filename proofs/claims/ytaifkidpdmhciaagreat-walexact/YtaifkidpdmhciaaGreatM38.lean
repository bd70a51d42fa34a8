/- What both sides say of transactions: the same. -/
import Derived.Test.YtaifkidpdmhciaaGreatM35
import Derived.Test.YtaifkidpdmhciaaGreatXRef5
import Derived.Test.YtaifkidpdmhciaaGreatWPut
import Derived.Test.YtaifkidpdmhciaaGreatXThings

namespace Go.Proofs.YtaifkidpdmhciaaGreat
open Go.RowKit
set_option linter.unusedVariables false
set_option linter.unusedSimpArgs false

theorem each_mem {α : Type} (atoms : α → List Atom) (xs : List α) (y : α) (h : y ∈ xs) : wtL (atoms y) ≤ wtL (eachL atoms xs) := by
  obtain ⟨i, hi⟩ := List.getElem?_of_mem h
  have := eachL_wt atoms xs i y hi
  omega
theorem Tx.short_of (x : Tx) (h : wtL x.atoms ≤ 1099400000000) : ∀ y ∈ x.si.xs, y.se.xs.length ≤ 140737488351232 := by
  intro y hy
  have h1 := each_mem Sight.atoms x.si.xs y hy
  obtain ⟨_, _, p3⟩ := pairsZ_each y.se.xs
  simp only [Tx.atoms, wtL_append, listL, wtL] at h
  simp only [Sight.atoms, wtL_append, benchL, listL, wtL, p3] at h1
  omega





end Go.Proofs.YtaifkidpdmhciaaGreat

namespace Go.Proofs.YtaifkidpdmhciaaGreat
open Go.RowKit
set_option linter.unusedVariables false
set_option linter.unusedSimpArgs false





end Go.Proofs.YtaifkidpdmhciaaGreat
