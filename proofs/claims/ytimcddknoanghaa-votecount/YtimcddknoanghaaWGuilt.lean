/- A pass over two votes. -/
import Derived.Test.YtimcddknoanghaaWWalk
namespace Go.Proofs.Ytimcddknoanghaa.W
open Go.RowKit
set_option linter.unusedVariables false

theorem oApp_none (l : List UInt8) : oApp none l = none := rfl

theorem pNum_none (most n : Int) : pNum most none n = none := rfl

theorem oApp_len {o : Option (List UInt8)} {l r : List UInt8} (h : oApp o l = some r) : ∃ x, o = some x ∧ r.length = x.length + l.length := by
  cases o with
  | none => cases h
  | some x => simp only [oApp, Option.map_some, Option.some.injEq] at h; subst h; exact ⟨x, rfl, by simp⟩

theorem pNum_some {most n : Int} {o : Option (List UInt8)} {r : List UInt8} (h : pNum most o n = some r) : ∃ x, o = some x ∧ r.length ≤ x.length + 6 := by
  cases o with
  | none => cases h
  | some x => exact ⟨x, rfl, pNum_len h⟩

theorem voteP_none (h r s : Int) (has : Bool) (bl f : Int) : voteP none h r s has bl f = none := by
  unfold voteP; rw [pNums_none]; rfl

theorem voteP_len {out o : List UInt8} {h r s : Int} {has : Bool} {bl f : Int} (e : voteP (some out) h r s has bl f = some o) : o.length ≤ out.length + 40 := by
  unfold voteP at e
  obtain ⟨x, e1, l1⟩ := pNum_some e
  obtain ⟨y, e2, l2⟩ := oApp_len e1
  obtain ⟨z, e3, l3⟩ := oApp_len e2
  have l4 := pNums_len e3
  have l5 := be_len bl 8
  simp only [List.length_cons, List.length_nil, flagB] at *
  omega


end Go.Proofs.Ytimcddknoanghaa.W
