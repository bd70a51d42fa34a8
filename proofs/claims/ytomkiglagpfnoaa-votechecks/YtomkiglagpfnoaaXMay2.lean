/- Which proofs and sights may be. -/
import Derived.Test.YtomkiglagpfnoaaXMay
import Derived.Test.YtomkiglagpfnoaaXOdd
namespace Go.Proofs.Ytomkiglagpfnoaa.W
open Go.RowKit
set_option linter.unusedVariables false
set_option linter.unusedSimpArgs false

def Proof.may (x : Proof) : Bool := if x.leaf = true then decide (x.val ≠ []) && riseI 0 (x.tu.xs.map Turn.p) else decide (x.tu.xs.length = 0) && decide (x.key = []) && decide (x.val = [])



def Sight.may (x : Sight) : Bool := x.ce.may && mayBenchP x.se.xs

theorem pairs_held {base : Nat} {w : World} {l : Lst (Int × Int)} (h : l.Held pairF 2 base w) : PairsAt w l.la l.xs := by
  obtain ⟨_, _, h0 | ⟨rb, ro, e, rl, rz, rc⟩⟩ := h
  · exact ⟨by rw [h0]; simp, .inl h0⟩
  · refine ⟨fun p hp => ?_, .inr ⟨rb, ro, e, rz, fun i p hp => ⟨(rc i p hp).get0 rfl, (rc i p hp).get 1 rfl⟩⟩⟩
    obtain ⟨i, hi⟩ := List.getElem?_of_mem hp
    exact ⟨(rc i p hi).goods.get 0 rfl, (rc i p hi).goods.get 1 rfl⟩



def isTx (k : Int) : Bool := decide (k = 2) || decide (k = 3)

def nSi (k : Int) : Int := if k = 9 then 1 else 0

def nPr (k : Int) : Int := if k = 10 then 1 else 0


end Go.Proofs.Ytomkiglagpfnoaa.W
