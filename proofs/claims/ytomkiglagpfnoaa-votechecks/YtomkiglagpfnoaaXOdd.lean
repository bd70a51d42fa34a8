/- What may not be, by the answer's words. -/
import Derived.Test.YtomkiglagpfnoaaXThings
import Derived.Test.YtomkiglagpfnoaaWRefP
namespace Go.Proofs.Ytomkiglagpfnoaa.W
open Go.RowKit
set_option linter.unusedVariables false

def stepOdd (xs : List Int) (i : Nat) : Bool := decide (xs.getD i 0 < 1) || (decide (0 < i) && decide (xs.getD i 0 ≤ xs.getD (i - 1) 0))

def riseOdd (xs : List Int) (k : Nat) : Bool := (List.range k).any (stepOdd xs)

theorem riseOdd_succ (xs : List Int) (k : Nat) : riseOdd xs (k + 1) = (riseOdd xs k || stepOdd xs k) := by
  simp [riseOdd, List.range_succ]

def backOdd (xs : List Turn) (i : Nat) : Bool := decide (0 < i) && decide ((xs.map Turn.p).getD i 0 ≤ (xs.map Turn.p).getD (i - 1) 0)

def backsOdd (xs : List Turn) (k : Nat) : Bool := (List.range k).any (backOdd xs)

theorem backsOdd_succ (xs : List Turn) (k : Nat) : backsOdd xs (k + 1) = (backsOdd xs k || backOdd xs k) := by
  simp [backsOdd, List.range_succ]

theorem any_take {α : Type} (f : α → Bool) (xs : List α) (k : Nat) (x : α) (h : xs[k]? = some x) : (xs.take (k + 1)).any f = ((xs.take k).any f || f x) := by
  have e : xs.take (k + 1) = xs.take k ++ [x] := by rw [List.take_add_one, h]; rfl
  rw [e]; simp

def Vote.odd (x : Vote) : Bool := decide (2 < x.s) || decide (x.f < 1) || (!x.has && (decide (x.bl ≠ 0) || decide (x.s = 0)))

def Guilt.odd (x : Guilt) : Bool := x.a.odd || x.c.odd

def Cert.odd (x : Cert) : Bool := (decide (x.s ≠ 1) && decide (x.s ≠ 2)) || (!x.has && decide (x.bl ≠ 0)) || riseOdd x.fr.xs x.fr.xs.length

def Proof.odd (x : Proof) : Bool := backsOdd x.tu.xs x.tu.xs.length || (x.leaf && decide (x.val = [])) || (!x.leaf && (decide (0 < x.tu.xs.length) || decide (x.key ≠ []) || decide (x.val ≠ [])))

def Sight.odd (x : Sight) : Bool := x.ce.odd || benchOdd x.se.xs

def isTo (k : Int) : Bool := decide (k = 1) || decide (k = 3) || decide (k = 7) || decide (k = 8)

def isAm (k : Int) : Bool := isTo k || (decide (k = 2) || decide (k = 4) || decide (k = 5))

def Tx.odd (x : Tx) : Bool := x.si.xs.any Sight.odd || x.pr.xs.any Proof.odd || (decide (x.k < 1) || decide (10 < x.k) || decide (x.f < 1)) || ((isTo x.k && decide (x.to < 1)) || (!isTo x.k && decide (x.to ≠ 0))) || (!isAm x.k && decide (x.am ≠ 0)) ||
  (decide (x.k ≠ 2) && decide (x.k ≠ 3) && decide (x.te ≠ [])) || (decide (x.k ≠ 3) && decide (0 < x.ar.xs.length)) || (decide (x.k = 9) != decide (x.si.xs.length = 1)) || (decide (x.k = 10) != decide (x.pr.xs.length = 1))

def Block.odd (x : Block) : Bool := x.tx.xs.any Tx.odd || x.gu.xs.any Guilt.odd

def Motion.odd (x : Motion) : Bool := x.bl.odd || x.ba.xs.any Cert.odd || decide (x.fr < 1)

def Known.odd (x : Known) : Bool := x.ce.odd || x.bl.odd

def Message.odd (x : Message) : Bool := x.vo.xs.any Vote.odd || x.mo.xs.any Motion.odd || x.kn.xs.any Known.odd || x.tx.xs.any Tx.odd || decide (x.fr < 1)
end Go.Proofs.Ytomkiglagpfnoaa.W
