/- A pass over benches, the answer's benches: as lists of parts. -/
import Derived.Test.YtomkiglagpfnoaaXDigs
import Derived.Test.YtomkiglagpfnoaaWWalk2
namespace Go.Proofs.Ytomkiglagpfnoaa.W
open Go.RowKit
set_option linter.unusedVariables false

theorem seats_at (ps : List (Int × Int)) : ∀ (out : List UInt8), seats (some out) ps = if okL (eachL pairA ps) = true then some (out ++ encL (eachL pairA ps)) else none := by
  induction ps with
  | nil => intro out; simp [seats, eachL, okL, encL]
  | cons p r ih =>
    intro out
    show seats (seatP (some out) p.1 p.2) r = _
    have e : seatP (some out) p.1 p.2 = if okL (pairA p) = true then some (out ++ encL (pairA p)) else none := pNums_at out [p.1, p.2]
    rw [e]
    simp only [eachL, okL_append, encL_append]
    by_cases h : okL (pairA p) = true
    · rw [if_pos h, ih, h, Bool.true_and, List.append_assoc]
    · rw [if_neg h, seats_none]
      simp [h]

theorem seatL_at (most : Int) (out : List UInt8) (ps : List (Int × Int)) : seatL most (some out) ps = if okL (listL most pairA ps) = true then some (out ++ encL (listL most pairA ps)) else none := by
  unfold seatL
  rw [pNum_at]
  by_cases h : okL [Atom.num most (ps.length : Int)] = true
  · rw [if_pos h, seats_at]
    have h' : (Atom.num most (ps.length : Int)).ok = true := by simpa [okL] using h
    simp only [listL, okL, encL, h', Bool.true_and, List.append_nil, List.append_assoc]
  · rw [if_neg h, seats_none]
    have h' : (Atom.num most (ps.length : Int)).ok = false := by simpa [okL] using h
    simp [listL, okL, h']

theorem seats_held {base b : Nat} {w : World} {l : Lst (Int × Int)} (h : l.Held pairF 2 base w) (hb : base ≤ b) : Seats w b l.la l.xs := by
  obtain ⟨_, _, h0 | ⟨rb, ro, e, rl, rz, rc⟩⟩ := h
  · exact .inl h0
  · exact .inr ⟨rb, ro, e, ⟨by omega, rz, .inl (by omega)⟩, fun i p hp => ⟨(rc i p hp).get0 rfl, (rc i p hp).get 1 rfl⟩⟩


end Go.Proofs.Ytomkiglagpfnoaa.W
