/- A pass over benches, views and results. -/
import Derived.Test.YtcpjcjonlkgblaaM24
import Derived.Test.YtcpjcjonlkgblaaM22

namespace Go.Proofs.Ytcpjcjonlkgblaa.W
open Go.RowKit
set_option linter.unusedVariables false



def viewP (o : Option (List UInt8)) (c wi ep h st : Int) (ps : List (Int × Int)) : Option (List UInt8) := seatL 7 (oApp (pNums o [c, wi, ep, h]) (be st 8)) ps

theorem seatL_none (most : Int) (ps : List (Int × Int)) : seatL most none ps = none := seats_none ps



/-- A cell is given the value that it has. -/
theorem Kp.same {base b k i : Nat} {w : World} {cs : Array Value} {t : TypeId} {v : Value} (h : Blk w k cs t) (hv : cs[i]? = some v) : Kp base b w (w.setCell ⟨k, i, none⟩ v) := by
  have hk : (w.setCell ⟨k, i, none⟩ v).heap[k]? = w.heap[k]? := by
    have h1 := h.set i v
    have e : cs.setIfInBounds i v = cs := by
      apply Array.ext_getElem?
      intro j
      rw [Array.getElem?_setIfInBounds]
      split
      · rename_i e; subst e
        rw [hv]
        have := (Array.getElem?_eq_some_iff.1 hv).1
        simp [this]
      · rfl
    rw [e] at h1
    unfold Blk at *
    rw [h, h1]
  have hall : ∀ j, (w.setCell ⟨k, i, none⟩ v).heap[j]? = w.heap[j]? := fun j => by
    by_cases e : j = k
    · subst e; exact hk
    · exact Below.heap_setCell _ _ _ _ e
  exact ⟨⟨rfl, rfl, rfl, by rw [show (w.setCell ⟨k, i, none⟩ v).heap.size = w.heap.size by simp [World.setCell]]; exact Nat.le_refl _, fun j _ => hall j⟩, fun j _ => hall j⟩

def resultP (o : Option (List UInt8)) (co us va : Int) (ps : List (Int × Int)) : Option (List UInt8) := noteL 64 (pNums o [co, us, va]) ps

theorem noteL_none (most : Int) (ps : List (Int × Int)) : noteL most none ps = none := notes_none ps


end Go.Proofs.Ytcpjcjonlkgblaa.W

namespace Go.Proofs.Ytcpjcjonlkgblaa.W
open Go.RowKit
set_option linter.unusedVariables false

theorem seats_at (ps : List (Int × Int)) : ∀ (out : List UInt8), seats (some out) ps = if okL (eachL pairA ps) = true then some (out ++ encL (eachL pairA ps)) else none := by
  induction ps with
  | nil => intro out; simp [seats, eachL, okL, encL]
  | cons p r ih =>
    intro out
    show seats (seatP (some out) p.1 p.2) r = _
    have e : seatP (some out) p.1 p.2 = if okL (pairA p) = true then some (out ++ encL (pairA p)) else none := pNums_at out [p.1, p.2]
    rw [e]
    simp only [eachL, okL_append, encL_append]
    by_cases h : okL (pairA p) = true
    · rw [if_pos h, ih, h, Bool.true_and, List.append_assoc]
    · rw [if_neg h, seats_none]
      simp [h]

theorem seatL_at (most : Int) (out : List UInt8) (ps : List (Int × Int)) : seatL most (some out) ps = if okL (listL most pairA ps) = true then some (out ++ encL (listL most pairA ps)) else none := by
  unfold seatL
  rw [pNum_at]
  by_cases h : okL [Atom.num most (ps.length : Int)] = true
  · rw [if_pos h, seats_at]
    have h' : (Atom.num most (ps.length : Int)).ok = true := by simpa [okL] using h
    simp only [listL, okL, encL, h', Bool.true_and, List.append_nil, List.append_assoc]
  · rw [if_neg h, seats_none]
    have h' : (Atom.num most (ps.length : Int)).ok = false := by simpa [okL] using h
    simp [listL, okL, h']

theorem seats_held {base b : Nat} {w : World} {l : Lst (Int × Int)} (h : l.Held pairF 2 base w) (hb : base ≤ b) : Seats w b l.la l.xs := by
  obtain ⟨_, _, h0 | ⟨rb, ro, e, rl, rz, rc⟩⟩ := h
  · exact .inl h0
  · exact .inr ⟨rb, ro, e, ⟨by omega, rz, .inl (by omega)⟩, fun i p hp => ⟨(rc i p hp).get0 rfl, (rc i p hp).get 1 rfl⟩⟩


end Go.Proofs.Ytcpjcjonlkgblaa.W
