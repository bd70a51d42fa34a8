/- A pass over benches, views and results. -/
import Derived.Test.YtigbfbniicfpdaaGreatWList
namespace Go.Proofs.YtigbfbniicfpdaaGreat.W
open Go.RowKit
set_option linter.unusedVariables false

theorem pbench_any (base b xb xo : Nat) (la : Option Addr) (lc : Nat) (ps : List (Int × Int)) (out : List UInt8) (w : World) (hn : ps.length ≤ 140737488351232) (hc : ps.length ≤ lc) (hcm : lc ≤ maxLen) (hL : out.length ≤ 1099511600000) (hP : PassAt w base b out) (hs : Safe w b xb) (hx : w.cell? ⟨xb, xo, none⟩ = some (.slice la ps.length lc)) (hps : Seats w b la ps) :
    Calls Tryz.prog 47 #[.pointer (some ⟨b, 0, none⟩), .pointer (some ⟨xb, xo, none⟩)] w fun e w' => Wrote base b (seatL 7 (some out) ps) e w' ∧ Kp base b w w' := by
  go_enter Tryz.func47, Tryz.ntmps47
  go_wp2_with fail
  refine (lSeat_any base b xb xo la lc 7 ps out _ (by omega) hn hc hcm hL hP hs hx hps).mono ?_
  rintro e w1 ⟨⟨o1, ho1, rfl, P1⟩ | ⟨ho1, rfl⟩, k1⟩
  · have H1 := show Hid (_ = _) from ho1
    clear ho1
    go_wp2
    go_end0
    exact ⟨.inl ⟨o1, H1.out, rfl, P1⟩, k1⟩
  · have H1 := show Hid (_ = _) from ho1
    clear ho1
    go_wp2
    exact ⟨rfl, .inr ⟨H1.out, rfl⟩, k1⟩

def viewP (o : Option (List UInt8)) (c wi ep h st : Int) (ps : List (Int × Int)) : Option (List UInt8) := seatL 7 (oApp (pNums o [c, wi, ep, h]) (be st 8)) ps

theorem seatL_none (most : Int) (ps : List (Int × Int)) : seatL most none ps = none := seats_none ps



/-- A cell is given the value that it has. -/
theorem Kp.same {base b k i : Nat} {w : World} {cs : Array Value} {t : TypeId} {v : Value} (h : Blk w k cs t) (hv : cs[i]? = some v) : Kp base b w (w.setCell ⟨k, i, none⟩ v) := by
  have hk : (w.setCell ⟨k, i, none⟩ v).heap[k]? = w.heap[k]? := by
    have h1 := h.set i v
    have e : cs.setIfInBounds i v = cs := by
      apply Array.ext_getElem?
      intro j
      rw [Array.getElem?_setIfInBounds]
      split
      · rename_i e; subst e
        rw [hv]
        have := (Array.getElem?_eq_some_iff.1 hv).1
        simp [this]
      · rfl
    rw [e] at h1
    unfold Blk at *
    rw [h, h1]
  have hall : ∀ j, (w.setCell ⟨k, i, none⟩ v).heap[j]? = w.heap[j]? := fun j => by
    by_cases e : j = k
    · subst e; exact hk
    · exact Below.heap_setCell _ _ _ _ e
  exact ⟨⟨rfl, rfl, rfl, by rw [show (w.setCell ⟨k, i, none⟩ v).heap.size = w.heap.size by simp [World.setCell]]; exact Nat.le_refl _, fun j _ => hall j⟩, fun j _ => hall j⟩

def resultP (o : Option (List UInt8)) (co us va : Int) (ps : List (Int × Int)) : Option (List UInt8) := noteL 64 (pNums o [co, us, va]) ps

theorem noteL_none (most : Int) (ps : List (Int × Int)) : noteL most none ps = none := notes_none ps


end Go.Proofs.YtigbfbniicfpdaaGreat.W
