/- A pass over benches, views and results. -/
import Derived.Test.YtaifkidpdmhciaaGreatM23
import Derived.Test.YtaifkidpdmhciaaGreatM21

namespace Go.Proofs.YtaifkidpdmhciaaGreat
open Go.RowKit
set_option linter.unusedVariables false

theorem pbench_any (base b xb xo : Nat) (la : Option Addr) (lc : Nat) (ps : List (Int × Int)) (out : List UInt8) (w : World) (hn : ps.length ≤ 140737488351232) (hc : ps.length ≤ lc) (hcm : lc ≤ maxLen) (hL : out.length ≤ 1099511600000) (hP : PassAt w base b out) (hs : Safe w b xb) (hx : w.cell? ⟨xb, xo, none⟩ = some (.slice la ps.length lc)) (hps : Seats w b la ps) :
    Calls Tryz.prog 147 #[.pointer (some ⟨b, 0, none⟩), .pointer (some ⟨xb, xo, none⟩)] w fun e w' => Wrote base b (seatL 7 (some out) ps) e w' ∧ Kp base b w w' := by
  go_enter Tryz.func147, Tryz.ntmps147
  go_wp2_with fail
  refine (lSeat_any base b xb xo la lc 7 ps out _ (by omega) hn hc hcm hL hP hs hx hps).mono ?_
  rintro e w1 ⟨⟨o1, ho1, rfl, P1⟩ | ⟨ho1, rfl⟩, k1⟩
  · have H1 := show Hid (_ = _) from ho1
    clear ho1
    go_wp2
    go_end0
    exact ⟨.inl ⟨o1, H1.out, rfl, P1⟩, k1⟩
  · have H1 := show Hid (_ = _) from ho1
    clear ho1
    go_wp2
    exact ⟨rfl, .inr ⟨H1.out, rfl⟩, k1⟩

def viewP (o : Option (List UInt8)) (c wi ep h st : Int) (ps : List (Int × Int)) : Option (List UInt8) := seatL 7 (oApp (pNums o [c, wi, ep, h]) (be st 8)) ps
theorem seatL_none (most : Int) (ps : List (Int × Int)) : seatL most none ps = none := seats_none ps




end Go.Proofs.YtaifkidpdmhciaaGreat

namespace Go.Proofs.YtaifkidpdmhciaaGreat
open Go.RowKit
set_option linter.unusedVariables false

theorem seats_at (ps : List (Int × Int)) : ∀ (out : List UInt8), seats (some out) ps = if okL (eachL pairA ps) = true then some (out ++ encL (eachL pairA ps)) else none := by
  induction ps with
  | nil => intro out; simp [seats, eachL, okL, encL]
  | cons p r ih =>
    intro out
    show seats (seatP (some out) p.1 p.2) r = _
    have e : seatP (some out) p.1 p.2 = if okL (pairA p) = true then some (out ++ encL (pairA p)) else none := pNums_at out [p.1, p.2]
    rw [e]
    simp only [eachL, okL_append, encL_append]
    by_cases h : okL (pairA p) = true
    · rw [if_pos h, ih, h, Bool.true_and, List.append_assoc]
    · rw [if_neg h, seats_none]
      simp [h]
theorem seatL_at (most : Int) (out : List UInt8) (ps : List (Int × Int)) : seatL most (some out) ps = if okL (listL most pairA ps) = true then some (out ++ encL (listL most pairA ps)) else none := by
  unfold seatL
  rw [pNum_at]
  by_cases h : okL [Atom.num most (ps.length : Int)] = true
  · rw [if_pos h, seats_at]
    have h' : (Atom.num most (ps.length : Int)).ok = true := by simpa [okL] using h
    simp only [listL, okL, encL, h', Bool.true_and, List.append_nil, List.append_assoc]
  · rw [if_neg h, seats_none]
    have h' : (Atom.num most (ps.length : Int)).ok = false := by simpa [okL] using h
    simp [listL, okL, h']
theorem seats_held {base b : Nat} {w : World} {l : Lst (Int × Int)} (h : l.Held pairF 2 base w) (hb : base ≤ b) : Seats w b l.la l.xs := by
  obtain ⟨_, _, h0 | ⟨rb, ro, e, rl, rz, rc⟩⟩ := h
  · exact .inl h0
  · exact .inr ⟨rb, ro, e, ⟨by omega, rz, .inl (by omega)⟩, fun i p hp => ⟨(rc i p hp).get0 rfl, (rc i p hp).get 1 rfl⟩⟩
theorem pbench_anyX (base b xb xo : Nat) (l : Lst (Int × Int)) (out : List UInt8) (w : World) (hL : out.length + wtL (benchL l.xs) ≤ 1099511000000) (hP : PassAt w base b out) (hs : Safe w b xb) (hx : w.cell? ⟨xb, xo, none⟩ = some (.slice l.la l.xs.length l.lc)) (hh : l.Held pairF 2 base w) :
    Calls Tryz.prog 147 #[.pointer (some ⟨b, 0, none⟩), .pointer (some ⟨xb, xo, none⟩)] w fun e w' => Wr base b out (benchL l.xs) e w' ∧ Kp base b w w' := by
  have hn : l.xs.length ≤ 1099511000000 := by
    have key : ∀ ps : List (Int × Int), ps.length ≤ wtL (eachL pairA ps) := by
      intro ps
      induction ps with
      | nil => simp
      | cons p r ih => simp only [eachL, wtL_append, pairA, wtL, Atom.wt, List.length_cons]; omega
    have := key l.xs
    simp only [benchL, listL, wtL] at hL
    omega
  exact (pbench_any base b xb xo l.la l.lc l.xs out w (by omega) hh.1 hh.2.1 (by omega) hP hs hx (seats_held hh hP.le.1)).mono fun e w' ⟨h1, h2⟩ => ⟨h1.wr (seatL_at 7 out l.xs), h2⟩
end Go.Proofs.YtaifkidpdmhciaaGreat
