/- A pass over two votes. -/
import Derived.Test.YtomkiglagpfnoaaWWalk
namespace Go.Proofs.Ytomkiglagpfnoaa.W
open Go.RowKit
set_option linter.unusedVariables false

theorem oApp_none (l : List UInt8) : oApp none l = none := rfl

theorem pNum_none (most n : Int) : pNum most none n = none := rfl

theorem oApp_len {o : Option (List UInt8)} {l r : List UInt8} (h : oApp o l = some r) : ∃ x, o = some x ∧ r.length = x.length + l.length := by
  cases o with
  | none => cases h
  | some x => simp only [oApp, Option.map_some, Option.some.injEq] at h; subst h; exact ⟨x, rfl, by simp⟩

theorem pNum_some {most n : Int} {o : Option (List UInt8)} {r : List UInt8} (h : pNum most o n = some r) : ∃ x, o = some x ∧ r.length ≤ x.length + 6 := by
  cases o with
  | none => cases h
  | some x => exact ⟨x, rfl, pNum_len h⟩

theorem voteP_none (h r s : Int) (has : Bool) (bl f : Int) : voteP none h r s has bl f = none := by
  unfold voteP; rw [pNums_none]; rfl

theorem voteP_len {out o : List UInt8} {h r s : Int} {has : Bool} {bl f : Int} (e : voteP (some out) h r s has bl f = some o) : o.length ≤ out.length + 40 := by
  unfold voteP at e
  obtain ⟨x, e1, l1⟩ := pNum_some e
  obtain ⟨y, e2, l2⟩ := oApp_len e1
  obtain ⟨z, e3, l3⟩ := oApp_len e2
  have l4 := pNums_len e3
  have l5 := be_len bl 8
  simp only [List.length_cons, List.length_nil, flagB] at *
  omega

set_option maxHeartbeats 800000 in
theorem pguilt_any (base b xb : Nat) (h r s : Int) (has : Bool) (bl f h2 r2 s2 : Int) (has2 : Bool) (bl2 f2 : Int) (out : List UInt8) (w : World) (hbl : 0 ≤ bl ∧ bl ≤ 18446744073709551615) (hbl2 : 0 ≤ bl2 ∧ bl2 ≤ 18446744073709551615) (hL : out.length ≤ 1099511610000) (hP : PassAt w base b out) (hs : Safe w b xb) (hV : VoteAt w xb 0 h r s has bl f) (hV2 : VoteAt w xb 6 h2 r2 s2 has2 bl2 f2) :
    Calls Try.prog 23 #[.pointer (some ⟨b, 0, none⟩), .pointer (some ⟨xb, 0, none⟩)] w fun e w' => Wrote base b (voteP (voteP (some out) h r s has bl f) h2 r2 s2 has2 bl2 f2) e w' ∧ Kp base b w w' := by
  go_enter Try.func23, Try.ntmps23
  go_wp2_with fail
  refine (pvote_any base b xb 0 h r s has bl f out _ hbl (by omega) hP hs hV).mono ?_
  rintro e w1 ⟨⟨o1, ho1, rfl, P1⟩ | ⟨ho1, rfl⟩, k1⟩
  · have s1 := hs.kp k1
    have V1 := hV2.kp hs k1
    have l1 := voteP_len ho1
    have H1 := show Hid (_ = _) from ho1
    clear ho1
    go_wp2_with fail
    refine (pvote_any base b xb 6 h2 r2 s2 has2 bl2 f2 o1 _ hbl2 (by omega) P1 s1 V1).mono ?_
    rintro e w2 ⟨⟨o2, ho2, rfl, P2⟩ | ⟨ho2, rfl⟩, k2⟩
    · have H2 := show Hid (_ = _) from ho2
      clear ho2
      go_wp2
      go_end0
      exact ⟨.inl ⟨o2, by rw [H1.out]; exact H2.out, rfl, P2⟩, k1.trans k2⟩
    · have H2 := show Hid (_ = _) from ho2
      clear ho2
      go_wp2
      exact ⟨rfl, .inr ⟨by rw [H1.out]; exact H2.out, rfl⟩, k1.trans k2⟩
  · have H1 := show Hid (_ = _) from ho1
    clear ho1
    go_wp2
    exact ⟨rfl, .inr ⟨by rw [H1.out]; exact voteP_none _ _ _ _ _ _, rfl⟩, k1⟩
end Go.Proofs.Ytomkiglagpfnoaa.W
