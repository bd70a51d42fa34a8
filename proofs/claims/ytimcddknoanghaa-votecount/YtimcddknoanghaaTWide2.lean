/- The same, where the last operation is parted off. -/
import Derived.Test.YtimcddknoanghaaTWide
import Derived.Test.YtimcddknoanghaaTLast
import Derived.Deep.RegionHeld
namespace Go.Proofs.Ytimcddknoanghaa
open Go.RowKit
set_option linter.unusedVariables false
variable {P : Program} {ops : Array Oper} {Q : Exit → Act → World → Prop}

theorem wpAny_region_last {S : World → Prop} {a : Act} {w : World} (m : Nat) (om : Oper) (hm : ops[m]? = some om) (hB : lastB .any ops m = true)
    (h : wpAnyH P .any (ops.setIfInBounds m { om with op := .move (.const undef) }) (ThenLast P ops Q m) S ops.size (Array.replicate ops.size false) a w.drew) : wpAny P .any ops Q ops.size (Array.replicate ops.size false) a w.drew := by
  unfold lastB at hB
  rw [hm] at hB
  simp only [Bool.and_eq_true, List.all_eq_true, List.mem_range] at hB
  obtain ⟨h1, ⟨h2, h3⟩, h4⟩ := hB
  have hml : m < ops.size := (Array.getElem?_eq_some_iff.1 hm).1
  have hd : om.dst = none := Option.isNone_iff_eq_none.1 h3
  have hgd : om.guard = none := Option.isNone_iff_eq_none.1 h4
  refine wpAny_last (ops' := ops.setIfInBounds m { om with op := .move (.const undef) }) m om { om with op := .move (.const undef) } (by simp) hm (by simp [hml]) (fun j hj => Array.getElem?_setIfInBounds_ne (Ne.symm hj)) rfl rfl hd hgd (nop_wp rfl hd) (nop_asks rfl) ?_ ?_ ops.size _ a _ (by simp) ?_ (wpAny_of_held _ _ _ _ h)
  · intro j o hj e he
    have hjl : j < ops.size := (Array.getElem?_eq_some_iff.1 hj).1
    have := h1 j hjl
    rw [hj] at this
    have := (Array.all_eq_true'.1 this) e he
    simpa using this
  · intro j hj hjm
    have := h2 j hj
    rw [Bool.or_eq_true] at this
    rcases this with h5 | h5
    · exact (hjm (by simpa using h5)).elim
    · obtain ⟨e, he, hb⟩ := Array.any_eq_true'.1 h5
      rw [Bool.and_eq_true] at hb
      exact ⟨e, he, hb.1, by simpa using hb.2⟩
  · simp [Array.getD, hml]

/-- A region inside a round, its last operation parted off. -/
theorem wpIn_region_last {S : World → Prop} {id : Nat} {a : Act} {w : World} (l n m : Nat) (om : Oper) (hm : ops[m]? = some om) (hB : lastB .any ops m = true) (hx : P.follows .mixedOrders = true) (hd : noDefer ops = true) (hout : ¬ LetsOut Q)
    (h : wpAnyH P .any (ops.setIfInBounds m { om with op := .move (.const undef) }) (ThenLast P ops Q m) S ops.size (Array.replicate ops.size false) a w.drew) : (Code.region id ops true).wpIn (Fence.wide.inRound l) n P Q a w :=
  wpIn_region_of l n hx hd hout (wpAny_region_last m om hm hB h)
/-- A region inside a round, by what is held. -/
theorem wpIn_region_held {S : World → Prop} {id : Nat} {a : Act} {w : World} (l n : Nat) (hx : P.follows .mixedOrders = true) (hd : noDefer ops = true) (hout : ¬ LetsOut Q)
    (h : wpAnyH P .any ops Q S ops.size (Array.replicate ops.size false) a w.drew) : (Code.region id ops true).wpIn (Fence.wide.inRound l) n P Q a w :=
  wpIn_region_of l n hx hd hout (wpAny_of_held _ _ _ _ h)
end Go.Proofs.Ytimcddknoanghaa
