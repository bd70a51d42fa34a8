/- Every key begins with nothing. -/
import Derived.Test.YtemlbcagkjmjgaaDoorM35
import Derived.RangeFuncNested
import Derived.RangeFuncWrites
import Derived.RangeFuncBox
import Derived.Maps.AppendAt
import Derived.Test.YtemlbcagkjmjgaaDoorM41
import Derived.Test.YtemlbcagkjmjgaaDoorTRPut
import Derived.OrdersIn
import Derived.OrdersHeld
import Derived.WalkKit
import Derived.Test.YtemlbcagkjmjgaaDoorTLast
import Derived.Deep.RegionHeld

namespace Go.Proofs.YtemlbcagkjmjgaaDoor
open Go.RowKit
set_option linter.unusedVariables false
set_option linter.unusedSimpArgs false

theorem hasPre_all (k : Key) (w : World) :
    Calls Tryd.prog 35 #[.string (str k), .string (str [])] w fun e w' => e = .returned (.bool true) ∧ w = w' := by
  have s1 := str_size k
  have s2 := str_size []
  have s3 := str_toList []
  have key : ∀ w, Calls Tryd.prog 60 #[.string (str k), .string (str [])] w fun e w' => e = .returned (.bool true) ∧ w = w' := by
    intro w
    go_enter Tryd.func60, Tryd.ntmps60
    go_wp2
    go_ret
    exact ⟨by simp, rfl⟩
  go_enter Tryd.func35, Tryd.ntmps35
  go_wp2_with fail
  refine (key _).mono ?_
  rintro e w' ⟨rfl, rfl⟩
  go_wp2
  go_ret
  exact ⟨rfl, rfl⟩
end Go.Proofs.YtemlbcagkjmjgaaDoor

namespace Go.Proofs.YtemlbcagkjmjgaaDoor
open Go.RowKit Go.Shelf
attribute [local go_sem] Oper.semAt_some
set_option linter.unusedVariables false
set_option linter.unusedSimpArgs false

theorem RoundIn.anyD {m m' : Nat} {P : Program} {l : Nat} {f : FuncId} {tmps : Array Value} {assign body : Code} {w : World} {R : Ending → World → Prop}
    (h : RoundIn Fence.wide m P l f tmps assign body w R) : RoundIn Fence.wide m' P l f tmps assign body w R := ⟨h.1, fun c cs _ => h.2 c cs (room_wide _)⟩
theorem YieldAt.anyD {m : Nat} (m' : Nat) {P : Program} {l : Nat} {args : Array Value} {W : World} {R : Ending → World → Prop} (h : YieldAt Fence.wide m P l args W R) : YieldAt Fence.wide m' P l args W R := by
  obtain ⟨fn, tmps, assign, body, hy, hR⟩ := h
  exact ⟨fn, tmps, assign, body, hy, RoundIn.anyD hR⟩

theorem leaves_stops (wd : Int) (w0 : World) (t : Tr) (n b Bn : Nat) (xs : List (Lf wd w0)) (hx : LeavesOf wd w0 b t xs) (w : World) (hB : Bn < w.heap.size) (h0 : Below w0.heap.size w0 w) (hc : w.cell? ⟨Bn, 0, none⟩ = some (.pointer (some ⟨b, 0, none⟩))) :
    SeqStopsK Fence.wide n Tryd.prog 58 #[.pointer (some ⟨Bn, 0, none⟩)] (fun x : Lf wd w0 => #[Value.pointer (some ⟨x.1.1, 0, none⟩)]) (Below w0.heap.size) (fun ys => ys = xs) (fun pre => pre <+: xs) xs.length w := fun l J Jx W hW _ _ hY hJ =>
  leaves1_in wd w0 l J Jx t n b Bn xs hx (fun m pre x W' hj hl => YieldAt.anyD m (hY pre x W' hj hl)) W (h0.trans (hW.mono h0.size)) ((hW.cell (p := ⟨Bn, 0, none⟩) hB).trans hc) hJ
end Go.Proofs.YtemlbcagkjmjgaaDoor

namespace Go.Proofs.YtemlbcagkjmjgaaDoor
open Go.RowKit
set_option linter.unusedVariables false
variable {P : Program} {md : Region.Mode} {ops : Array Oper} {Q : Exit → Act → World → Prop}

/-- No operation defers. -/
def noDefer (ops : Array Oper) : Bool := ops.all fun o => match o.op with | .defer _ => false | _ => true

theorem wpOpIn_of (l n : Nat) (hd : noDefer ops = true) (hout : ¬ LetsOut Q) {i : Nat} {K K' : Act → World → Prop} {a : Act} {w : World} (hK : ∀ a w, K a w → K' a w) (h : wpOp P ops Q i K a w) : wpOpIn (Fence.wide.inRound l) n P ops Q i K' a w := by
  unfold wpOp at h
  unfold wpOpIn
  cases ho : ops[i]? with
  | none => rw [ho] at h; exact hK _ _ h
  | some o =>
    rw [ho] at h
    simp only at h ⊢
    have hnd : ∀ c, o.op ≠ .defer c := by
      intro c e
      have hi := Array.getElem?_eq_some_iff.1 ho
      obtain ⟨hlt, he⟩ := hi
      have := (Array.all_eq_true.1 hd) i hlt
      rw [he, e] at this
      cases this
    split
    · rename_i hw
      rw [if_pos hw] at h
      rcases h with h | ⟨_, h⟩
      · refine ⟨fun _ _ => trivial, ?_⟩
        rw [Oper.semAt_eq _ _ _ hnd]
        unfold Oper.wp at h
        generalize (execOp a.eval o).run P w = r at h ⊢
        cases r with
        | ok x w' =>
          cases x with
          | value v => exact hK _ _ h
          | skip => exact hK _ _ h
          | defer d => exact hK _ _ h
          | enter f args =>
            refine ⟨fun hx => (by cases hx), (CallsIn.inRound l (callsIn_wide.2 h)).mono fun e w'' he => ?_⟩
            cases e with
            | returned v => exact hK _ _ he
            | panicked c => exact he
            | outgrown => exact he
          | row r args => exact ⟨fun hx => (by cases hx), fun c cs _ => let ⟨v, w'', r, s⟩ := h c cs; ⟨v, w'', hK _ _ r, stepsIn_wide.2 s⟩⟩
          | _ => exact h.elim
        | halt x w' => cases x <;> exact h
      · exact (hout h).elim
    · rename_i hw
      rw [if_neg hw] at h
      exact ⟨fun _ _ => trivial, hK _ _ h⟩

theorem wpAnyIn_of (l n : Nat) (hd : noDefer ops = true) (hout : ¬ LetsOut Q) : ∀ fuel listed a w, wpAny P md ops Q fuel listed a w → wpAnyIn (Fence.wide.inRound l) n P md ops Q fuel listed a w
  | 0, _, _, _, h => h
  | fuel + 1, _, _, _, h => ⟨h.1, fun i hi => wpOpIn_of l n hd hout (fun a' w' h' => wpAnyIn_of l n hd hout fuel _ a' w' h') (h.2 i hi)⟩

theorem wpIn_region_of {id : Nat} {a : Act} {w : World} (l n : Nat) (hm : P.follows .mixedOrders = true) (hd : noDefer ops = true) (hout : ¬ LetsOut Q)
    (h : wpAny P .any ops Q ops.size (Array.replicate ops.size false) a w.drew) : (Code.region id ops true).wpIn (Fence.wide.inRound l) n P Q a w :=
  wpIn_region_any hm (wpAnyIn_of l n hd hout _ _ _ _ h)
end Go.Proofs.YtemlbcagkjmjgaaDoor

namespace Go.Proofs.YtemlbcagkjmjgaaDoor
open Go.RowKit
set_option linter.unusedVariables false
variable {P : Program} {ops : Array Oper} {Q : Exit → Act → World → Prop}

theorem wpAny_region_last {S : World → Prop} {a : Act} {w : World} (m : Nat) (om : Oper) (hm : ops[m]? = some om) (hB : lastB .any ops m = true)
    (h : wpAnyH P .any (ops.setIfInBounds m { om with op := .move (.const undef) }) (ThenLast P ops Q m) S ops.size (Array.replicate ops.size false) a w.drew) : wpAny P .any ops Q ops.size (Array.replicate ops.size false) a w.drew := by
  unfold lastB at hB
  rw [hm] at hB
  simp only [Bool.and_eq_true, List.all_eq_true, List.mem_range] at hB
  obtain ⟨h1, ⟨h2, h3⟩, h4⟩ := hB
  have hml : m < ops.size := (Array.getElem?_eq_some_iff.1 hm).1
  have hd : om.dst = none := Option.isNone_iff_eq_none.1 h3
  have hgd : om.guard = none := Option.isNone_iff_eq_none.1 h4
  refine wpAny_last (ops' := ops.setIfInBounds m { om with op := .move (.const undef) }) m om { om with op := .move (.const undef) } (by simp) hm (by simp [hml]) (fun j hj => Array.getElem?_setIfInBounds_ne (Ne.symm hj)) rfl rfl hd hgd (nop_wp rfl hd) (nop_asks rfl) ?_ ?_ ops.size _ a _ (by simp) ?_ (wpAny_of_held _ _ _ _ h)
  · intro j o hj e he
    have hjl : j < ops.size := (Array.getElem?_eq_some_iff.1 hj).1
    have := h1 j hjl
    rw [hj] at this
    have := (Array.all_eq_true'.1 this) e he
    simpa using this
  · intro j hj hjm
    have := h2 j hj
    rw [Bool.or_eq_true] at this
    rcases this with h5 | h5
    · exact (hjm (by simpa using h5)).elim
    · obtain ⟨e, he, hb⟩ := Array.any_eq_true'.1 h5
      rw [Bool.and_eq_true] at hb
      exact ⟨e, he, hb.1, by simpa using hb.2⟩
  · simp [Array.getD, hml]

/-- A region inside a round, its last operation parted off. -/
theorem wpIn_region_last {S : World → Prop} {id : Nat} {a : Act} {w : World} (l n m : Nat) (om : Oper) (hm : ops[m]? = some om) (hB : lastB .any ops m = true) (hx : P.follows .mixedOrders = true) (hd : noDefer ops = true) (hout : ¬ LetsOut Q)
    (h : wpAnyH P .any (ops.setIfInBounds m { om with op := .move (.const undef) }) (ThenLast P ops Q m) S ops.size (Array.replicate ops.size false) a w.drew) : (Code.region id ops true).wpIn (Fence.wide.inRound l) n P Q a w :=
  wpIn_region_of l n hx hd hout (wpAny_region_last m om hm hB h)
/-- A region inside a round, by what is held. -/
theorem wpIn_region_held {S : World → Prop} {id : Nat} {a : Act} {w : World} (l n : Nat) (hx : P.follows .mixedOrders = true) (hd : noDefer ops = true) (hout : ¬ LetsOut Q)
    (h : wpAnyH P .any ops Q S ops.size (Array.replicate ops.size false) a w.drew) : (Code.region id ops true).wpIn (Fence.wide.inRound l) n P Q a w :=
  wpIn_region_of l n hx hd hout (wpAny_of_held _ _ _ _ h)
end Go.Proofs.YtemlbcagkjmjgaaDoor
