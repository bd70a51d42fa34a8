/- The leaves of a tree, one behind the other. -/
import Derived.RangeFuncNested
import Derived.RangeFuncBound
import Derived.RangeFuncCalls
import Derived.RangeFuncLeaves
import Derived.Shelf.Abstract
import Derived.Shelf.RegionOpen
import Derived.WalkKit
import Derived.OwnWalkIn
import Derived.TacticsInMore
import Derived.LoopNIn
import Derived.LoopIn
import Derived.Test.YtmhllihedejehaaGreatM21
import Derived.RangeFuncWrites
import Derived.RangeFuncBox
import Derived.Maps.AppendAt
import Derived.OrdersIn
import Derived.OrdersHeld
import Derived.Test.YtmhllihedejehaaGreatM15
import Derived.Deep.RegionHeld

namespace Go.Proofs.YtmhllihedejehaaGreat
open Go.RowKit Go.Shelf
attribute [local go_sem] Oper.semAt_some
set_option linter.unusedVariables false
set_option linter.unusedSimpArgs false

/-- A leaf that lies in memory. -/
abbrev Lf (wd : Int) (w0 : World) := { x : Nat × Key × Key // NodeAt wd w0 x.1 (.leaf x.2.1 x.2.2) }
/-- These are the leaves of the tree. -/
def LeavesOf (wd : Int) (w0 : World) : Nat → Tr → List (Lf wd w0) → Prop
  | b, .leaf k v, xs => ∃ h, xs = [⟨(b, k, v), h⟩]
  | b, .fork p l r, xs => ∃ bl br ys zs, Blk w0 b #[.int .u64 (Tr.dig wd (.fork p l r)), .string ⟨#[]⟩, .string ⟨#[]⟩, .int .i64 p, .pointer (some ⟨bl, 0, none⟩), .pointer (some ⟨br, 0, none⟩)] 103 ∧ LeavesOf wd w0 bl l ys ∧ LeavesOf wd w0 br r zs ∧ xs = ys ++ zs
theorem leaves_of (wd : Int) (w0 : World) (t : Tr) : ∀ b, NodeAt wd w0 b t → ∃ xs, LeavesOf wd w0 b t xs ∧ xs.map (fun x => x.1.2) = t.items := by
  induction t with
  | leaf k v => intro b h; exact ⟨[⟨(b, k, v), h⟩], ⟨h, rfl⟩, rfl⟩
  | fork p l r ihl ihr =>
    intro b h
    obtain ⟨bl, br, hb, hl, hr⟩ := h
    obtain ⟨ys, h1, e1⟩ := ihl bl hl
    obtain ⟨zs, h2, e2⟩ := ihr br hr
    exact ⟨ys ++ zs, ⟨bl, br, ys, zs, hb, h1, h2, rfl⟩, by simp [Tr.items, e1, e2]⟩

set_option maxRecDepth 100000 in
set_option maxHeartbeats 2000000 in
theorem each_in (wd : Int) (w0 : World) (lb N : Nat) (J Jx : List (Lf wd w0) → World → Prop)
    (hY : ∀ m pre x W, J pre W → pre.length < N → YieldAt Fence.wide m Tryz.prog lb #[.pointer (some ⟨x.1.1, 0, none⟩)] W fun e W' =>
      (e = .returned (.bool true) ∧ J (pre ++ [x]) W' ∧ Below w0.heap.size W W') ∨ (e = .returned (.bool false) ∧ Jx (pre ++ [x]) W')) (t : Tr) :
    ∀ (n b : Nat) (xs pre : List (Lf wd w0)) (W : World), LeavesOf wd w0 b t xs → Below w0.heap.size w0 W → J pre W → pre.length + xs.length ≤ N →
      CallsIn Fence.wide n Tryz.prog 69 #[.pointer (some ⟨b, 0, none⟩), .func (.yield lb) #[] #[]] W fun e W' =>
        (e = .returned (.bool true) ∧ J (pre ++ xs) W' ∧ Below w0.heap.size W W') ∨ (e = .returned (.bool false) ∧ ∃ q, q <+: xs ∧ Jx (pre ++ q) W') := by
  have hdd : ∀ k : Nat, (Fence.wide.depth.isSome = true → 1 ≤ k) := fun k h => by cases h
  induction t with
  | leaf k v =>
    intro n b xs pre W hx hb hJ hN
    obtain ⟨h, rfl⟩ := hx
    have KF := callsIn_wide (n := n - 1) |>.2 (forks_leaf wd b k v W (NodeAt.below hb h))
    obtain ⟨fn, tmps, assign, body, hy, hR⟩ := hY (n - 1) pre ⟨(b, k, v), h⟩ W hJ (by simp at hN; omega)
    dsimp only at hy
    refine callsIn_of_wp Tryz.func69 rfl trivial ?_ rfl
    simp only [Tryz.ntmps69, List.size_toArray, List.length_cons, List.length_nil, Nat.reduceAdd, Nat.reduceSub, Array.replicate_succ, Array.replicate_zero, List.push_toArray, List.append_toArray, List.nil_append, List.cons_append]
    gi_wp2_with (first
      | ((try refine ⟨trivial, ?_⟩); (try refine ⟨hdd _, ?_⟩); gi_at_call 65; refine KF.mono ?_; clear KF; rintro e W1 ⟨rfl, rfl⟩)
      | ((try refine ⟨trivial, ?_⟩); (try refine ⟨hdd _, ?_⟩); refine hR.mono ?_; clear hR; rintro e W2 (⟨rfl, hJ2, hb2⟩ | ⟨rfl, hx2⟩)))
    · go_ret
      exact .inl ⟨rfl, hJ2, hb2⟩
    · go_ret
      exact .inr ⟨rfl, _, List.prefix_refl _, hx2⟩
  | fork p l r ihl ihr =>
    intro n b xs pre W hx hb hJ hN
    obtain ⟨bl, br, ys, zs, kB, h1, h2, rfl⟩ := hx
    simp only [List.length_append] at hN
    have kW := kB.below hb kB.lt
    have c4 := (kW.cell 4).trans rfl
    have KF : CallsIn Fence.wide (n - 1) Tryz.prog 65 #[.pointer (some ⟨b, 0, none⟩)] W fun e w' => e = .returned (.bool true) ∧ W = w' := by
      refine callsIn_wide.2 ?_
      have c4' := c4
      clear hN h1 h2
      go_enter Tryz.func65, Tryz.ntmps65
      go_wp2
      go_ret
      exact ⟨rfl, rfl⟩
    have ih1 := (ihl (n - 1) bl ys pre W h1 hb hJ (by omega)).mono (R' := fun e W1 =>
        (e = .returned (.bool true) ∧ J (pre ++ ys) W1 ∧ Below w0.heap.size W W1 ∧ W1.cell? ⟨b, 5, none⟩ = some (.pointer (some ⟨br, 0, none⟩)) ∧ Below w0.heap.size w0 W1) ∨
        (e = .returned (.bool false) ∧ ∃ q, q <+: ys ∧ Jx (pre ++ q) W1))
      (fun e W1 h => h.elim (fun ⟨he, hj, hb1⟩ => .inl ⟨he, hj, hb1, ((kB.below (hb.trans hb1) kB.lt).cell 5).trans rfl, hb.trans hb1⟩) .inr)
    clear ihl
    refine callsIn_of_wp Tryz.func69 rfl trivial ?_ rfl
    simp only [Tryz.ntmps69, List.size_toArray, List.length_cons, List.length_nil, Nat.reduceAdd, Nat.reduceSub, Array.replicate_succ, Array.replicate_zero, List.push_toArray, List.append_toArray, List.nil_append, List.cons_append]
    gi_wp2_with (first
      | ((try refine ⟨trivial, ?_⟩); (try refine ⟨hdd _, ?_⟩); gi_at_call 65; refine KF.mono ?_; clear KF; rintro e W1 ⟨rfl, rfl⟩)
      | ((try refine ⟨trivial, ?_⟩); (try refine ⟨hdd _, ?_⟩); gi_at_call 69; refine ih1.mono ?_; clear ih1; rintro e W1 (⟨rfl, hJ1, hb1, c5, hbW⟩ | ⟨rfl, q, hq, hx1⟩))
      | ((try refine ⟨trivial, ?_⟩); (try refine ⟨hdd _, ?_⟩); gi_at_call 69; refine (ihr (n - 1) br zs _ _ h2 hbW hJ1 (by simp; omega)).mono ?_; rintro e W3 (⟨rfl, hJ3, hb3⟩ | ⟨rfl, q, hq, hx3⟩)))
    · go_ret
      exact .inl ⟨rfl, by rw [← List.append_assoc]; exact hJ3, hb1.trans hb3⟩
    · go_ret
      obtain ⟨z, hz⟩ := hq
      exact .inr ⟨rfl, ys ++ q, ⟨z, by rw [List.append_assoc, hz]⟩, by rw [← List.append_assoc]; exact hx3⟩
    · refine ⟨trivial, ?_⟩
      gi_wp2
      go_ret
      exact .inr ⟨rfl, q, hq.trans (List.prefix_append _ _), hx1⟩

/-- What the closure of leaves does, where a tree's top lies in its box. -/
theorem leaves1_in (wd : Int) (w0 : World) (lb : Nat) (J Jx : List (Lf wd w0) → World → Prop) (t : Tr) (n b Bn : Nat) (xs : List (Lf wd w0)) (hx : LeavesOf wd w0 b t xs)
    (hY : ∀ m pre x W, J pre W → pre.length < xs.length → YieldAt Fence.wide m Tryz.prog lb #[.pointer (some ⟨x.1.1, 0, none⟩)] W fun e W' =>
      (e = .returned (.bool true) ∧ J (pre ++ [x]) W' ∧ Below w0.heap.size W W') ∨ (e = .returned (.bool false) ∧ Jx (pre ++ [x]) W'))
    (W : World) (hb : Below w0.heap.size w0 W) (hBn : W.cell? ⟨Bn, 0, none⟩ = some (.pointer (some ⟨b, 0, none⟩))) (h0 : J [] W) :
    CallsIn Fence.wide n Tryz.prog 68 #[.func (.yield lb) #[] #[], .pointer (some ⟨Bn, 0, none⟩)] W fun e W' => (∃ v, e = .returned v) ∧ ((∃ ys, ys = xs ∧ J ys W') ∨ (∃ pre, pre <+: xs ∧ Jx pre W')) := by
  have hdd : ∀ k : Nat, (Fence.wide.depth.isSome = true → 1 ≤ k) := fun k h => by cases h
  have hp := each_in wd w0 lb xs.length J Jx hY t (n - 1) b xs [] W hx hb h0 (by simp)
  refine callsIn_of_wp Tryz.func68 rfl trivial ?_ rfl
  simp only [Tryz.ntmps68, List.size_toArray, List.length_cons, List.length_nil, Nat.reduceAdd, Nat.reduceSub, Array.replicate_succ, Array.replicate_zero, List.push_toArray, List.append_toArray, List.nil_append, List.cons_append]
  gi_wp2_with ((try refine ⟨trivial, ?_⟩); (try refine ⟨hdd _, ?_⟩); gi_at_call 69; refine hp.mono ?_; clear hp; rintro e W1 (⟨rfl, hJ1, _⟩ | ⟨rfl, q, hq, hx⟩))
  · go_end0
    exact ⟨⟨_, rfl⟩, .inl ⟨_, rfl, by simpa using hJ1⟩⟩
  · go_end0
    exact ⟨⟨_, rfl⟩, .inr ⟨q, hq, by simpa using hx⟩⟩
end Go.Proofs.YtmhllihedejehaaGreat

namespace Go.Proofs.YtmhllihedejehaaGreat
open Go.RowKit
set_option linter.unusedVariables false
set_option linter.unusedSimpArgs false

/-- The closure that leaves gives: the top lies in its box. -/
def LeavesFn (q : Option Addr) (w : World) (e : Ending) (w' : World) : Prop := ∃ B, e = .returned (.func (.func 68) #[] #[.pointer (some ⟨B, 0, none⟩)]) ∧ w'.cell? ⟨B, 0, none⟩ = some (.pointer q) ∧ w.heap.size ≤ B ∧ B < w'.heap.size

set_option maxHeartbeats 1600000 in
theorem leaves_none (wd : Int) (w : World) :
    Calls Tryz.prog 40 #[.agg #[.int .i64 wd, .pointer none], .string (str [])] w fun e w' => LeavesFn none w e w' ∧ Below w.heap.size w w' := by
  have hmf : ∀ (fn : Fn) (first cap : Array Value) (w : World), (Instr.makeFunc fn first cap).run Tryz.prog w = .ok (.func fn first cap) w := fun _ _ _ _ => rfl
  go_enter Tryz.func40, Tryz.ntmps40
  go_wp2_with fail
  refine wp_loop_rounds 1 ?_
  rw [rounds_succ]
  go_wp2
  go_ret
  exact ⟨⟨w.heap.size + 1, rfl, by simp, by omega, by simp⟩, ((Below.refl _ _).alloc (Nat.le_refl _) _).alloc (by simp) _⟩

set_option maxHeartbeats 1600000 in
theorem leaves_some (wd : Int) (b : Nat) (t : Tr) (w : World) (h : NodeAt wd w b t) :
    Calls Tryz.prog 40 #[.agg #[.int .i64 wd, .pointer (some ⟨b, 0, none⟩)], .string (str [])] w fun e w' => LeavesFn (some ⟨b, 0, none⟩) w e w' ∧ Below w.heap.size w w' := by
  have hmf : ∀ (fn : Fn) (first cap : Array Value) (w : World), (Instr.makeFunc fn first cap).run Tryz.prog w = .ok (.func fn first cap) w := fun _ _ _ _ => rfl
  have bA : Below w.heap.size w ((w.alloc (.cells #[.int .i64 wd, .pointer (some ⟨b, 0, none⟩)] 34)).alloc (.cells #[.pointer (some ⟨b, 0, none⟩)] 32)) := ((Below.refl _ _).alloc (Nat.le_refl _) _).alloc (by simp) _
  have hA := NodeAt.below bA h
  have hlt := h.lt
  have s0 := str_size []
  have kB := Blk.new (w.alloc (.cells #[.int .i64 wd, .pointer (some ⟨b, 0, none⟩)] 34)) #[.pointer (some ⟨b, 0, none⟩)] 32
  rw [World.size_alloc] at kB
  have q0 := (kB.cell 0).trans rfl
  have zB := kB.lt
  go_enter Tryz.func40, Tryz.ntmps40
  go_wp2_with fail
  generalize (w.alloc (.cells #[.int .i64 wd, .pointer (some ⟨b, 0, none⟩)] 34)).alloc (.cells #[.pointer (some ⟨b, 0, none⟩)] 32) = wA at *
  refine wp_loop_rounds 1 ?_
  rw [rounds_succ]
  cases t with
  | leaf k v =>
    have key := forks_leaf wd b k v wA hA
    go_wp2_with fail
    refine key.mono ?_
    rintro e w' ⟨rfl, rfl⟩
    go_wp2
    go_ret
    exact ⟨⟨w.heap.size + 1, rfl, q0, by omega, zB⟩, bA⟩
  | fork p l r =>
    have key := forks_fork wd b p l r wA hA
    obtain ⟨bl, br, kN, _, _⟩ := hA
    have c3 := (kN.cell 3).trans rfl
    have hp : ¬ (p : Int) < 0 := by omega
    go_wp2_with fail
    refine key.mono ?_
    rintro e w' ⟨rfl, rfl⟩
    go_wp2
    go_ret
    exact ⟨⟨w.heap.size + 1, rfl, q0, by omega, zB⟩, bA⟩

theorem leaves_all (wd : Int) (q : Option Addr) (o : Option Tr) (w : World) (h : TopAt wd w (.pointer q) o) :
    Calls Tryz.prog 40 #[.agg #[.int .i64 wd, .pointer q], .string (str [])] w fun e w' => LeavesFn q w e w' ∧ Below w.heap.size w w' := by
  cases o with
  | none =>
    have e : q = none := by have h : Value.pointer q = .pointer none := h; injection h
    subst e
    exact leaves_none wd w
  | some t =>
    obtain ⟨b, e, hn⟩ := h
    have e : q = some ⟨b, 0, none⟩ := by injection e
    subst e
    exact leaves_some wd b t w hn
end Go.Proofs.YtmhllihedejehaaGreat

namespace Go.Proofs.YtmhllihedejehaaGreat
open Go.RowKit
set_option linter.unusedVariables false
set_option linter.unusedSimpArgs false

theorem hasPre_all (k : Key) (w : World) :
    Calls Tryz.prog 41 #[.string (str k), .string (str [])] w fun e w' => e = .returned (.bool true) ∧ w = w' := by
  have s1 := str_size k
  have s2 := str_size []
  have s3 := str_toList []
  have key : ∀ w, Calls Tryz.prog 70 #[.string (str k), .string (str [])] w fun e w' => e = .returned (.bool true) ∧ w = w' := by
    intro w
    go_enter Tryz.func70, Tryz.ntmps70
    go_wp2
    go_ret
    exact ⟨by simp, rfl⟩
  go_enter Tryz.func41, Tryz.ntmps41
  go_wp2_with fail
  refine (key _).mono ?_
  rintro e w' ⟨rfl, rfl⟩
  go_wp2
  go_ret
  exact ⟨rfl, rfl⟩
end Go.Proofs.YtmhllihedejehaaGreat

namespace Go.Proofs.YtmhllihedejehaaGreat
open Go.RowKit Go.Shelf
attribute [local go_sem] Oper.semAt_some
set_option linter.unusedVariables false
set_option linter.unusedSimpArgs false

theorem RoundIn.anyD {m m' : Nat} {P : Program} {l : Nat} {f : FuncId} {tmps : Array Value} {assign body : Code} {w : World} {R : Ending → World → Prop}
    (h : RoundIn Fence.wide m P l f tmps assign body w R) : RoundIn Fence.wide m' P l f tmps assign body w R := ⟨h.1, fun c cs _ => h.2 c cs (room_wide _)⟩
theorem YieldAt.anyD {m : Nat} (m' : Nat) {P : Program} {l : Nat} {args : Array Value} {W : World} {R : Ending → World → Prop} (h : YieldAt Fence.wide m P l args W R) : YieldAt Fence.wide m' P l args W R := by
  obtain ⟨fn, tmps, assign, body, hy, hR⟩ := h
  exact ⟨fn, tmps, assign, body, hy, RoundIn.anyD hR⟩

theorem leaves_stops (wd : Int) (w0 : World) (t : Tr) (n b Bn : Nat) (xs : List (Lf wd w0)) (hx : LeavesOf wd w0 b t xs) (w : World) (hB : Bn < w.heap.size) (h0 : Below w0.heap.size w0 w) (hc : w.cell? ⟨Bn, 0, none⟩ = some (.pointer (some ⟨b, 0, none⟩))) :
    SeqStopsK Fence.wide n Tryz.prog 68 #[.pointer (some ⟨Bn, 0, none⟩)] (fun x : Lf wd w0 => #[Value.pointer (some ⟨x.1.1, 0, none⟩)]) (Below w0.heap.size) (fun ys => ys = xs) (fun pre => pre <+: xs) xs.length w := fun l J Jx W hW _ _ hY hJ =>
  leaves1_in wd w0 l J Jx t n b Bn xs hx (fun m pre x W' hj hl => YieldAt.anyD m (hY pre x W' hj hl)) W (h0.trans (hW.mono h0.size)) ((hW.cell (p := ⟨Bn, 0, none⟩) hB).trans hc) hJ
end Go.Proofs.YtmhllihedejehaaGreat

namespace Go.Proofs.YtmhllihedejehaaGreat
open Go.RowKit
set_option linter.unusedVariables false
variable {P : Program} {md : Region.Mode} {ops : Array Oper} {Q : Exit → Act → World → Prop}

/-- No operation defers. -/
def noDefer (ops : Array Oper) : Bool := ops.all fun o => match o.op with | .defer _ => false | _ => true

theorem wpOpIn_of (l n : Nat) (hd : noDefer ops = true) (hout : ¬ LetsOut Q) {i : Nat} {K K' : Act → World → Prop} {a : Act} {w : World} (hK : ∀ a w, K a w → K' a w) (h : wpOp P ops Q i K a w) : wpOpIn (Fence.wide.inRound l) n P ops Q i K' a w := by
  unfold wpOp at h
  unfold wpOpIn
  cases ho : ops[i]? with
  | none => rw [ho] at h; exact hK _ _ h
  | some o =>
    rw [ho] at h
    simp only at h ⊢
    have hnd : ∀ c, o.op ≠ .defer c := by
      intro c e
      have hi := Array.getElem?_eq_some_iff.1 ho
      obtain ⟨hlt, he⟩ := hi
      have := (Array.all_eq_true.1 hd) i hlt
      rw [he, e] at this
      cases this
    split
    · rename_i hw
      rw [if_pos hw] at h
      rcases h with h | ⟨_, h⟩
      · refine ⟨fun _ _ => trivial, ?_⟩
        rw [Oper.semAt_eq _ _ _ hnd]
        unfold Oper.wp at h
        generalize (execOp a.eval o).run P w = r at h ⊢
        cases r with
        | ok x w' =>
          cases x with
          | value v => exact hK _ _ h
          | skip => exact hK _ _ h
          | defer d => exact hK _ _ h
          | enter f args =>
            refine ⟨fun hx => (by cases hx), (CallsIn.inRound l (callsIn_wide.2 h)).mono fun e w'' he => ?_⟩
            cases e with
            | returned v => exact hK _ _ he
            | panicked c => exact he
            | outgrown => exact he
          | row r args => exact ⟨fun hx => (by cases hx), fun c cs _ => let ⟨v, w'', r, s⟩ := h c cs; ⟨v, w'', hK _ _ r, stepsIn_wide.2 s⟩⟩
          | _ => exact h.elim
        | halt x w' => cases x <;> exact h
      · exact (hout h).elim
    · rename_i hw
      rw [if_neg hw] at h
      exact ⟨fun _ _ => trivial, hK _ _ h⟩

theorem wpAnyIn_of (l n : Nat) (hd : noDefer ops = true) (hout : ¬ LetsOut Q) : ∀ fuel listed a w, wpAny P md ops Q fuel listed a w → wpAnyIn (Fence.wide.inRound l) n P md ops Q fuel listed a w
  | 0, _, _, _, h => h
  | fuel + 1, _, _, _, h => ⟨h.1, fun i hi => wpOpIn_of l n hd hout (fun a' w' h' => wpAnyIn_of l n hd hout fuel _ a' w' h') (h.2 i hi)⟩

theorem wpIn_region_of {id : Nat} {a : Act} {w : World} (l n : Nat) (hm : P.follows .mixedOrders = true) (hd : noDefer ops = true) (hout : ¬ LetsOut Q)
    (h : wpAny P .any ops Q ops.size (Array.replicate ops.size false) a w.drew) : (Code.region id ops true).wpIn (Fence.wide.inRound l) n P Q a w :=
  wpIn_region_any hm (wpAnyIn_of l n hd hout _ _ _ _ h)
end Go.Proofs.YtmhllihedejehaaGreat

namespace Go.Proofs.YtmhllihedejehaaGreat
open Go.RowKit
set_option linter.unusedVariables false
variable {P : Program} {ops : Array Oper} {Q : Exit → Act → World → Prop}

theorem wpAny_region_last {S : World → Prop} {a : Act} {w : World} (m : Nat) (om : Oper) (hm : ops[m]? = some om) (hB : lastB .any ops m = true)
    (h : wpAnyH P .any (ops.setIfInBounds m { om with op := .move (.const undef) }) (ThenLast P ops Q m) S ops.size (Array.replicate ops.size false) a w.drew) : wpAny P .any ops Q ops.size (Array.replicate ops.size false) a w.drew := by
  unfold lastB at hB
  rw [hm] at hB
  simp only [Bool.and_eq_true, List.all_eq_true, List.mem_range] at hB
  obtain ⟨h1, ⟨h2, h3⟩, h4⟩ := hB
  have hml : m < ops.size := (Array.getElem?_eq_some_iff.1 hm).1
  have hd : om.dst = none := Option.isNone_iff_eq_none.1 h3
  have hgd : om.guard = none := Option.isNone_iff_eq_none.1 h4
  refine wpAny_last (ops' := ops.setIfInBounds m { om with op := .move (.const undef) }) m om { om with op := .move (.const undef) } (by simp) hm (by simp [hml]) (fun j hj => Array.getElem?_setIfInBounds_ne (Ne.symm hj)) rfl rfl hd hgd (nop_wp rfl hd) (nop_asks rfl) ?_ ?_ ops.size _ a _ (by simp) ?_ (wpAny_of_held _ _ _ _ h)
  · intro j o hj e he
    have hjl : j < ops.size := (Array.getElem?_eq_some_iff.1 hj).1
    have := h1 j hjl
    rw [hj] at this
    have := (Array.all_eq_true'.1 this) e he
    simpa using this
  · intro j hj hjm
    have := h2 j hj
    rw [Bool.or_eq_true] at this
    rcases this with h5 | h5
    · exact (hjm (by simpa using h5)).elim
    · obtain ⟨e, he, hb⟩ := Array.any_eq_true'.1 h5
      rw [Bool.and_eq_true] at hb
      exact ⟨e, he, hb.1, by simpa using hb.2⟩
  · simp [Array.getD, hml]

/-- A region inside a round, its last operation parted off. -/
theorem wpIn_region_last {S : World → Prop} {id : Nat} {a : Act} {w : World} (l n m : Nat) (om : Oper) (hm : ops[m]? = some om) (hB : lastB .any ops m = true) (hx : P.follows .mixedOrders = true) (hd : noDefer ops = true) (hout : ¬ LetsOut Q)
    (h : wpAnyH P .any (ops.setIfInBounds m { om with op := .move (.const undef) }) (ThenLast P ops Q m) S ops.size (Array.replicate ops.size false) a w.drew) : (Code.region id ops true).wpIn (Fence.wide.inRound l) n P Q a w :=
  wpIn_region_of l n hx hd hout (wpAny_region_last m om hm hB h)
/-- A region inside a round, by what is held. -/
theorem wpIn_region_held {S : World → Prop} {id : Nat} {a : Act} {w : World} (l n : Nat) (hx : P.follows .mixedOrders = true) (hd : noDefer ops = true) (hout : ¬ LetsOut Q)
    (h : wpAnyH P .any ops Q S ops.size (Array.replicate ops.size false) a w.drew) : (Code.region id ops true).wpIn (Fence.wide.inRound l) n P Q a w :=
  wpIn_region_of l n hx hd hout (wpAny_of_held _ _ _ _ h)
end Go.Proofs.YtmhllihedejehaaGreat
