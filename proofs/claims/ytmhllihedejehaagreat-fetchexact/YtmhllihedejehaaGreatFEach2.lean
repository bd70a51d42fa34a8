/- The walk over the places. -/
import Derived.Test.YtmhllihedejehaaGreatM26
import Derived.Sort.CutIn
namespace Go.Proofs.YtmhllihedejehaaGreat
open Go.RowKit Go.Shelf
attribute [local go_sem] Oper.semAt_some
set_option linter.unusedVariables false
set_option linter.unusedSimpArgs false

theorem PT.ways_fork (b : Nat) (d : Int) (l r : PT) (p : Key) (h : (l.isNo && r.isNo) = false) : (PT.is b d l r).ways p = l.ways (p ++ [48]) ++ r.ways (p ++ [49]) := by
  unfold PT.ways
  rw [show (PT.is b d l r).wants p = l.wants (p ++ [48]) ++ r.wants (p ++ [49]) by show (if _ then _ else _) = _; rw [h]; rfl, List.map_append]

theorem idx0 (a b : Option Addr) (w : World) : (Instr.index 69 (.agg #[.pointer a, .pointer b]) (.int .i64 0)).run Tryz.prog w = .ok (.pointer a) w := by kernel_rfl
theorem idx1 (a b : Option Addr) (w : World) : (Instr.index 69 (.agg #[.pointer a, .pointer b]) (.int .i64 1)).run Tryz.prog w = .ok (.pointer b) w := by kernel_rfl
theorem wpListIn_app_run {F : Fence} {n : Nat} {P : Program} {ops : Array Oper} {Q : Exit → Act → World → Prop} {a : Act} {w : World} {rest : List Oper} {o : Oper} (hw : Region.wanted o (yielded ops a.tmps) = true) (s x : Operand) (t : TypeId)
    (ho : o.op = .call { callee := .builtin .append, args := #[s, x], argTypes := #[t, t] }) (v1 v2 v : Value) (w' : World) (hs : a.eval s = v1) (hx : a.eval x = v2) (hr : (Builtin.append_ #[t, t] o.type #[v1, v2]).run P w = .ok v w')
    (h : wpListIn F n P ops Q rest (a.put o.dst v) w') : wpListIn F n P ops Q (o :: rest) a w := by
  simp only [wpListIn, hw, if_true]
  unfold Oper.wpIn
  refine ⟨by simp [Oper.about, ho, resolve, Target.leads, Sem.run_pure], ?_⟩
  rw [Oper.semAt_plain F _ _ (by rw [ho]; intro c hc'; cases hc')]
  simp [execOp, ho, resolve, invoke, builtin, hs, hx, hr, Result.andThen]
  exact h
/-- How the walk over a part of the places ends. -/
def EachE (base : Nat) (J Jx : List Key → World → Prop) (v : Value) (way : Key) (pre ways : List Key) (W : World) (e : Ending) (W' : World) : Prop :=
  (e = .returned (.bool true) ∧ J (pre ++ ways) W' ∧ Ek v W W' ∧ WayAt W' base v way) ∨ (e = .returned (.bool false) ∧ ∃ q, q <+: ways ∧ Jx (pre ++ q) W')

set_option maxRecDepth 100000 in
set_option maxHeartbeats 4000000 in
theorem each_f (base lb : Nat) (J Jx : List Key → World → Prop) (hJ : ∀ s A B, J s A → Gn base A B → J s B)
    (hY : ∀ m pre way W, J pre W → YieldAt Fence.wide m Tryz.prog lb #[.string (str way)] W fun e W' =>
      (e = .returned (.bool true) ∧ J (pre ++ [way]) W' ∧ Yk W W') ∨ (e = .returned (.bool false) ∧ Jx (pre ++ [way]) W')) (t : PT) :
    ∀ (n : Nat) (up : Option Addr) (v : Value) (way : Key) (pre : List Key) (W : World), t.isNo = false → PlAt W up t → WayAt W base v way → base ≤ W.heap.size → J pre W → way.length + t.depth ≤ 100000000 →
      CallsIn Fence.wide n Tryz.prog 54 #[.pointer t.at, v, .func (.yield lb) #[] #[]] W fun e W' => EachE base J Jx v way pre (t.ways way) W e W' := by
  have hdd : ∀ k : Nat, (Fence.wide.depth.isSome = true → 1 ≤ k) := fun k h => by cases h
  induction t with
  | no => intro n up v way pre W h; cases h
  | is b d l r ihl ihr =>
    intro n up v way pre W _ hp hv hbs hj hd
    obtain ⟨kB, pl, pr⟩ := hp
    have KE := callsIn_wide (n := n - 1) |>.2 (isEnd_any b d _ l r W kB)
    have e0 : (PT.is b d l r).at = some ⟨b, 0, none⟩ := rfl
    rw [e0]
    by_cases hz : (l.isNo && r.isNo) = true
    · have hz2 : l.isNo = true ∧ r.isNo = true := by simpa using hz
      obtain rfl := PT.eq_no hz2.1
      obtain rfl := PT.eq_no hz2.2
      have hc := conv_way hv
      obtain ⟨fn, tmps, assign, body, hy, hR⟩ := hY (n - 1) pre way W hj
      refine callsIn_of_wp Tryz.func54 rfl trivial ?_ rfl
      simp only [Tryz.ntmps54, List.size_toArray, List.length_cons, List.length_nil, Nat.reduceAdd, Nat.reduceSub, Array.replicate_succ, Array.replicate_zero, List.push_toArray, List.append_toArray, List.nil_append, List.cons_append]
      rw [hz] at KE
      clear hz hz2 ihl ihr
      gi_wp2_with (first
        | ((try refine ⟨trivial, ?_⟩); (try refine ⟨hdd _, ?_⟩); gi_at_call 56; refine KE.mono ?_; clear KE; rintro e W1 ⟨rfl, rfl⟩)
        | ((try refine ⟨trivial, ?_⟩); (try refine ⟨hdd _, ?_⟩); refine hR.mono ?_; clear hR; rintro e W2 (⟨rfl, hJ2, hb2⟩ | ⟨rfl, hx2⟩)))
      · go_ret
        exact .inl ⟨rfl, hJ2, Ek.of_yk hb2, hv.yk hb2⟩
      · go_ret
        exact .inr ⟨rfl, [way], List.prefix_refl _, hx2⟩
    · have hz' : (l.isNo && r.isNo) = false := by simpa using hz
      rw [hz'] at KE
      rw [PT.ways_fork b d l r way hz']
      have c2 := (kB.cell 2).trans rfl
      have c3 := (kB.cell 3).trans rfl
      have zb := kB.lt
      simp only [PT.depth] at hd
      refine callsIn_of_wp Tryz.func54 rfl trivial ?_ rfl
      simp only [Tryz.ntmps54, List.size_toArray, List.length_cons, List.length_nil, Nat.reduceAdd, Nat.reduceSub, Array.replicate_succ, Array.replicate_zero, List.push_toArray, List.append_toArray, List.nil_append, List.cons_append]
      cases l with
      | no =>
        cases r with
        | no => exact (hz rfl).elim
        | is br dr lr rr =>
          have e1 : PT.no.at = none := rfl
          have e2 : (PT.is br dr lr rr).at = some ⟨br, 0, none⟩ := rfl
          rw [e1] at c2
          rw [e2] at c3
          obtain ⟨v1, W1, hr1, hw1, hg1⟩ := app_byte (W.alloc (.cells #[.int .u8 49] 5)) base v way 49 W.heap.size (hv.alloc _) (by simp) (by omega) (by simp; omega)
          have gn1 := (Gn.alloc hbs (.cells #[.int .u8 49] 5)).trans (Gn.grew (by simp; omega) (hv.alloc _) hg1)
          have p1 : PlAt W1 (some ⟨b, 0, none⟩) (PT.is br dr lr rr) := pr.keep fun k cs hk => gn1.same k _ hk (fun cs' fz e => by injection e with _ e; exact absurd e (by decide))
          have I1 := ihr (n - 1) (some ⟨b, 0, none⟩) v1 (way ++ [49]) pre W1 rfl p1 hw1 (Nat.le_trans hbs gn1.below.size) (hJ _ _ _ hj gn1) (by simp only [PT.depth] at hd ⊢; simp; omega)
          rw [e2] at I1
          have HX : Hid (Gn base W W1 ∧ WayAt W base v way ∧ Grew (W.alloc (.cells #[.int .u8 49] 5)) v v1 way.length W1) := ⟨gn1, hv, hg1⟩
          clear gn1 hv hg1 hw1 p1 ihl ihr pl pr kB hz hz' e0 e1 e2
          gi_wp2_with (first
            | ((try refine ⟨trivial, ?_⟩); (try refine ⟨hdd _, ?_⟩); gi_at_call 56; refine KE.mono ?_; clear KE; rintro e W2 ⟨rfl, rfl⟩))
          have i0 := idx0 none (some ⟨br, 0, none⟩)
          have i1 := idx1 none (some ⟨br, 0, none⟩)
          refine wpIn_loop_rounds 3 ?_
          rw [roundsIn_succ]
          gi_wp2
          refine ⟨trivial, ?_⟩
          gi_wp2
          rw [roundsIn_succ]
          gi_wp2_with (first
            | (gi_at_builtin; refine wpListIn_app_run (by kernel_rfl) _ _ 131 rfl _ _ v1 W1 rfl rfl hr1 ?_)
            | ((try refine ⟨trivial, ?_⟩); (try refine ⟨hdd _, ?_⟩); gi_at_call 54; refine I1.mono ?_; clear I1; rintro e W2 (⟨rfl, hJ2, hk2, hw2⟩ | ⟨rfl, q, hq, hx2⟩)))
          · rw [roundsIn_succ]
            gi_wp2
            go_ret
            obtain ⟨hE, hW⟩ := side_back _ hbs HX.out.2.1 HX.out.2.2 hw2 hk2
            exact .inl ⟨rfl, hJ2, hE, hW⟩
          · go_ret
            exact .inr ⟨rfl, q, hq, hx2⟩
      | is bl dl ll rl =>
        cases r with
        | no =>
          have e1 : (PT.is bl dl ll rl).at = some ⟨bl, 0, none⟩ := rfl
          have e2 : (PT.no).at = none := rfl
          rw [e1] at c2
          rw [e2] at c3
          obtain ⟨v1, W1, hr1, hw1, hg1⟩ := app_byte (W.alloc (.cells #[.int .u8 48] 5)) base v way 48 W.heap.size (hv.alloc _) (by simp) (by omega) (by simp; omega)
          have gn1 := (Gn.alloc hbs (.cells #[.int .u8 48] 5)).trans (Gn.grew (by simp; omega) (hv.alloc _) hg1)
          have p1 : PlAt W1 (some ⟨b, 0, none⟩) (PT.is bl dl ll rl) := pl.keep fun k cs hk => gn1.same k _ hk (fun cs' fz e => by injection e with _ e; exact absurd e (by decide))
          have I1 := ihl (n - 1) (some ⟨b, 0, none⟩) v1 (way ++ [48]) pre W1 rfl p1 hw1 (Nat.le_trans hbs gn1.below.size) (hJ _ _ _ hj gn1) (by simp only [PT.depth] at hd ⊢; simp; omega)
          rw [e1] at I1
          have HX : Hid (Gn base W W1 ∧ WayAt W base v way ∧ Grew (W.alloc (.cells #[.int .u8 48] 5)) v v1 way.length W1) := ⟨gn1, hv, hg1⟩
          clear gn1 hv hg1 hw1 p1 ihl ihr pl pr kB hz hz' e0 e1 e2
          gi_wp2_with (first
            | ((try refine ⟨trivial, ?_⟩); (try refine ⟨hdd _, ?_⟩); gi_at_call 56; refine KE.mono ?_; clear KE; rintro e W2 ⟨rfl, rfl⟩))
          have i0 := idx0 (some ⟨bl, 0, none⟩) none
          have i1 := idx1 (some ⟨bl, 0, none⟩) none
          refine wpIn_loop_rounds 3 ?_
          rw [roundsIn_succ]
          gi_wp2_with (first
            | (gi_at_builtin; refine wpListIn_app_run (by kernel_rfl) _ _ 131 rfl _ _ v1 W1 rfl rfl hr1 ?_)
            | ((try refine ⟨trivial, ?_⟩); (try refine ⟨hdd _, ?_⟩); gi_at_call 54; refine I1.mono ?_; clear I1; rintro e W2 (⟨rfl, hJ2, hk2, hw2⟩ | ⟨rfl, q, hq, hx2⟩)))
          · rw [roundsIn_succ]
            gi_wp2
            refine ⟨trivial, ?_⟩
            gi_wp2
            rw [roundsIn_succ]
            gi_wp2
            go_ret
            obtain ⟨hE, hW⟩ := side_back _ hbs HX.out.2.1 HX.out.2.2 hw2 hk2
            refine .inl ⟨rfl, ?_, hE, hW⟩
            have e9 : PT.no.ways (way ++ [49]) = [] := rfl
            rw [e9, List.append_nil]
            exact hJ2
          · go_ret
            exact .inr ⟨rfl, q, hq.trans (List.prefix_append _ _), hx2⟩
        | is br dr lr rr =>
          have e1 : (PT.is bl dl ll rl).at = some ⟨bl, 0, none⟩ := rfl
          have e2 : (PT.is br dr lr rr).at = some ⟨br, 0, none⟩ := rfl
          rw [e1] at c2
          rw [e2] at c3
          obtain ⟨v1, W1, hr1, hw1, hg1⟩ := app_byte (W.alloc (.cells #[.int .u8 48] 5)) base v way 48 W.heap.size (hv.alloc _) (by simp) (by omega) (by simp; omega)
          have gn1 := (Gn.alloc hbs (.cells #[.int .u8 48] 5)).trans (Gn.grew (by simp; omega) (hv.alloc _) hg1)
          have p1 : PlAt W1 (some ⟨b, 0, none⟩) (PT.is bl dl ll rl) := pl.keep fun k cs hk => gn1.same k _ hk (fun cs' fz e => by injection e with _ e; exact absurd e (by decide))
          have I1 := ihl (n - 1) (some ⟨b, 0, none⟩) v1 (way ++ [48]) pre W1 rfl p1 hw1 (Nat.le_trans hbs gn1.below.size) (hJ _ _ _ hj gn1) (by simp only [PT.depth] at hd ⊢; simp; omega)
          rw [e1] at I1
          have HX : Hid (Gn base W W1 ∧ WayAt W base v way ∧ Grew (W.alloc (.cells #[.int .u8 48] 5)) v v1 way.length W1) := ⟨gn1, hv, hg1⟩
          have HI : Hid (∀ (n : Nat) (up : Option Addr) (v : Value) (way : Key) (pre : List Key) (W : World), (PT.is br dr lr rr).isNo = false → PlAt W up (PT.is br dr lr rr) → WayAt W base v way → base ≤ W.heap.size → J pre W → way.length + (PT.is br dr lr rr).depth ≤ 100000000 →
      CallsIn Fence.wide n Tryz.prog 54 #[.pointer (PT.is br dr lr rr).at, v, .func (.yield lb) #[] #[]] W fun e W' => EachE base J Jx v way pre ((PT.is br dr lr rr).ways way) W e W') := ihr
          have HP : Hid (PlAt W (some ⟨b, 0, none⟩) (PT.is br dr lr rr)) := pr
          clear gn1 hv hg1 hw1 p1 ihl ihr pl pr kB hz hz' e0 e1 e2
          gi_wp2_with (first
            | ((try refine ⟨trivial, ?_⟩); (try refine ⟨hdd _, ?_⟩); gi_at_call 56; refine KE.mono ?_; clear KE; rintro e W2 ⟨rfl, rfl⟩))
          have i0 := idx0 (some ⟨bl, 0, none⟩) (some ⟨br, 0, none⟩)
          have i1 := idx1 (some ⟨bl, 0, none⟩) (some ⟨br, 0, none⟩)
          refine wpIn_loop_rounds 3 ?_
          rw [roundsIn_succ]
          gi_wp2_with (first
            | (gi_at_builtin; refine wpListIn_app_run (by kernel_rfl) _ _ 131 rfl _ _ v1 W1 rfl rfl hr1 ?_)
            | ((try refine ⟨trivial, ?_⟩); (try refine ⟨hdd _, ?_⟩); gi_at_call 54; refine I1.mono ?_; clear I1; rintro e W2 (⟨rfl, hJ2, hk2, hw2⟩ | ⟨rfl, q, hq, hx2⟩)))
          · obtain ⟨hE, hW⟩ := side_back _ hbs HX.out.2.1 HX.out.2.2 hw2 hk2
            have hbs2 : base ≤ W2.heap.size := Nat.le_trans hbs hE.size
            have pr2 := hE.place HP.out
            obtain ⟨v3, W3, hr3, hw3, hg3⟩ := app_byte (W2.alloc (.cells #[.int .u8 49] 5)) base v way 49 W2.heap.size (hW.alloc _) (by simp) (by omega) (by simp; omega)
            have gn3 := (Gn.alloc hbs2 (.cells #[.int .u8 49] 5)).trans (Gn.grew (by simp; omega) (hW.alloc _) hg3)
            have p3 : PlAt W3 (some ⟨b, 0, none⟩) (PT.is br dr lr rr) := pr2.keep fun k cs hk => gn3.same k _ hk (fun cs' fz e => by injection e with _ e; exact absurd e (by decide))
            have I3 := HI.out (n - 1) (some ⟨b, 0, none⟩) v3 (way ++ [49]) _ W3 rfl p3 hw3 (Nat.le_trans hbs2 gn3.below.size) (hJ _ _ _ hJ2 gn3) (by simp only [PT.depth] at hd ⊢; simp; omega)
            have e2 : (PT.is br dr lr rr).at = some ⟨br, 0, none⟩ := rfl
            rw [e2] at I3
            have HY : Hid (Ek v W W2 ∧ WayAt W2 base v way ∧ Grew (W2.alloc (.cells #[.int .u8 49] 5)) v v3 way.length W3) := ⟨hE, hW, hg3⟩
            clear hE hW hg3 gn3 p3 pr2 HX hw3 hw2 hk2 hJ2 hr1 c2 c3
            rw [roundsIn_succ]
            gi_wp2_with (first
              | (gi_at_builtin; refine wpListIn_app_run (by kernel_rfl) _ _ 131 rfl _ _ v3 W3 rfl rfl hr3 ?_)
              | ((try refine ⟨trivial, ?_⟩); (try refine ⟨hdd _, ?_⟩); gi_at_call 54; refine I3.mono ?_; clear I3; rintro e W4 (⟨rfl, hJ4, hk4, hw4⟩ | ⟨rfl, q, hq, hx4⟩)))
            · rw [roundsIn_succ]
              gi_wp2
              go_ret
              obtain ⟨hE4, hW4⟩ := side_back _ hbs2 HY.out.2.1 HY.out.2.2 hw4 hk4
              exact .inl ⟨rfl, by rw [← List.append_assoc]; exact hJ4, HY.out.1.trans hE4, hW4⟩
            · go_ret
              obtain ⟨z, hz⟩ := hq
              exact .inr ⟨rfl, (PT.is bl dl ll rl).ways (way ++ [48]) ++ q, ⟨z, by rw [List.append_assoc, hz]⟩, by rw [← List.append_assoc]; exact hx4⟩
          · go_ret
            exact .inr ⟨rfl, q, hq.trans (List.prefix_append _ _), hx2⟩
end Go.Proofs.YtmhllihedejehaaGreat
