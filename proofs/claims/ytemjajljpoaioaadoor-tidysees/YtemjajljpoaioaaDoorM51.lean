import Derived.Test.YtemjajljpoaioaaDoorYTh
namespace Go.Proofs.YtemjajljpoaioaaDoor
open Go.RowKit
set_option linter.unusedVariables false
set_option linter.unusedSimpArgs false
set_option maxRecDepth 20000
set_option maxHeartbeats 8000000
set_option maxHeartbeats 3200000 in
theorem wide_any (base : Nat) (c : Cd) (w : World) (hB : base ≤ w.heap.size) (P : PsAt base w c) (N : c.ns.Held nameFlds 1 base w) :
  Calls Tryd.prog 4 #[.agg #[.slice c.ps.la c.ps.xs.length c.ps.lc, .slice c.ns.la c.ns.xs.length c.ns.lc]] w fun e w' => IsBool e ∧ Below w.heap.size w w' := by
 have bA : Below w.heap.size w (w.alloc (.cells #[.slice c.ps.la c.ps.xs.length c.ps.lc, .slice c.ns.la c.ns.xs.length c.ns.lc] 25)) := (Below.refl _ _).alloc (Nat.le_refl _) _
 have kA := Blk.new w #[.slice c.ps.la c.ps.xs.length c.ps.lc, .slice c.ns.la c.ns.xs.length c.ns.lc] 25
 have hn1 : c.ps.xs.length ≤ 9223372036854775807 := by
  have := Nat.le_trans P.1 P.2.1
  unfold maxLen at this
  omega
 have hn2 : c.ns.xs.length ≤ 9223372036854775807 := by
  have := Nat.le_trans N.1 N.2.1
  unfold maxLen at this
  omega
 have HP : Hid (PsAt base w c) := P
 have HN : Hid (c.ns.Held nameFlds 1 base w) := N
 clear P N
 go_enter Tryd.func4, Tryd.ntmps4
 go_wp2_with fail
 go_loopw [3, 4] (fun nv iv wv => ∃ (m : Int) (k : Nat), nv = .int .i64 m ∧ iv = .int .i64 k ∧ k ≤ c.ps.xs.length ∧ Below w.heap.size w wv ∧ Blk wv w.heap.size #[.slice c.ps.la c.ps.xs.length c.ps.lc, .slice c.ns.la c.ns.xs.length c.ns.lc] 25) (fun _ iv _ => c.ps.xs.length - (intOf iv).toNat)
 case atStart => exact ⟨_, 0, rfl, rfl, Nat.zero_le _, bA, kA⟩
 case round =>
  obtain ⟨m, k, rfl, rfl, hk, bk, kk⟩ := hrel
  clear bA kA
  have q0 := kk.cell 0
  have q1 := kk.cell 1
  simp only [List.getElem?_toArray, List.getElem?_cons_succ, List.getElem?_cons_zero] at q0 q1
  have hzc := kk.lt
  by_cases hgo : k < c.ps.xs.length ∧ m ≤ 65536
  ·obtain ⟨hkn, hm⟩ := hgo
   have hki : (k : Int) < (c.ps.xs.length : Int) := by omega
   have dm := decide_eq_true hm
   obtain ⟨p, hp⟩ : ∃ p, c.ps.xs[k]? = some p := ⟨_, List.getElem?_eq_getElem hkn⟩
   obtain ⟨rb, ro, e, hb, hz, c0, c1, c2, c3, c4, _⟩ := PsAt.pc (Lst.Held.below HP.out (bk.mono hB)) k p hp
   rw [e] at q0 kk ⊢
   clear hp HP HN
   go_wp2_with fail
   go_quiet (fail)
   try simp only [Exit.then]
   have b2 := below_drewN bk nq
   have k2 := kk.below (below_drewN (Below.refl _ wr) nq) kk.lt
   clear q0 q1 c0 c1 c2 c3 c4
   go_wp2
   exact ⟨⟨_, k + 1, rfl, by go_num, by omega, b2, k2⟩, by simp [intOf]; omega⟩
  by_cases hm : m ≤ 65536
  rotate_left
  ·have dm := decide_eq_false hm
   clear hgo HP HN
   by_cases h1 : (k : Int) < (c.ps.xs.length : Int)
   all_goals
    go_wp2_with fail
    refine wp_loop_rounds 1 ?_
    rw [rounds_succ]
    go_wp2
    all_goals (go_ret; exact ⟨⟨_, rfl⟩, bk⟩)
  have hkn : ¬ k < c.ps.xs.length := fun h => hgo ⟨h, hm⟩
  have hki : ¬ (k : Int) < (c.ps.xs.length : Int) := by omega
  have bS := bk
  have kS := kk
  clear hgo hkn bk kk
  go_wp2_with fail
  clear q0 q1 hzc hki
  generalize wr = wq at *
  go_loopw [3, 5] (fun nv iv wv => ∃ (m : Int) (k : Nat), nv = .int .i64 m ∧ iv = .int .i64 k ∧ k ≤ c.ns.xs.length ∧ Below w.heap.size w wv ∧ Blk wv w.heap.size #[.slice c.ps.la c.ps.xs.length c.ps.lc, .slice c.ns.la c.ns.xs.length c.ns.lc] 25) (fun _ iv _ => c.ns.xs.length - (intOf iv).toNat)
  case atStart => exact ⟨_, 0, rfl, rfl, Nat.zero_le _, bS, kS⟩
  case round =>
   obtain ⟨m2, j, rfl, rfl, hj, bj, kj⟩ := hrel
   clear bS kS
   have q1 := kj.cell 1
   simp only [List.getElem?_toArray, List.getElem?_cons_succ, List.getElem?_cons_zero] at q1
   have hzc := kj.lt
   by_cases h1 : (j : Int) < (c.ns.xs.length : Int)
   ·by_cases hm2 : m2 ≤ 65536
    ·have dm := decide_eq_true hm2
     have hjn : j < c.ns.xs.length := by omega
     obtain ⟨s, hs⟩ : ∃ s, c.ns.xs[j]? = some s := ⟨_, List.getElem?_eq_getElem hjn⟩
     obtain ⟨_, _, h0 | ⟨rb, ro, e, hb, hz, hr⟩⟩ := HN.out.below (bj.mono hB)
     ·rw [h0] at hjn; simp at hjn
     have c0 := (hr j s hs).get0 rfl
     simp only [Fld.val, Nat.mul_one] at c0
     rw [e] at q1 kj ⊢
     clear hs hr HP HN
     go_wp2
     exact ⟨⟨_, j + 1, rfl, by go_num, by omega, bj, kj⟩, by simp [intOf]; omega⟩
    ·have dm := decide_eq_false hm2
     clear HP HN
     go_wp2
     go_ret
     exact ⟨⟨_, rfl⟩, bj⟩
   ·clear HP HN
    go_wp2
    go_ret
    exact ⟨⟨_, rfl⟩, bj⟩
set_option maxRecDepth 20000 in
set_option maxHeartbeats 8000000 in
theorem wide_big {w0 : World} {c : Cd} (h1 : 65536 < c.ps.xs.length + c.ns.xs.length) (h2 : c.ps.xs.length + c.ns.xs.length ≤ 9223372036854775807) : Calls Tryd.prog 4 ([.agg #[.slice c.ps.la c.ps.xs.length c.ps.lc, .slice c.ns.la c.ns.xs.length c.ns.lc]] : List Value).toArray w0 fun e w' => e = .returned (.bool true) ∧ Below w0.heap.size w0 w' := by
 have M := bx_begin (w0 := w0) (w := w0) (Below.refl _ _)
 refine sw_fn Tryd.func4 rfl 62 Tryd.ntmps4 rfl fun A F => ?_
 refine sw_seq ?_
 refine sw_reg ?_
 refine sw_box F M [.slice c.ps.la c.ps.xs.length c.ps.lc, .slice c.ns.la c.ns.xs.length c.ns.lc] ⟨rfl, rfl, rfl⟩ rfl rfl rfl fun x1 A w F M => ?_
 refine sw_asg F ⟨rfl, rfl, rfl⟩ rfl rfl fun A F => ?_
 refine sw_end ?_
 show Code.wp _ _ _ _ _
 refine sw_seq ?_
 refine sw_reg ?_
 refine sw_fld F 0 ⟨rfl, rfl, rfl⟩ rfl (by kernel_rfl) rfl rfl fun A F => ?_
 refine sw_cell F M 0 ⟨rfl, rfl, rfl⟩ rfl rfl rfl (by kernel_rfl) rfl fun A F => ?_
 refine sw_len F ⟨rfl, rfl, rfl⟩ rfl Tryd.underlying22 rfl fun A F => ?_
 refine sw_fld F 1 ⟨rfl, rfl, rfl⟩ rfl (by kernel_rfl) rfl rfl fun A F => ?_
 refine sw_cell F M 0 ⟨rfl, rfl, rfl⟩ rfl rfl rfl (by kernel_rfl) rfl fun A F => ?_
 refine sw_len F ⟨rfl, rfl, rfl⟩ rfl Tryd.underlying23 rfl fun A F => ?_
 refine sw_add F ⟨rfl, rfl, rfl⟩ rfl rfl (by omega) rfl fun A F => ?_
 rw [show ((c.ps.xs.length : Nat) : Int) + ((c.ns.xs.length : Nat) : Int) = ((c.ps.xs.length + c.ns.xs.length : Nat) : Int) by omega] at F
 refine sw_asg F ⟨rfl, rfl, rfl⟩ rfl rfl fun A F => ?_
 refine sw_end ?_
 show Code.wp _ _ _ _ _
 refine sw_seq ?_
 refine sw_seq ?_
 refine sw_reg ?_
 refine sw_asg F ⟨rfl, rfl, rfl⟩ rfl rfl fun A F => ?_
 refine sw_end ?_
 show Code.wp _ _ _ _ _
 refine wp_block ?_
 refine wp_loop_once ?_
 refine sw_seq ?_
 refine sw_seq ?_
 refine sw_reg ?_
 refine sw_move F ⟨rfl, rfl, rfl⟩ rfl rfl fun A F => ?_
 refine sw_fld F 0 ⟨rfl, rfl, rfl⟩ rfl (by kernel_rfl) rfl rfl fun A F => ?_
 refine sw_cell F M 0 ⟨rfl, rfl, rfl⟩ rfl rfl rfl (by kernel_rfl) rfl fun A F => ?_
 refine sw_len F ⟨rfl, rfl, rfl⟩ rfl Tryd.underlying22 rfl fun A F => ?_
 refine sw_lss F ⟨rfl, rfl, rfl⟩ rfl rfl rfl fun A F => ?_
 refine sw_move F ⟨rfl, rfl, rfl⟩ rfl rfl fun A F => ?_
 cases c2 : (decide (0 < ((c.ps.xs.length : Nat) : Int))) with
 | true =>
  rw [c2] at F
  refine sw_on F 5 rfl rfl rfl rfl rfl ?_
  refine sw_move F ⟨rfl, rfl, rfl⟩ rfl rfl fun A F => ?_
  refine sw_on F 5 rfl rfl rfl rfl rfl ?_
  refine sw_leq F ⟨rfl, rfl, rfl⟩ rfl rfl rfl fun A F => ?_
  rw [show (decide (((c.ps.xs.length + c.ns.xs.length : Nat) : Int) ≤ 65536)) = false from decide_eq_false (by omega)] at F
  refine sw_pickT F ⟨rfl, rfl, rfl⟩ rfl rfl rfl fun A F => ?_
  refine sw_end ?_
  show Code.wp _ _ _ _ _
  refine sw_false F rfl ?_
  refine wp_exit ?_
  repeat (first | refine then_exit ?_ | refine exit_block ?_ | refine exit_pass rfl ?_)
  show Code.wp _ _ _ _ _
  refine sw_seq ?_
  refine sw_seq ?_
  refine sw_reg ?_
  refine sw_asg F ⟨rfl, rfl, rfl⟩ rfl rfl fun A F => ?_
  refine sw_end ?_
  show Code.wp _ _ _ _ _
  refine wp_block ?_
  refine wp_loop_once ?_
  refine sw_seq ?_
  refine sw_seq ?_
  refine sw_reg ?_
  refine sw_move F ⟨rfl, rfl, rfl⟩ rfl rfl fun A F => ?_
  refine sw_fld F 1 ⟨rfl, rfl, rfl⟩ rfl (by kernel_rfl) rfl rfl fun A F => ?_
  refine sw_cell F M 0 ⟨rfl, rfl, rfl⟩ rfl rfl rfl (by kernel_rfl) rfl fun A F => ?_
  refine sw_len F ⟨rfl, rfl, rfl⟩ rfl Tryd.underlying23 rfl fun A F => ?_
  refine sw_lss F ⟨rfl, rfl, rfl⟩ rfl rfl rfl fun A F => ?_
  refine sw_move F ⟨rfl, rfl, rfl⟩ rfl rfl fun A F => ?_
  cases c3 : (decide (0 < ((c.ns.xs.length : Nat) : Int))) with
  | true =>
   rw [c3] at F
   refine sw_on F 5 rfl rfl rfl rfl rfl ?_
   refine sw_move F ⟨rfl, rfl, rfl⟩ rfl rfl fun A F => ?_
   refine sw_on F 5 rfl rfl rfl rfl rfl ?_
   refine sw_leq F ⟨rfl, rfl, rfl⟩ rfl rfl rfl fun A F => ?_
   rw [show (decide (((c.ps.xs.length + c.ns.xs.length : Nat) : Int) ≤ 65536)) = false from decide_eq_false (by omega)] at F
   refine sw_pickT F ⟨rfl, rfl, rfl⟩ rfl rfl rfl fun A F => ?_
   refine sw_end ?_
   show Code.wp _ _ _ _ _
   refine sw_false F rfl ?_
   refine wp_exit ?_
   repeat (first | refine then_exit ?_ | refine exit_block ?_ | refine exit_pass rfl ?_)
   show Code.wp _ _ _ _ _
   refine sw_seq ?_
   refine sw_reg ?_
   refine sw_move F ⟨rfl, rfl, rfl⟩ rfl rfl fun A F => ?_
   refine sw_gtr F ⟨rfl, rfl, rfl⟩ rfl rfl rfl fun A F => ?_
   rw [show (decide (65536 < ((c.ps.xs.length + c.ns.xs.length : Nat) : Int))) = true from decide_eq_true (by omega)] at F
   refine sw_asg F ⟨rfl, rfl, rfl⟩ rfl rfl fun A F => ?_
   refine sw_end ?_
   show Code.wp _ _ _ _ _
   refine wp_ret ?_
   repeat (first | refine then_ret ?_ | refine block_ret ?_)
   exact sw_rettmp F Tryd.results4 rfl ⟨rfl, M.st⟩
  | false =>
   rw [c3] at F
   refine sw_off F 5 rfl rfl rfl rfl rfl rfl rfl fun A F => ?_
   refine sw_off F 5 rfl rfl rfl rfl rfl rfl rfl fun A F => ?_
   refine sw_pickF F ⟨rfl, rfl, rfl⟩ rfl rfl rfl fun A F => ?_
   refine sw_end ?_
   show Code.wp _ _ _ _ _
   refine sw_false F rfl ?_
   refine wp_exit ?_
   repeat (first | refine then_exit ?_ | refine exit_block ?_ | refine exit_pass rfl ?_)
   show Code.wp _ _ _ _ _
   refine sw_seq ?_
   refine sw_reg ?_
   refine sw_move F ⟨rfl, rfl, rfl⟩ rfl rfl fun A F => ?_
   refine sw_gtr F ⟨rfl, rfl, rfl⟩ rfl rfl rfl fun A F => ?_
   rw [show (decide (65536 < ((c.ps.xs.length + c.ns.xs.length : Nat) : Int))) = true from decide_eq_true (by omega)] at F
   refine sw_asg F ⟨rfl, rfl, rfl⟩ rfl rfl fun A F => ?_
   refine sw_end ?_
   show Code.wp _ _ _ _ _
   refine wp_ret ?_
   repeat (first | refine then_ret ?_ | refine block_ret ?_)
   exact sw_rettmp F Tryd.results4 rfl ⟨rfl, M.st⟩
 | false =>
  rw [c2] at F
  refine sw_off F 5 rfl rfl rfl rfl rfl rfl rfl fun A F => ?_
  refine sw_off F 5 rfl rfl rfl rfl rfl rfl rfl fun A F => ?_
  refine sw_pickF F ⟨rfl, rfl, rfl⟩ rfl rfl rfl fun A F => ?_
  refine sw_end ?_
  show Code.wp _ _ _ _ _
  refine sw_false F rfl ?_
  refine wp_exit ?_
  repeat (first | refine then_exit ?_ | refine exit_block ?_ | refine exit_pass rfl ?_)
  show Code.wp _ _ _ _ _
  refine sw_seq ?_
  refine sw_seq ?_
  refine sw_reg ?_
  refine sw_asg F ⟨rfl, rfl, rfl⟩ rfl rfl fun A F => ?_
  refine sw_end ?_
  show Code.wp _ _ _ _ _
  refine wp_block ?_
  refine wp_loop_once ?_
  refine sw_seq ?_
  refine sw_seq ?_
  refine sw_reg ?_
  refine sw_move F ⟨rfl, rfl, rfl⟩ rfl rfl fun A F => ?_
  refine sw_fld F 1 ⟨rfl, rfl, rfl⟩ rfl (by kernel_rfl) rfl rfl fun A F => ?_
  refine sw_cell F M 0 ⟨rfl, rfl, rfl⟩ rfl rfl rfl (by kernel_rfl) rfl fun A F => ?_
  refine sw_len F ⟨rfl, rfl, rfl⟩ rfl Tryd.underlying23 rfl fun A F => ?_
  refine sw_lss F ⟨rfl, rfl, rfl⟩ rfl rfl rfl fun A F => ?_
  refine sw_move F ⟨rfl, rfl, rfl⟩ rfl rfl fun A F => ?_
  cases c4 : (decide (0 < ((c.ns.xs.length : Nat) : Int))) with
  | true =>
   rw [c4] at F
   refine sw_on F 5 rfl rfl rfl rfl rfl ?_
   refine sw_move F ⟨rfl, rfl, rfl⟩ rfl rfl fun A F => ?_
   refine sw_on F 5 rfl rfl rfl rfl rfl ?_
   refine sw_leq F ⟨rfl, rfl, rfl⟩ rfl rfl rfl fun A F => ?_
   rw [show (decide (((c.ps.xs.length + c.ns.xs.length : Nat) : Int) ≤ 65536)) = false from decide_eq_false (by omega)] at F
   refine sw_pickT F ⟨rfl, rfl, rfl⟩ rfl rfl rfl fun A F => ?_
   refine sw_end ?_
   show Code.wp _ _ _ _ _
   refine sw_false F rfl ?_
   refine wp_exit ?_
   repeat (first | refine then_exit ?_ | refine exit_block ?_ | refine exit_pass rfl ?_)
   show Code.wp _ _ _ _ _
   refine sw_seq ?_
   refine sw_reg ?_
   refine sw_move F ⟨rfl, rfl, rfl⟩ rfl rfl fun A F => ?_
   refine sw_gtr F ⟨rfl, rfl, rfl⟩ rfl rfl rfl fun A F => ?_
   rw [show (decide (65536 < ((c.ps.xs.length + c.ns.xs.length : Nat) : Int))) = true from decide_eq_true (by omega)] at F
   refine sw_asg F ⟨rfl, rfl, rfl⟩ rfl rfl fun A F => ?_
   refine sw_end ?_
   show Code.wp _ _ _ _ _
   refine wp_ret ?_
   repeat (first | refine then_ret ?_ | refine block_ret ?_)
   exact sw_rettmp F Tryd.results4 rfl ⟨rfl, M.st⟩
  | false =>
   rw [c4] at F
   refine sw_off F 5 rfl rfl rfl rfl rfl rfl rfl fun A F => ?_
   refine sw_off F 5 rfl rfl rfl rfl rfl rfl rfl fun A F => ?_
   refine sw_pickF F ⟨rfl, rfl, rfl⟩ rfl rfl rfl fun A F => ?_
   refine sw_end ?_
   show Code.wp _ _ _ _ _
   refine sw_false F rfl ?_
   refine wp_exit ?_
   repeat (first | refine then_exit ?_ | refine exit_block ?_ | refine exit_pass rfl ?_)
   show Code.wp _ _ _ _ _
   refine sw_seq ?_
   refine sw_reg ?_
   refine sw_move F ⟨rfl, rfl, rfl⟩ rfl rfl fun A F => ?_
   refine sw_gtr F ⟨rfl, rfl, rfl⟩ rfl rfl rfl fun A F => ?_
   rw [show (decide (65536 < ((c.ps.xs.length + c.ns.xs.length : Nat) : Int))) = true from decide_eq_true (by omega)] at F
   refine sw_asg F ⟨rfl, rfl, rfl⟩ rfl rfl fun A F => ?_
   refine sw_end ?_
   show Code.wp _ _ _ _ _
   refine wp_ret ?_
   repeat (first | refine then_ret ?_ | refine block_ret ?_)
   exact sw_rettmp F Tryd.results4 rfl ⟨rfl, M.st⟩
theorem wide_m {w0 : World} {c : Cd} (P : PsAt w0.heap.size w0 c) (NH : c.ns.Held nameFlds 1 w0.heap.size w0) (h2 : c.ps.xs.length + c.ns.xs.length ≤ 9223372036854775807) : Calls Tryd.prog 4 ([.agg #[.slice c.ps.la c.ps.xs.length c.ps.lc, .slice c.ns.la c.ns.xs.length c.ns.lc]] : List Value).toArray w0 fun e w' => (∃ z : Bool, e = .returned (.bool z) ∧ (z = false → c.ps.xs.length + c.ns.xs.length ≤ 65536)) ∧ Below w0.heap.size w0 w' := by
 by_cases h : 65536 < c.ps.xs.length + c.ns.xs.length
 ·exact (wide_big h h2).mono fun e w' ⟨q, b⟩ => ⟨⟨true, q, fun q => by cases q⟩, b⟩
 ·exact (wide_any w0.heap.size c w0 (Nat.le_refl _) P NH).mono fun e w' ⟨⟨z, q⟩, b⟩ => ⟨⟨z, q, fun _ => by omega⟩, b⟩
end Go.Proofs.YtemjajljpoaioaaDoor
