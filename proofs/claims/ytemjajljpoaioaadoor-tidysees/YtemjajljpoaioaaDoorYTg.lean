import Derived.Test.YtemjajljpoaioaaDoorYTf
namespace Go.Proofs.YtemjajljpoaioaaDoor
open Go.RowKit
set_option linter.unusedVariables false
set_option linter.unusedSimpArgs false
set_option maxRecDepth 20000
set_option maxHeartbeats 8000000
set_option maxRecDepth 20000 in
set_option maxHeartbeats 8000000 in
theorem tround_m {w0 : World} {rb ro lc : Nat} {xs : List Ins} (HB : Body w0 rb ro xs) (L : Lds xs) {k : Nat} (hk : k < xs.length) : Calls Tryd.prog 16 ([.slice (some ⟨rb, ro, none⟩) xs.length lc, .int .i64 ((k : Nat) : Int)] : List Value).toArray w0 fun e w' => e = .returned (.bool (rnd xs (xs.length + 1) k)) ∧ Below w0.heap.size w0 w' := by
 have M := bx_begin (w0 := w0) (w := w0) (Below.refl _ _)
 refine sw_fn Tryd.func16 rfl 23 Tryd.ntmps16 rfl fun A F => ?_
 refine sw_seq ?_
 refine sw_reg ?_
 refine sw_asg F ⟨rfl, rfl, rfl⟩ rfl rfl fun A F => ?_
 refine sw_end ?_
 show Code.wp _ _ _ _ _
 refine sw_seq ?_
 refine sw_seq ?_
 refine sw_reg ?_
 refine sw_asg F ⟨rfl, rfl, rfl⟩ rfl rfl fun A F => ?_
 refine sw_end ?_
 show Code.wp _ _ _ _ _
 refine wp_block ?_
 refine wp_loop (fun A w => ∃ n : Nat, ∃ cur : Nat, (n ≤ xs.length + 1) ∧ (cur < xs.length) ∧ (rnd xs (xs.length + 1) k = rnd xs (xs.length + 1 - n) cur) ∧ Fm 23 [(0, .slice (some ⟨rb, ro, none⟩) xs.length lc), (1, .int .i64 ((cur : Nat) : Int)), (5, .int .i64 ((n : Nat) : Int))] A ∧ Mm (Bx w0) (fun _ => False) w0 [] () w) (fun A _ => xs.length + 1 - (intOf (A.eval (.tmp 5))).toNat) ?_ ?_
 ·exact ⟨0, k, (Nat.zero_le _), (hk), (by rw [Nat.sub_zero]), F.keep [0, 1, 5] rfl, M⟩
 repeat clear F
 repeat clear M
 rintro A w ⟨n, cur, hn, hcur, heq, F, M⟩
 have hA5 : A.eval (.tmp 5) = .int .i64 ((n : Nat) : Int) := F.2.2 5 _ rfl
 refine sw_seq ?_
 refine sw_seq ?_
 refine sw_reg ?_
 refine sw_move F ⟨rfl, rfl, rfl⟩ rfl rfl fun A F => ?_
 refine sw_move F ⟨rfl, rfl, rfl⟩ rfl rfl fun A F => ?_
 refine sw_len F ⟨rfl, rfl, rfl⟩ rfl Tryd.underlying32 rfl fun A F => ?_
 refine sw_leq F ⟨rfl, rfl, rfl⟩ rfl rfl rfl fun A F => ?_
 refine sw_end ?_
 show Code.wp _ _ _ _ _
 refine sw_cond F rfl (fun hc1 => ?_) (fun hc1 => ?_)
 ·skip
  have hcl : n ≤ xs.length := by have := of_decide_eq_true hc1; omega
  refine wp_skip ?_
  show Code.wp _ _ _ _ _
  refine sw_seq ?_
  refine wp_block ?_
  refine sw_seq ?_
  refine sw_seq ?_
  refine sw_reg ?_
  refine sw_move F ⟨rfl, rfl, rfl⟩ rfl rfl fun A F => ?_
  refine sw_move F ⟨rfl, rfl, rfl⟩ rfl rfl fun A F => ?_
  refine sw_at F 3 ⟨rfl, rfl, rfl⟩ rfl rfl (hcur) Tryd.underlying32 (by kernel_rfl) rfl fun A F => ?_
  refine sw_fld F 0 ⟨rfl, rfl, rfl⟩ rfl (by kernel_rfl) rfl rfl fun A F => ?_
  obtain ⟨i, hi⟩ : ∃ i, xs[cur]? = some i := ⟨_, List.getElem?_eq_getElem hcur⟩
  refine sw_ext F ((HB.bx M.st).at_ _ _ (hi) 0 _ rfl) ⟨rfl, rfl, rfl⟩ rfl (by kernel_rfl) rfl fun A F => ?_
  refine sw_neq F ⟨rfl, rfl, rfl⟩ rfl rfl rfl fun A F => ?_
  refine sw_end ?_
  show Code.wp _ _ _ _ _
  refine sw_cond F rfl (fun hc2 => ?_) (fun hc2 => ?_)
  ·skip
   have h14 : i.op ≠ 14 := by simpa using hc2
   refine sw_seq ?_
   refine sw_reg ?_
   refine sw_asg F ⟨rfl, rfl, rfl⟩ rfl rfl fun A F => ?_
   refine sw_end ?_
   show Code.wp _ _ _ _ _
   refine wp_ret ?_
   repeat (first | refine then_ret ?_ | refine block_ret ?_)
   refine sw_rettmp F Tryd.results16 rfl ⟨?_, M.st⟩
   rw [heq, show xs.length + 1 - n = (xs.length + 1 - (n + 1)) + 1 by omega, rnd, hi]
   simp [h14]
  ·skip
   have h14 : i.op = 14 := by simpa using hc2
   refine wp_skip ?_
   show Code.wp _ _ _ _ _
   refine sw_reg ?_
   refine sw_move F ⟨rfl, rfl, rfl⟩ rfl rfl fun A F => ?_
   refine sw_move F ⟨rfl, rfl, rfl⟩ rfl rfl fun A F => ?_
   refine sw_at F 3 ⟨rfl, rfl, rfl⟩ rfl rfl (hcur) Tryd.underlying32 (by kernel_rfl) rfl fun A F => ?_
   refine sw_fld F 1 ⟨rfl, rfl, rfl⟩ rfl (by kernel_rfl) rfl rfl fun A F => ?_
   refine sw_ext F ((HB.bx M.st).at_ _ _ (hi) 1 _ rfl) ⟨rfl, rfl, rfl⟩ rfl (by kernel_rfl) rfl fun A F => ?_
   refine sw_asg F ⟨rfl, rfl, rfl⟩ rfl rfl fun A F => ?_
   refine sw_end ?_
   show Code.wp _ _ _ _ _
   refine sw_reg ?_
   refine sw_move F ⟨rfl, rfl, rfl⟩ rfl rfl fun A F => ?_
   refine sw_add F ⟨rfl, rfl, rfl⟩ rfl rfl (by have := HB.le; omega) rfl fun A F => ?_
   refine sw_asg F ⟨rfl, rfl, rfl⟩ rfl rfl fun A F => ?_
   refine sw_end ?_
   obtain ⟨hl0, hl1⟩ := L i (List.mem_of_getElem? hi) (isJ_iff.2 (.inl h14))
   rw [← Int.toNat_of_nonneg hl0] at F
   show _ ∧ _
   refine ⟨⟨n + 1, i.a.toNat, by omega, hl1, ?_, F.keep [0, 1, 5] rfl, M⟩, ?_⟩
   ·rw [heq, show xs.length + 1 - n = (xs.length + 1 - (n + 1)) + 1 by omega, rnd, hi]
    simp [h14]
   rw [(F.keep (N := 23) (L' := [(5, .int .i64 ((n + 1 : Nat) : Int))]) [5] rfl).2.2 5 (.int .i64 ((n + 1 : Nat) : Int)) rfl, hA5]
   simp only [intOf]
   omega
 ·skip
  have hce : n = xs.length + 1 := by have := of_decide_eq_false hc1; omega
  refine wp_exit ?_
  repeat (first | refine then_exit ?_ | refine exit_block ?_ | refine exit_pass rfl ?_)
  show Code.wp _ _ _ _ _
  refine sw_seq ?_
  refine sw_reg ?_
  refine sw_asg F ⟨rfl, rfl, rfl⟩ rfl rfl fun A F => ?_
  refine sw_end ?_
  show Code.wp _ _ _ _ _
  refine wp_ret ?_
  repeat (first | refine then_ret ?_ | refine block_ret ?_)
  refine sw_rettmp F Tryd.results16 rfl ⟨?_, M.st⟩
  rw [heq, hce, Nat.sub_self]
  rfl
section
variable {P : Program} {ops : Array Oper} {Q : Exit → Act → World → Prop} {a : Act} {w : World} {rest : List Oper} {o : Oper} {N : Nat} {L : List (Nat × Value)} {i t u : Nat} {x y : Operand}
theorem sw_mul (F : Fm N L a) {m n : Int} (h : Is o (some i) (.binOp .mul t x y u)) (h1 : opv L x = some (.int .i64 m)) (h2 : opv L y = some (.int .i64 n)) (hb : -9223372036854775808 ≤ m * n ∧ m * n ≤ 9223372036854775807) (hi : Nat.blt i N = true) (K : ∀ a', Fm N ((i, .int .i64 (m * n)) :: L) a' → wpList P ops Q rest a' w) : wpList P ops Q (o :: rest) a w :=
 sw_mulw F h h1 h2 hi fun a' F' => K a' (by rw [wrapJ _ hb.1 hb.2] at F'; exact F')
theorem sw_quo (F : Fm N L a) {m n : Int} (h : Is o (some i) (.binOp .quo t x y u)) (h1 : opv L x = some (.int .i64 m)) (h2 : opv L y = some (.int .i64 n)) (hn : n ≠ 0) (hb : -9223372036854775808 ≤ m.tdiv n ∧ m.tdiv n ≤ 9223372036854775807) (hi : Nat.blt i N = true) (K : ∀ a', Fm N ((i, .int .i64 (m.tdiv n)) :: L) a' → wpList P ops Q rest a' w) : wpList P ops Q (o :: rest) a w :=
 sw_val F h.1 h.2.2 hi (by
  have e := wrapJ _ hb.1 hb.2
  have r : (binOp .quo t (.int .i64 m) (.int .i64 n)).run P w = .ok (.int .i64 (m.tdiv n)) w := by simp [binOp, Op.intDiv, hn, e]
  unfold execOp; rw [h.2.1]; simp [F.ev h1, F.ev h2, eqGuard]; rw [r]; rfl) K
end
theorem two7 (a b : Int) : two 7 a b = if a ≠ 0 ∧ mx.tdiv a < b then none else some (a * b) := rfl
theorem two8 (a b : Int) : two 8 a b = if b = 0 then none else some (a.tdiv b) := rfl
theorem two9 (a b : Int) : two 9 a b = if b = 0 then none else some (a.tmod b) := rfl
theorem numP_some (n : Int) : (numP n).isSome = (decide (0 ≤ n) && decide (n ≤ 1099511627775)) := by
 unfold numP mx
 by_cases h : n < 0 ∨ 1099511627775 < n
 ·rw [if_pos h]
  rcases h with h | h
  ·rw [decide_eq_false (by omega : ¬ 0 ≤ n)]; rfl
  ·rw [decide_eq_false (by omega : ¬ n ≤ 1099511627775), Bool.and_false]; rfl
 ·rw [if_neg h, decide_eq_true (by omega : 0 ≤ n), decide_eq_true (by omega : n ≤ 1099511627775)]; rfl
theorem isSome_in {n : Int} (h : 0 ≤ n ∧ n ≤ mx) : true = (decide (0 ≤ n) && decide (n ≤ 1099511627775)) := by
 unfold mx at h
 rw [decide_eq_true h.1, decide_eq_true h.2]; rfl
set_option maxRecDepth 20000 in
set_option maxHeartbeats 8000000 in
theorem rsum_m (op a b : Int) (w0 : World) (ha : 0 ≤ a ∧ a ≤ mx) (hb : 0 ≤ b ∧ b ≤ mx) : Calls Tryd.prog 17 ([.int .i64 op, .int .i64 a, .int .i64 b] : List Value).toArray w0 fun e w' => (∃ n z, e = .returned (.tuple #[.int .i64 n, .bool z]) ∧ (5 ≤ op → op ≤ 12 → z = (two op a b).isSome)) ∧ Below w0.heap.size w0 w' := by
 have M := bx_begin (w0 := w0) (w := w0) (Below.refl _ _)
 have hm := mulmx ha hb
 have ha' := ha
 have hb' := hb
 unfold mx at ha' hb' hm
 refine sw_fn Tryd.func17 rfl 73 Tryd.ntmps17 rfl fun A F => ?_
 refine sw_seq ?_
 refine sw_reg ?_
 refine sw_asg F ⟨rfl, rfl, rfl⟩ rfl rfl fun A F => ?_
 refine sw_asg F ⟨rfl, rfl, rfl⟩ rfl rfl fun A F => ?_
 refine sw_end ?_
 show Code.wp _ _ _ _ _
 refine sw_seq ?_
 refine sw_reg ?_
 refine sw_asg F ⟨rfl, rfl, rfl⟩ rfl rfl fun A F => ?_
 refine sw_end ?_
 show Code.wp _ _ _ _ _
 refine sw_seq ?_
 refine sw_seq ?_
 refine sw_reg ?_
 refine sw_move F ⟨rfl, rfl, rfl⟩ rfl rfl fun A F => ?_
 refine sw_end ?_
 show Code.wp _ _ _ _ _
 refine wp_block ?_
 refine sw_seq ?_
 refine sw_reg ?_
 refine sw_eql F ⟨rfl, rfl, rfl⟩ rfl rfl rfl fun A F => ?_
 refine sw_asg F ⟨rfl, rfl, rfl⟩ rfl rfl fun A F => ?_
 refine sw_end ?_
 show Code.wp _ _ _ _ _
 refine sw_cond F rfl (fun hc1 => ?_) (fun hc1 => ?_)
 ·skip
  have ho : op = 5 := by simpa using hc1
  subst ho
  refine sw_reg ?_
  refine sw_move F ⟨rfl, rfl, rfl⟩ rfl rfl fun A F => ?_
  refine sw_move F ⟨rfl, rfl, rfl⟩ rfl rfl fun A F => ?_
  refine sw_add F ⟨rfl, rfl, rfl⟩ rfl rfl (by omega) rfl fun A F => ?_
  refine sw_asg F ⟨rfl, rfl, rfl⟩ rfl rfl fun A F => ?_
  refine sw_end ?_
  show Code.wp _ _ _ _ _
  refine sw_seq ?_
  refine sw_reg ?_
  refine sw_move F ⟨rfl, rfl, rfl⟩ rfl rfl fun A F => ?_
  refine sw_move F ⟨rfl, rfl, rfl⟩ rfl rfl fun A F => ?_
  refine sw_geq F ⟨rfl, rfl, rfl⟩ rfl rfl rfl fun A F => ?_
  refine sw_move F ⟨rfl, rfl, rfl⟩ rfl rfl fun A F => ?_
  cases c2 : (decide (0 ≤ (a + b))) with
  | true =>
   rw [c2] at F
   refine sw_on F 3 rfl rfl rfl rfl rfl ?_
   refine sw_move F ⟨rfl, rfl, rfl⟩ rfl rfl fun A F => ?_
   refine sw_on F 3 rfl rfl rfl rfl rfl ?_
   refine sw_leq F ⟨rfl, rfl, rfl⟩ rfl rfl rfl fun A F => ?_
   refine sw_pickT F ⟨rfl, rfl, rfl⟩ rfl rfl rfl fun A F => ?_
   refine sw_asg F ⟨rfl, rfl, rfl⟩ rfl rfl fun A F => ?_
   refine sw_asg F ⟨rfl, rfl, rfl⟩ rfl rfl fun A F => ?_
   refine sw_end ?_
   show Code.wp _ _ _ _ _
   refine wp_ret ?_
   repeat (first | refine then_ret ?_ | refine block_ret ?_)
   have hz : (two 5 a b).isSome = (decide (0 ≤ (a + b)) && decide ((a + b) ≤ 1099511627775)) := numP_some _
   rw [c2] at hz
   exact sw_two F Tryd.results17 rfl rfl ⟨⟨_, _, rfl, fun _ _ => hz.symm⟩, M.st⟩
  | false =>
   rw [c2] at F
   refine sw_off F 3 rfl rfl rfl rfl rfl rfl rfl fun A F => ?_
   refine sw_off F 3 rfl rfl rfl rfl rfl rfl rfl fun A F => ?_
   refine sw_pickF F ⟨rfl, rfl, rfl⟩ rfl rfl rfl fun A F => ?_
   refine sw_asg F ⟨rfl, rfl, rfl⟩ rfl rfl fun A F => ?_
   refine sw_asg F ⟨rfl, rfl, rfl⟩ rfl rfl fun A F => ?_
   refine sw_end ?_
   show Code.wp _ _ _ _ _
   refine wp_ret ?_
   repeat (first | refine then_ret ?_ | refine block_ret ?_)
   have hz : (two 5 a b).isSome = (decide (0 ≤ (a + b)) && decide ((a + b) ≤ 1099511627775)) := numP_some _
   rw [c2] at hz
   exact sw_two F Tryd.results17 rfl rfl ⟨⟨_, _, rfl, fun _ _ => hz.symm⟩, M.st⟩
 ·skip
  have hn5 : op ≠ 5 := by simpa using hc1
  refine sw_seq ?_
  refine sw_reg ?_
  refine sw_eql F ⟨rfl, rfl, rfl⟩ rfl rfl rfl fun A F => ?_
  refine sw_asg F ⟨rfl, rfl, rfl⟩ rfl rfl fun A F => ?_
  refine sw_end ?_
  show Code.wp _ _ _ _ _
  refine sw_cond F rfl (fun hc3 => ?_) (fun hc3 => ?_)
  ·skip
   have ho : op = 6 := by simpa using hc3
   subst ho
   refine sw_reg ?_
   refine sw_move F ⟨rfl, rfl, rfl⟩ rfl rfl fun A F => ?_
   refine sw_move F ⟨rfl, rfl, rfl⟩ rfl rfl fun A F => ?_
   refine sw_sub F ⟨rfl, rfl, rfl⟩ rfl rfl (by omega) rfl fun A F => ?_
   refine sw_asg F ⟨rfl, rfl, rfl⟩ rfl rfl fun A F => ?_
   refine sw_end ?_
   show Code.wp _ _ _ _ _
   refine sw_seq ?_
   refine sw_reg ?_
   refine sw_move F ⟨rfl, rfl, rfl⟩ rfl rfl fun A F => ?_
   refine sw_move F ⟨rfl, rfl, rfl⟩ rfl rfl fun A F => ?_
   refine sw_geq F ⟨rfl, rfl, rfl⟩ rfl rfl rfl fun A F => ?_
   refine sw_move F ⟨rfl, rfl, rfl⟩ rfl rfl fun A F => ?_
   cases c4 : (decide (0 ≤ (a - b))) with
   | true =>
    rw [c4] at F
    refine sw_on F 3 rfl rfl rfl rfl rfl ?_
    refine sw_move F ⟨rfl, rfl, rfl⟩ rfl rfl fun A F => ?_
    refine sw_on F 3 rfl rfl rfl rfl rfl ?_
    refine sw_leq F ⟨rfl, rfl, rfl⟩ rfl rfl rfl fun A F => ?_
    refine sw_pickT F ⟨rfl, rfl, rfl⟩ rfl rfl rfl fun A F => ?_
    refine sw_asg F ⟨rfl, rfl, rfl⟩ rfl rfl fun A F => ?_
    refine sw_asg F ⟨rfl, rfl, rfl⟩ rfl rfl fun A F => ?_
    refine sw_end ?_
    show Code.wp _ _ _ _ _
    refine wp_ret ?_
    repeat (first | refine then_ret ?_ | refine block_ret ?_)
    have hz : (two 6 a b).isSome = (decide (0 ≤ (a - b)) && decide ((a - b) ≤ 1099511627775)) := numP_some _
    rw [c4] at hz
    exact sw_two F Tryd.results17 rfl rfl ⟨⟨_, _, rfl, fun _ _ => hz.symm⟩, M.st⟩
   | false =>
    rw [c4] at F
    refine sw_off F 3 rfl rfl rfl rfl rfl rfl rfl fun A F => ?_
    refine sw_off F 3 rfl rfl rfl rfl rfl rfl rfl fun A F => ?_
    refine sw_pickF F ⟨rfl, rfl, rfl⟩ rfl rfl rfl fun A F => ?_
    refine sw_asg F ⟨rfl, rfl, rfl⟩ rfl rfl fun A F => ?_
    refine sw_asg F ⟨rfl, rfl, rfl⟩ rfl rfl fun A F => ?_
    refine sw_end ?_
    show Code.wp _ _ _ _ _
    refine wp_ret ?_
    repeat (first | refine then_ret ?_ | refine block_ret ?_)
    have hz : (two 6 a b).isSome = (decide (0 ≤ (a - b)) && decide ((a - b) ≤ 1099511627775)) := numP_some _
    rw [c4] at hz
    exact sw_two F Tryd.results17 rfl rfl ⟨⟨_, _, rfl, fun _ _ => hz.symm⟩, M.st⟩
  ·skip
   have hn6 : op ≠ 6 := by simpa using hc3
   refine sw_seq ?_
   refine sw_reg ?_
   refine sw_eql F ⟨rfl, rfl, rfl⟩ rfl rfl rfl fun A F => ?_
   refine sw_asg F ⟨rfl, rfl, rfl⟩ rfl rfl fun A F => ?_
   refine sw_end ?_
   show Code.wp _ _ _ _ _
   refine sw_cond F rfl (fun hc5 => ?_) (fun hc5 => ?_)
   ·skip
    have ho : op = 7 := by simpa using hc5
    subst ho
    refine sw_seq ?_
    refine sw_seq ?_
    refine sw_reg ?_
    refine sw_move F ⟨rfl, rfl, rfl⟩ rfl rfl fun A F => ?_
    refine sw_gtr F ⟨rfl, rfl, rfl⟩ rfl rfl rfl fun A F => ?_
    refine sw_move F ⟨rfl, rfl, rfl⟩ rfl rfl fun A F => ?_
    cases c6 : (decide (0 < a)) with
    | true =>
     rw [c6] at F
     have ha0 : 0 < a := by have := of_decide_eq_true c6; omega
     refine sw_on F 2 rfl rfl rfl rfl rfl ?_
     refine sw_move F ⟨rfl, rfl, rfl⟩ rfl rfl fun A F => ?_
     refine sw_on F 2 rfl rfl rfl rfl rfl ?_
     refine sw_move F ⟨rfl, rfl, rfl⟩ rfl rfl fun A F => ?_
     refine sw_on F 2 rfl rfl rfl rfl rfl ?_
     have hq : 0 ≤ (1099511627775 : Int).tdiv a ∧ (1099511627775 : Int).tdiv a ≤ 1099511627775 := ⟨Int.tdiv_nonneg (by decide) ha.1, Int.tdiv_le_self _ (by decide)⟩
     refine sw_quo F (m := 1099511627775) (n := a) ⟨rfl, rfl, rfl⟩ rfl rfl (by omega) (by omega) rfl fun A F => ?_
     refine sw_on F 2 rfl rfl rfl rfl rfl ?_
     refine sw_gtr F ⟨rfl, rfl, rfl⟩ rfl rfl rfl fun A F => ?_
     refine sw_pickT F ⟨rfl, rfl, rfl⟩ rfl rfl rfl fun A F => ?_
     refine sw_end ?_
     show Code.wp _ _ _ _ _
     refine sw_cond F rfl (fun hc7 => ?_) (fun hc7 => ?_)
     ·skip
      have hlt : (1099511627775 : Int).tdiv a < b := by have := of_decide_eq_true hc7; exact this
      refine sw_seq ?_
      refine sw_reg ?_
      refine sw_asg F ⟨rfl, rfl, rfl⟩ rfl rfl fun A F => ?_
      refine sw_asg F ⟨rfl, rfl, rfl⟩ rfl rfl fun A F => ?_
      refine sw_end ?_
      show Code.wp _ _ _ _ _
      refine wp_ret ?_
      repeat (first | refine then_ret ?_ | refine block_ret ?_)
      exact sw_two F Tryd.results17 rfl rfl ⟨⟨_, _, rfl, fun _ _ => by rw [show two 7 a b = none from (two7 a b).trans (if_pos ⟨by omega, hlt⟩)]; rfl⟩, M.st⟩
     ·skip
      have hlt : ¬ (1099511627775 : Int).tdiv a < b := by have := of_decide_eq_false hc7; exact this
      have hnot : ¬ (a ≠ 0 ∧ (1099511627775 : Int).tdiv a < b) := fun q => hlt q.2
      refine wp_skip ?_
      show Code.wp _ _ _ _ _
      refine sw_reg ?_
      refine sw_move F ⟨rfl, rfl, rfl⟩ rfl rfl fun A F => ?_
      refine sw_move F ⟨rfl, rfl, rfl⟩ rfl rfl fun A F => ?_
      have hmv : -9223372036854775808 ≤ a * b ∧ a * b ≤ 9223372036854775807 := by have := hm hnot; omega
      refine sw_mul F ⟨rfl, rfl, rfl⟩ rfl rfl hmv rfl fun A F => ?_
      refine sw_asg F ⟨rfl, rfl, rfl⟩ rfl rfl fun A F => ?_
      refine sw_end ?_
      show Code.wp _ _ _ _ _
      refine sw_seq ?_
      refine sw_reg ?_
      refine sw_move F ⟨rfl, rfl, rfl⟩ rfl rfl fun A F => ?_
      refine sw_move F ⟨rfl, rfl, rfl⟩ rfl rfl fun A F => ?_
      refine sw_geq F ⟨rfl, rfl, rfl⟩ rfl rfl rfl fun A F => ?_
      refine sw_move F ⟨rfl, rfl, rfl⟩ rfl rfl fun A F => ?_
      cases c8 : (decide (0 ≤ (a * b))) with
      | true =>
       rw [c8] at F
       refine sw_on F 3 rfl rfl rfl rfl rfl ?_
       refine sw_move F ⟨rfl, rfl, rfl⟩ rfl rfl fun A F => ?_
       refine sw_on F 3 rfl rfl rfl rfl rfl ?_
       refine sw_leq F ⟨rfl, rfl, rfl⟩ rfl rfl rfl fun A F => ?_
       refine sw_pickT F ⟨rfl, rfl, rfl⟩ rfl rfl rfl fun A F => ?_
       refine sw_asg F ⟨rfl, rfl, rfl⟩ rfl rfl fun A F => ?_
       refine sw_asg F ⟨rfl, rfl, rfl⟩ rfl rfl fun A F => ?_
       refine sw_end ?_
       show Code.wp _ _ _ _ _
       refine wp_ret ?_
       repeat (first | refine then_ret ?_ | refine block_ret ?_)
       have hz : (two 7 a b).isSome = (decide (0 ≤ (a * b)) && decide ((a * b) ≤ 1099511627775)) := by rw [show two 7 a b = some (a * b) from (two7 a b).trans (if_neg hnot)]; exact isSome_in (hm hnot)
       rw [c8] at hz
       exact sw_two F Tryd.results17 rfl rfl ⟨⟨_, _, rfl, fun _ _ => hz.symm⟩, M.st⟩
      | false =>
       rw [c8] at F
       refine sw_off F 3 rfl rfl rfl rfl rfl rfl rfl fun A F => ?_
       refine sw_off F 3 rfl rfl rfl rfl rfl rfl rfl fun A F => ?_
       refine sw_pickF F ⟨rfl, rfl, rfl⟩ rfl rfl rfl fun A F => ?_
       refine sw_asg F ⟨rfl, rfl, rfl⟩ rfl rfl fun A F => ?_
       refine sw_asg F ⟨rfl, rfl, rfl⟩ rfl rfl fun A F => ?_
       refine sw_end ?_
       show Code.wp _ _ _ _ _
       refine wp_ret ?_
       repeat (first | refine then_ret ?_ | refine block_ret ?_)
       have hz : (two 7 a b).isSome = (decide (0 ≤ (a * b)) && decide ((a * b) ≤ 1099511627775)) := by rw [show two 7 a b = some (a * b) from (two7 a b).trans (if_neg hnot)]; exact isSome_in (hm hnot)
       rw [c8] at hz
       exact sw_two F Tryd.results17 rfl rfl ⟨⟨_, _, rfl, fun _ _ => hz.symm⟩, M.st⟩
    | false =>
     rw [c6] at F
     have ha0 : a = 0 := by have := of_decide_eq_false c6; omega
     have hnot : ¬ (a ≠ 0 ∧ (1099511627775 : Int).tdiv a < b) := fun q => q.1 ha0
     refine sw_off F 2 rfl rfl rfl rfl rfl rfl rfl fun A F => ?_
     refine sw_off F 2 rfl rfl rfl rfl rfl rfl rfl fun A F => ?_
     refine sw_off F 2 rfl rfl rfl rfl rfl rfl rfl fun A F => ?_
     refine sw_off F 2 rfl rfl rfl rfl rfl rfl rfl fun A F => ?_
     refine sw_pickF F ⟨rfl, rfl, rfl⟩ rfl rfl rfl fun A F => ?_
     refine sw_end ?_
     show Code.wp _ _ _ _ _
     refine sw_false F rfl ?_
     refine wp_skip ?_
     show Code.wp _ _ _ _ _
     refine sw_reg ?_
     refine sw_move F ⟨rfl, rfl, rfl⟩ rfl rfl fun A F => ?_
     refine sw_move F ⟨rfl, rfl, rfl⟩ rfl rfl fun A F => ?_
     have hmv : -9223372036854775808 ≤ a * b ∧ a * b ≤ 9223372036854775807 := by have := hm hnot; omega
     refine sw_mul F ⟨rfl, rfl, rfl⟩ rfl rfl hmv rfl fun A F => ?_
     refine sw_asg F ⟨rfl, rfl, rfl⟩ rfl rfl fun A F => ?_
     refine sw_end ?_
     show Code.wp _ _ _ _ _
     refine sw_seq ?_
     refine sw_reg ?_
     refine sw_move F ⟨rfl, rfl, rfl⟩ rfl rfl fun A F => ?_
     refine sw_move F ⟨rfl, rfl, rfl⟩ rfl rfl fun A F => ?_
     refine sw_geq F ⟨rfl, rfl, rfl⟩ rfl rfl rfl fun A F => ?_
     refine sw_move F ⟨rfl, rfl, rfl⟩ rfl rfl fun A F => ?_
     cases c9 : (decide (0 ≤ (a * b))) with
     | true =>
      rw [c9] at F
      refine sw_on F 3 rfl rfl rfl rfl rfl ?_
      refine sw_move F ⟨rfl, rfl, rfl⟩ rfl rfl fun A F => ?_
      refine sw_on F 3 rfl rfl rfl rfl rfl ?_
      refine sw_leq F ⟨rfl, rfl, rfl⟩ rfl rfl rfl fun A F => ?_
      refine sw_pickT F ⟨rfl, rfl, rfl⟩ rfl rfl rfl fun A F => ?_
      refine sw_asg F ⟨rfl, rfl, rfl⟩ rfl rfl fun A F => ?_
      refine sw_asg F ⟨rfl, rfl, rfl⟩ rfl rfl fun A F => ?_
      refine sw_end ?_
      show Code.wp _ _ _ _ _
      refine wp_ret ?_
      repeat (first | refine then_ret ?_ | refine block_ret ?_)
      have hz : (two 7 a b).isSome = (decide (0 ≤ (a * b)) && decide ((a * b) ≤ 1099511627775)) := by rw [show two 7 a b = some (a * b) from (two7 a b).trans (if_neg hnot)]; exact isSome_in (hm hnot)
      rw [c9] at hz
      exact sw_two F Tryd.results17 rfl rfl ⟨⟨_, _, rfl, fun _ _ => hz.symm⟩, M.st⟩
     | false =>
      rw [c9] at F
      refine sw_off F 3 rfl rfl rfl rfl rfl rfl rfl fun A F => ?_
      refine sw_off F 3 rfl rfl rfl rfl rfl rfl rfl fun A F => ?_
      refine sw_pickF F ⟨rfl, rfl, rfl⟩ rfl rfl rfl fun A F => ?_
      refine sw_asg F ⟨rfl, rfl, rfl⟩ rfl rfl fun A F => ?_
      refine sw_asg F ⟨rfl, rfl, rfl⟩ rfl rfl fun A F => ?_
      refine sw_end ?_
      show Code.wp _ _ _ _ _
      refine wp_ret ?_
      repeat (first | refine then_ret ?_ | refine block_ret ?_)
      have hz : (two 7 a b).isSome = (decide (0 ≤ (a * b)) && decide ((a * b) ≤ 1099511627775)) := by rw [show two 7 a b = some (a * b) from (two7 a b).trans (if_neg hnot)]; exact isSome_in (hm hnot)
      rw [c9] at hz
      exact sw_two F Tryd.results17 rfl rfl ⟨⟨_, _, rfl, fun _ _ => hz.symm⟩, M.st⟩
   ·skip
    have hn7 : op ≠ 7 := by simpa using hc5
    refine sw_seq ?_
    refine sw_seq ?_
    refine sw_reg ?_
    refine sw_eql F ⟨rfl, rfl, rfl⟩ rfl rfl rfl fun A F => ?_
    refine sw_asg F ⟨rfl, rfl, rfl⟩ rfl rfl fun A F => ?_
    refine sw_end ?_
    show Code.wp _ _ _ _ _
    refine sw_cond F rfl (fun hc10 => ?_) (fun hc10 => ?_)
    ·skip
     have ho : op = 8 := by simpa using hc10
     subst ho
     refine wp_skip ?_
     show Code.wp _ _ _ _ _
     refine sw_true F rfl ?_
     refine sw_seq ?_
     refine sw_seq ?_
     refine sw_reg ?_
     refine sw_move F ⟨rfl, rfl, rfl⟩ rfl rfl fun A F => ?_
     refine sw_eql F ⟨rfl, rfl, rfl⟩ rfl rfl rfl fun A F => ?_
     refine sw_end ?_
     show Code.wp _ _ _ _ _
     refine sw_cond F rfl (fun hc11 => ?_) (fun hc11 => ?_)
     ·skip
      have hb0 : b = 0 := by simpa using hc11
      refine sw_seq ?_
      refine sw_reg ?_
      refine sw_asg F ⟨rfl, rfl, rfl⟩ rfl rfl fun A F => ?_
      refine sw_asg F ⟨rfl, rfl, rfl⟩ rfl rfl fun A F => ?_
      refine sw_end ?_
      show Code.wp _ _ _ _ _
      refine wp_ret ?_
      repeat (first | refine then_ret ?_ | refine block_ret ?_)
      exact sw_two F Tryd.results17 rfl rfl ⟨⟨_, _, rfl, fun _ _ => by rw [show two 8 a b = none from (two8 a b).trans (if_pos hb0)]; rfl⟩, M.st⟩
     ·skip
      have hb0 : b ≠ 0 := by simpa using hc11
      refine wp_skip ?_
      show Code.wp _ _ _ _ _
      refine sw_seq ?_
      refine sw_reg ?_
      refine sw_move F ⟨rfl, rfl, rfl⟩ rfl rfl fun A F => ?_
      refine sw_move F ⟨rfl, rfl, rfl⟩ rfl rfl fun A F => ?_
      have hq := two_in (op := 8) ha hb (show two 8 a b = some (a.tdiv b) from (two8 a b).trans (if_neg hb0))
      unfold mx at hq
      refine sw_quo F (m := a) (n := b) ⟨rfl, rfl, rfl⟩ rfl rfl hb0 (by omega) rfl fun A F => ?_
      refine sw_asg F ⟨rfl, rfl, rfl⟩ rfl rfl fun A F => ?_
      refine sw_end ?_
      show Code.wp _ _ _ _ _
      refine sw_seq ?_
      refine sw_reg ?_
      refine sw_move F ⟨rfl, rfl, rfl⟩ rfl rfl fun A F => ?_
      refine sw_eql F ⟨rfl, rfl, rfl⟩ rfl rfl rfl fun A F => ?_
      refine sw_end ?_
      show Code.wp _ _ _ _ _
      refine sw_false F rfl ?_
      refine wp_skip ?_
      show Code.wp _ _ _ _ _
      refine sw_seq ?_
      refine sw_reg ?_
      refine sw_move F ⟨rfl, rfl, rfl⟩ rfl rfl fun A F => ?_
      refine sw_move F ⟨rfl, rfl, rfl⟩ rfl rfl fun A F => ?_
      refine sw_geq F ⟨rfl, rfl, rfl⟩ rfl rfl rfl fun A F => ?_
      refine sw_move F ⟨rfl, rfl, rfl⟩ rfl rfl fun A F => ?_
      cases c12 : (decide (0 ≤ (a.tdiv b))) with
      | true =>
       rw [c12] at F
       refine sw_on F 3 rfl rfl rfl rfl rfl ?_
       refine sw_move F ⟨rfl, rfl, rfl⟩ rfl rfl fun A F => ?_
       refine sw_on F 3 rfl rfl rfl rfl rfl ?_
       refine sw_leq F ⟨rfl, rfl, rfl⟩ rfl rfl rfl fun A F => ?_
       refine sw_pickT F ⟨rfl, rfl, rfl⟩ rfl rfl rfl fun A F => ?_
       refine sw_asg F ⟨rfl, rfl, rfl⟩ rfl rfl fun A F => ?_
       refine sw_asg F ⟨rfl, rfl, rfl⟩ rfl rfl fun A F => ?_
       refine sw_end ?_
       show Code.wp _ _ _ _ _
       refine wp_ret ?_
       repeat (first | refine then_ret ?_ | refine block_ret ?_)
       have hz : (two 8 a b).isSome = (decide (0 ≤ (a.tdiv b)) && decide ((a.tdiv b) ≤ 1099511627775)) := by rw [show two 8 a b = some (a.tdiv b) from (two8 a b).trans (if_neg hb0)]; exact isSome_in hq
       rw [c12] at hz
       exact sw_two F Tryd.results17 rfl rfl ⟨⟨_, _, rfl, fun _ _ => hz.symm⟩, M.st⟩
      | false =>
       rw [c12] at F
       refine sw_off F 3 rfl rfl rfl rfl rfl rfl rfl fun A F => ?_
       refine sw_off F 3 rfl rfl rfl rfl rfl rfl rfl fun A F => ?_
       refine sw_pickF F ⟨rfl, rfl, rfl⟩ rfl rfl rfl fun A F => ?_
       refine sw_asg F ⟨rfl, rfl, rfl⟩ rfl rfl fun A F => ?_
       refine sw_asg F ⟨rfl, rfl, rfl⟩ rfl rfl fun A F => ?_
       refine sw_end ?_
       show Code.wp _ _ _ _ _
       refine wp_ret ?_
       repeat (first | refine then_ret ?_ | refine block_ret ?_)
       have hz : (two 8 a b).isSome = (decide (0 ≤ (a.tdiv b)) && decide ((a.tdiv b) ≤ 1099511627775)) := by rw [show two 8 a b = some (a.tdiv b) from (two8 a b).trans (if_neg hb0)]; exact isSome_in hq
       rw [c12] at hz
       exact sw_two F Tryd.results17 rfl rfl ⟨⟨_, _, rfl, fun _ _ => hz.symm⟩, M.st⟩
    ·skip
     have hn8 : op ≠ 8 := by simpa using hc10
     refine sw_reg ?_
     refine sw_eql F ⟨rfl, rfl, rfl⟩ rfl rfl rfl fun A F => ?_
     refine sw_asg F ⟨rfl, rfl, rfl⟩ rfl rfl fun A F => ?_
     refine sw_end ?_
     show Code.wp _ _ _ _ _
     refine sw_cond F rfl (fun hc13 => ?_) (fun hc13 => ?_)
     ·skip
      have ho : op = 9 := by simpa using hc13
      subst ho
      refine sw_seq ?_
      refine sw_seq ?_
      refine sw_reg ?_
      refine sw_move F ⟨rfl, rfl, rfl⟩ rfl rfl fun A F => ?_
      refine sw_eql F ⟨rfl, rfl, rfl⟩ rfl rfl rfl fun A F => ?_
      refine sw_end ?_
      show Code.wp _ _ _ _ _
      refine sw_cond F rfl (fun hc14 => ?_) (fun hc14 => ?_)
      ·skip
       have hb0 : b = 0 := by simpa using hc14
       refine sw_seq ?_
       refine sw_reg ?_
       refine sw_asg F ⟨rfl, rfl, rfl⟩ rfl rfl fun A F => ?_
       refine sw_asg F ⟨rfl, rfl, rfl⟩ rfl rfl fun A F => ?_
       refine sw_end ?_
       show Code.wp _ _ _ _ _
       refine wp_ret ?_
       repeat (first | refine then_ret ?_ | refine block_ret ?_)
       exact sw_two F Tryd.results17 rfl rfl ⟨⟨_, _, rfl, fun _ _ => by rw [show two 9 a b = none from (two9 a b).trans (if_pos hb0)]; rfl⟩, M.st⟩
      ·skip
       have hb0 : b ≠ 0 := by simpa using hc14
       refine wp_skip ?_
       show Code.wp _ _ _ _ _
       refine sw_seq ?_
       refine sw_reg ?_
       refine sw_move F ⟨rfl, rfl, rfl⟩ rfl rfl fun A F => ?_
       refine sw_move F ⟨rfl, rfl, rfl⟩ rfl rfl fun A F => ?_
       have hq := two_in (op := 8) ha hb (show two 8 a b = some (a.tdiv b) from (two8 a b).trans (if_neg hb0))
       unfold mx at hq
       refine sw_quo F (m := a) (n := b) ⟨rfl, rfl, rfl⟩ rfl rfl hb0 (by omega) rfl fun A F => ?_
       refine sw_asg F ⟨rfl, rfl, rfl⟩ rfl rfl fun A F => ?_
       refine sw_end ?_
       show Code.wp _ _ _ _ _
       refine sw_seq ?_
       refine sw_reg ?_
       refine sw_move F ⟨rfl, rfl, rfl⟩ rfl rfl fun A F => ?_
       refine sw_eql F ⟨rfl, rfl, rfl⟩ rfl rfl rfl fun A F => ?_
       refine sw_end ?_
       show Code.wp _ _ _ _ _
       refine sw_true F rfl ?_
       refine sw_reg ?_
       refine sw_move F ⟨rfl, rfl, rfl⟩ rfl rfl fun A F => ?_
       refine sw_move F ⟨rfl, rfl, rfl⟩ rfl rfl fun A F => ?_
       refine sw_move F ⟨rfl, rfl, rfl⟩ rfl rfl fun A F => ?_
       have hqb : -9223372036854775808 ≤ (a.tdiv b) * b ∧ (a.tdiv b) * b ≤ 9223372036854775807 := by
        have h1 := Int.mul_tdiv_add_tmod a b
        rw [Int.mul_comm] at h1
        have h2 := Int.tmod_nonneg b ha.1
        have h3 := Int.mul_nonneg (Int.tdiv_nonneg ha.1 hb.1) hb.1
        omega
       have hqm : a - (a.tdiv b) * b = a.tmod b := by
        have h1 := Int.mul_tdiv_add_tmod a b
        rw [Int.mul_comm] at h1
        omega
       refine sw_mul F ⟨rfl, rfl, rfl⟩ rfl rfl hqb rfl fun A F => ?_
       have hqs : -9223372036854775808 ≤ a - (a.tdiv b) * b ∧ a - (a.tdiv b) * b ≤ 9223372036854775807 := by
        rw [hqm]
        have h9 := two_in ha hb ((two9 a b).trans (if_neg hb0))
        unfold mx at h9
        omega
       refine sw_sub F ⟨rfl, rfl, rfl⟩ rfl rfl hqs rfl fun A F => ?_
       refine sw_asg F ⟨rfl, rfl, rfl⟩ rfl rfl fun A F => ?_
       refine sw_end ?_
       show Code.wp _ _ _ _ _
       refine sw_seq ?_
       refine sw_reg ?_
       refine sw_move F ⟨rfl, rfl, rfl⟩ rfl rfl fun A F => ?_
       refine sw_move F ⟨rfl, rfl, rfl⟩ rfl rfl fun A F => ?_
       refine sw_geq F ⟨rfl, rfl, rfl⟩ rfl rfl rfl fun A F => ?_
       refine sw_move F ⟨rfl, rfl, rfl⟩ rfl rfl fun A F => ?_
       cases c15 : (decide (0 ≤ (a - ((a.tdiv b) * b)))) with
       | true =>
        rw [c15] at F
        refine sw_on F 3 rfl rfl rfl rfl rfl ?_
        refine sw_move F ⟨rfl, rfl, rfl⟩ rfl rfl fun A F => ?_
        refine sw_on F 3 rfl rfl rfl rfl rfl ?_
        refine sw_leq F ⟨rfl, rfl, rfl⟩ rfl rfl rfl fun A F => ?_
        refine sw_pickT F ⟨rfl, rfl, rfl⟩ rfl rfl rfl fun A F => ?_
        refine sw_asg F ⟨rfl, rfl, rfl⟩ rfl rfl fun A F => ?_
        refine sw_asg F ⟨rfl, rfl, rfl⟩ rfl rfl fun A F => ?_
        refine sw_end ?_
        show Code.wp _ _ _ _ _
        refine wp_ret ?_
        repeat (first | refine then_ret ?_ | refine block_ret ?_)
        have hz : (two 9 a b).isSome = (decide (0 ≤ (a - ((a.tdiv b) * b))) && decide ((a - ((a.tdiv b) * b)) ≤ 1099511627775)) := by
          have h9 : two 9 a b = some (a.tmod b) := (two9 a b).trans (if_neg hb0)
          have h1 := two_in ha hb h9
          rw [h9, hqm]
          exact isSome_in h1
        rw [c15] at hz
        exact sw_two F Tryd.results17 rfl rfl ⟨⟨_, _, rfl, fun _ _ => hz.symm⟩, M.st⟩
       | false =>
        rw [c15] at F
        refine sw_off F 3 rfl rfl rfl rfl rfl rfl rfl fun A F => ?_
        refine sw_off F 3 rfl rfl rfl rfl rfl rfl rfl fun A F => ?_
        refine sw_pickF F ⟨rfl, rfl, rfl⟩ rfl rfl rfl fun A F => ?_
        refine sw_asg F ⟨rfl, rfl, rfl⟩ rfl rfl fun A F => ?_
        refine sw_asg F ⟨rfl, rfl, rfl⟩ rfl rfl fun A F => ?_
        refine sw_end ?_
        show Code.wp _ _ _ _ _
        refine wp_ret ?_
        repeat (first | refine then_ret ?_ | refine block_ret ?_)
        have hz : (two 9 a b).isSome = (decide (0 ≤ (a - ((a.tdiv b) * b))) && decide ((a - ((a.tdiv b) * b)) ≤ 1099511627775)) := by
          have h9 : two 9 a b = some (a.tmod b) := (two9 a b).trans (if_neg hb0)
          have h1 := two_in ha hb h9
          rw [h9, hqm]
          exact isSome_in h1
        rw [c15] at hz
        exact sw_two F Tryd.results17 rfl rfl ⟨⟨_, _, rfl, fun _ _ => hz.symm⟩, M.st⟩
     ·skip
      have hn9 : op ≠ 9 := by simpa using hc13
      refine sw_seq ?_
      refine sw_reg ?_
      refine sw_eql F ⟨rfl, rfl, rfl⟩ rfl rfl rfl fun A F => ?_
      refine sw_asg F ⟨rfl, rfl, rfl⟩ rfl rfl fun A F => ?_
      refine sw_end ?_
      show Code.wp _ _ _ _ _
      refine sw_cond F rfl (fun hc16 => ?_) (fun hc16 => ?_)
      ·skip
       have ho : op = 10 := by simpa using hc16
       subst ho
       refine sw_reg ?_
       refine sw_move F ⟨rfl, rfl, rfl⟩ rfl rfl fun A F => ?_
       refine sw_move F ⟨rfl, rfl, rfl⟩ rfl rfl fun A F => ?_
       refine sw_eql F ⟨rfl, rfl, rfl⟩ rfl rfl rfl fun A F => ?_
       refine sw_callR (by kernel_rfl) (rone_any (a == b) _) F ⟨rfl, rfl, rfl⟩ rfl rfl ?_
       rintro _ w ⟨rfl, hb⟩
       refine ⟨_, rfl, fun A F => ?_⟩
       replace M := M.aft hb
       clear hb
       refine sw_asg F ⟨rfl, rfl, rfl⟩ rfl rfl fun A F => ?_
       refine sw_end ?_
       show Code.wp _ _ _ _ _
       refine sw_seq ?_
       refine sw_reg ?_
       refine sw_move F ⟨rfl, rfl, rfl⟩ rfl rfl fun A F => ?_
       refine sw_move F ⟨rfl, rfl, rfl⟩ rfl rfl fun A F => ?_
       refine sw_geq F ⟨rfl, rfl, rfl⟩ rfl rfl rfl fun A F => ?_
       refine sw_move F ⟨rfl, rfl, rfl⟩ rfl rfl fun A F => ?_
       cases c17 : (decide (0 ≤ (tr (a == b)))) with
       | true =>
        rw [c17] at F
        refine sw_on F 3 rfl rfl rfl rfl rfl ?_
        refine sw_move F ⟨rfl, rfl, rfl⟩ rfl rfl fun A F => ?_
        refine sw_on F 3 rfl rfl rfl rfl rfl ?_
        refine sw_leq F ⟨rfl, rfl, rfl⟩ rfl rfl rfl fun A F => ?_
        refine sw_pickT F ⟨rfl, rfl, rfl⟩ rfl rfl rfl fun A F => ?_
        refine sw_asg F ⟨rfl, rfl, rfl⟩ rfl rfl fun A F => ?_
        refine sw_asg F ⟨rfl, rfl, rfl⟩ rfl rfl fun A F => ?_
        refine sw_end ?_
        show Code.wp _ _ _ _ _
        refine wp_ret ?_
        repeat (first | refine then_ret ?_ | refine block_ret ?_)
        have hz : (two 10 a b).isSome = (decide (0 ≤ (tr (a == b))) && decide ((tr (a == b)) ≤ 1099511627775)) := isSome_in (tr_in _)
        rw [c17] at hz
        exact sw_two F Tryd.results17 rfl rfl ⟨⟨_, _, rfl, fun _ _ => hz.symm⟩, M.st⟩
       | false =>
        rw [c17] at F
        refine sw_off F 3 rfl rfl rfl rfl rfl rfl rfl fun A F => ?_
        refine sw_off F 3 rfl rfl rfl rfl rfl rfl rfl fun A F => ?_
        refine sw_pickF F ⟨rfl, rfl, rfl⟩ rfl rfl rfl fun A F => ?_
        refine sw_asg F ⟨rfl, rfl, rfl⟩ rfl rfl fun A F => ?_
        refine sw_asg F ⟨rfl, rfl, rfl⟩ rfl rfl fun A F => ?_
        refine sw_end ?_
        show Code.wp _ _ _ _ _
        refine wp_ret ?_
        repeat (first | refine then_ret ?_ | refine block_ret ?_)
        have hz : (two 10 a b).isSome = (decide (0 ≤ (tr (a == b))) && decide ((tr (a == b)) ≤ 1099511627775)) := isSome_in (tr_in _)
        rw [c17] at hz
        exact sw_two F Tryd.results17 rfl rfl ⟨⟨_, _, rfl, fun _ _ => hz.symm⟩, M.st⟩
      ·skip
       have hn10 : op ≠ 10 := by simpa using hc16
       refine sw_seq ?_
       refine sw_reg ?_
       refine sw_eql F ⟨rfl, rfl, rfl⟩ rfl rfl rfl fun A F => ?_
       refine sw_asg F ⟨rfl, rfl, rfl⟩ rfl rfl fun A F => ?_
       refine sw_end ?_
       show Code.wp _ _ _ _ _
       refine sw_cond F rfl (fun hc18 => ?_) (fun hc18 => ?_)
       ·skip
        have ho : op = 11 := by simpa using hc18
        subst ho
        refine sw_reg ?_
        refine sw_move F ⟨rfl, rfl, rfl⟩ rfl rfl fun A F => ?_
        refine sw_move F ⟨rfl, rfl, rfl⟩ rfl rfl fun A F => ?_
        refine sw_lss F ⟨rfl, rfl, rfl⟩ rfl rfl rfl fun A F => ?_
        refine sw_callR (by kernel_rfl) (rone_any (decide (a < b)) _) F ⟨rfl, rfl, rfl⟩ rfl rfl ?_
        rintro _ w ⟨rfl, hb⟩
        refine ⟨_, rfl, fun A F => ?_⟩
        replace M := M.aft hb
        clear hb
        refine sw_asg F ⟨rfl, rfl, rfl⟩ rfl rfl fun A F => ?_
        refine sw_end ?_
        show Code.wp _ _ _ _ _
        refine sw_seq ?_
        refine sw_reg ?_
        refine sw_move F ⟨rfl, rfl, rfl⟩ rfl rfl fun A F => ?_
        refine sw_move F ⟨rfl, rfl, rfl⟩ rfl rfl fun A F => ?_
        refine sw_geq F ⟨rfl, rfl, rfl⟩ rfl rfl rfl fun A F => ?_
        refine sw_move F ⟨rfl, rfl, rfl⟩ rfl rfl fun A F => ?_
        cases c19 : (decide (0 ≤ (tr (decide (a < b))))) with
        | true =>
         rw [c19] at F
         refine sw_on F 3 rfl rfl rfl rfl rfl ?_
         refine sw_move F ⟨rfl, rfl, rfl⟩ rfl rfl fun A F => ?_
         refine sw_on F 3 rfl rfl rfl rfl rfl ?_
         refine sw_leq F ⟨rfl, rfl, rfl⟩ rfl rfl rfl fun A F => ?_
         refine sw_pickT F ⟨rfl, rfl, rfl⟩ rfl rfl rfl fun A F => ?_
         refine sw_asg F ⟨rfl, rfl, rfl⟩ rfl rfl fun A F => ?_
         refine sw_asg F ⟨rfl, rfl, rfl⟩ rfl rfl fun A F => ?_
         refine sw_end ?_
         show Code.wp _ _ _ _ _
         refine wp_ret ?_
         repeat (first | refine then_ret ?_ | refine block_ret ?_)
         have hz : (two 11 a b).isSome = (decide (0 ≤ (tr (decide (a < b)))) && decide ((tr (decide (a < b))) ≤ 1099511627775)) := isSome_in (tr_in _)
         rw [c19] at hz
         exact sw_two F Tryd.results17 rfl rfl ⟨⟨_, _, rfl, fun _ _ => hz.symm⟩, M.st⟩
        | false =>
         rw [c19] at F
         refine sw_off F 3 rfl rfl rfl rfl rfl rfl rfl fun A F => ?_
         refine sw_off F 3 rfl rfl rfl rfl rfl rfl rfl fun A F => ?_
         refine sw_pickF F ⟨rfl, rfl, rfl⟩ rfl rfl rfl fun A F => ?_
         refine sw_asg F ⟨rfl, rfl, rfl⟩ rfl rfl fun A F => ?_
         refine sw_asg F ⟨rfl, rfl, rfl⟩ rfl rfl fun A F => ?_
         refine sw_end ?_
         show Code.wp _ _ _ _ _
         refine wp_ret ?_
         repeat (first | refine then_ret ?_ | refine block_ret ?_)
         have hz : (two 11 a b).isSome = (decide (0 ≤ (tr (decide (a < b)))) && decide ((tr (decide (a < b))) ≤ 1099511627775)) := isSome_in (tr_in _)
         rw [c19] at hz
         exact sw_two F Tryd.results17 rfl rfl ⟨⟨_, _, rfl, fun _ _ => hz.symm⟩, M.st⟩
       ·skip
        have hn11 : op ≠ 11 := by simpa using hc18
        refine sw_seq ?_
        refine sw_reg ?_
        refine sw_eql F ⟨rfl, rfl, rfl⟩ rfl rfl rfl fun A F => ?_
        refine sw_asg F ⟨rfl, rfl, rfl⟩ rfl rfl fun A F => ?_
        refine sw_end ?_
        show Code.wp _ _ _ _ _
        refine sw_cond F rfl (fun hc20 => ?_) (fun hc20 => ?_)
        ·skip
         have ho : op = 12 := by simpa using hc20
         subst ho
         refine sw_reg ?_
         refine sw_move F ⟨rfl, rfl, rfl⟩ rfl rfl fun A F => ?_
         refine sw_move F ⟨rfl, rfl, rfl⟩ rfl rfl fun A F => ?_
         refine sw_gtr F ⟨rfl, rfl, rfl⟩ rfl rfl rfl fun A F => ?_
         refine sw_callR (by kernel_rfl) (rone_any (decide (b < a)) _) F ⟨rfl, rfl, rfl⟩ rfl rfl ?_
         rintro _ w ⟨rfl, hb⟩
         refine ⟨_, rfl, fun A F => ?_⟩
         replace M := M.aft hb
         clear hb
         refine sw_asg F ⟨rfl, rfl, rfl⟩ rfl rfl fun A F => ?_
         refine sw_end ?_
         show Code.wp _ _ _ _ _
         refine sw_seq ?_
         refine sw_reg ?_
         refine sw_move F ⟨rfl, rfl, rfl⟩ rfl rfl fun A F => ?_
         refine sw_move F ⟨rfl, rfl, rfl⟩ rfl rfl fun A F => ?_
         refine sw_geq F ⟨rfl, rfl, rfl⟩ rfl rfl rfl fun A F => ?_
         refine sw_move F ⟨rfl, rfl, rfl⟩ rfl rfl fun A F => ?_
         cases c21 : (decide (0 ≤ (tr (decide (b < a))))) with
         | true =>
          rw [c21] at F
          refine sw_on F 3 rfl rfl rfl rfl rfl ?_
          refine sw_move F ⟨rfl, rfl, rfl⟩ rfl rfl fun A F => ?_
          refine sw_on F 3 rfl rfl rfl rfl rfl ?_
          refine sw_leq F ⟨rfl, rfl, rfl⟩ rfl rfl rfl fun A F => ?_
          refine sw_pickT F ⟨rfl, rfl, rfl⟩ rfl rfl rfl fun A F => ?_
          refine sw_asg F ⟨rfl, rfl, rfl⟩ rfl rfl fun A F => ?_
          refine sw_asg F ⟨rfl, rfl, rfl⟩ rfl rfl fun A F => ?_
          refine sw_end ?_
          show Code.wp _ _ _ _ _
          refine wp_ret ?_
          repeat (first | refine then_ret ?_ | refine block_ret ?_)
          have hz : (two 12 a b).isSome = (decide (0 ≤ (tr (decide (b < a)))) && decide ((tr (decide (b < a))) ≤ 1099511627775)) := isSome_in (tr_in _)
          rw [c21] at hz
          exact sw_two F Tryd.results17 rfl rfl ⟨⟨_, _, rfl, fun _ _ => hz.symm⟩, M.st⟩
         | false =>
          rw [c21] at F
          refine sw_off F 3 rfl rfl rfl rfl rfl rfl rfl fun A F => ?_
          refine sw_off F 3 rfl rfl rfl rfl rfl rfl rfl fun A F => ?_
          refine sw_pickF F ⟨rfl, rfl, rfl⟩ rfl rfl rfl fun A F => ?_
          refine sw_asg F ⟨rfl, rfl, rfl⟩ rfl rfl fun A F => ?_
          refine sw_asg F ⟨rfl, rfl, rfl⟩ rfl rfl fun A F => ?_
          refine sw_end ?_
          show Code.wp _ _ _ _ _
          refine wp_ret ?_
          repeat (first | refine then_ret ?_ | refine block_ret ?_)
          have hz : (two 12 a b).isSome = (decide (0 ≤ (tr (decide (b < a)))) && decide ((tr (decide (b < a))) ≤ 1099511627775)) := isSome_in (tr_in _)
          rw [c21] at hz
          exact sw_two F Tryd.results17 rfl rfl ⟨⟨_, _, rfl, fun _ _ => hz.symm⟩, M.st⟩
        ·skip
         have hn12 : op ≠ 12 := by simpa using hc20
         refine wp_skip ?_
         show Code.wp _ _ _ _ _
         refine sw_seq ?_
         refine sw_reg ?_
         refine sw_move F ⟨rfl, rfl, rfl⟩ rfl rfl fun A F => ?_
         refine sw_move F ⟨rfl, rfl, rfl⟩ rfl rfl fun A F => ?_
         refine sw_geq F ⟨rfl, rfl, rfl⟩ rfl rfl rfl fun A F => ?_
         refine sw_move F ⟨rfl, rfl, rfl⟩ rfl rfl fun A F => ?_
         refine sw_on F 3 rfl rfl rfl rfl rfl ?_
         refine sw_move F ⟨rfl, rfl, rfl⟩ rfl rfl fun A F => ?_
         refine sw_on F 3 rfl rfl rfl rfl rfl ?_
         refine sw_leq F ⟨rfl, rfl, rfl⟩ rfl rfl rfl fun A F => ?_
         refine sw_pickT F ⟨rfl, rfl, rfl⟩ rfl rfl rfl fun A F => ?_
         refine sw_asg F ⟨rfl, rfl, rfl⟩ rfl rfl fun A F => ?_
         refine sw_asg F ⟨rfl, rfl, rfl⟩ rfl rfl fun A F => ?_
         refine sw_end ?_
         show Code.wp _ _ _ _ _
         refine wp_ret ?_
         repeat (first | refine then_ret ?_ | refine block_ret ?_)
         exact sw_two F Tryd.results17 rfl rfl ⟨⟨_, _, rfl, fun h5 h12 => by omega⟩, M.st⟩
end Go.Proofs.YtemjajljpoaioaaDoor
