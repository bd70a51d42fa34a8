import Derived.Test.YtemjajljpoaioaaDoorYK
namespace Go.Proofs.YtemjajljpoaioaaDoor
open Go.RowKit
set_option linter.unusedVariables false
set_option linter.unusedSimpArgs false
set_option maxRecDepth 20000
set_option maxHeartbeats 8000000
def endV (o : Option Nat) : Value := .tuple #[.int .i64 ((o.getD 0 : Nat) : Int), .bool o.isSome]
set_option maxRecDepth 20000 in
set_option maxHeartbeats 8000000 in
theorem tend_m {w0 : World} {rb ro lc : Nat} {xs : List Ins} (HB : Body w0 rb ro xs) (L : Lds xs) {k : Nat} (hk : k < xs.length) : Calls Tryd.prog 34 ([.slice (some ⟨rb, ro, none⟩) xs.length lc, .int .i64 ((k : Nat) : Int)] : List Value).toArray w0 fun e w' => e = .returned (endV (endOf xs xs.length k)) ∧ Below w0.heap.size w0 w' := by
  have M := bx_begin (w0 := w0) (w := w0) (Below.refl _ _)
  refine sw_fn Tryd.func34 rfl 26 Tryd.ntmps34 rfl fun A F => ?_
  refine sw_seq ?_
  refine sw_reg ?_
  refine sw_asg F ⟨rfl, rfl, rfl⟩ rfl rfl fun A F => ?_
  refine sw_asg F ⟨rfl, rfl, rfl⟩ rfl rfl fun A F => ?_
  refine sw_end ?_
  show Code.wp _ _ _ _ _
  refine sw_seq ?_
  refine sw_seq ?_
  refine sw_reg ?_
  refine sw_move F ⟨rfl, rfl, rfl⟩ rfl rfl fun A F => ?_
  refine sw_len F ⟨rfl, rfl, rfl⟩ rfl Tryd.underlying32 rfl fun A F => ?_
  refine sw_move F ⟨rfl, rfl, rfl⟩ rfl rfl fun A F => ?_
  refine sw_end ?_
  show Code.wp _ _ _ _ _
  refine wp_block ?_
  refine wp_loop (fun A w => ∃ c : Nat, ∃ cur : Nat, c ≤ xs.length ∧ cur < xs.length ∧ endOf xs xs.length k = endOf xs (xs.length - c) cur ∧ Fm 26 [(0, .slice (some ⟨rb, ro, none⟩) xs.length lc), (1, .int .i64 ((cur : Nat) : Int)), (8, .int .i64 ((xs.length : Nat) : Int)), (9, .int .i64 ((c : Nat) : Int))] A ∧ Mm (Bx w0) (fun _ => False) w0 [] () w) (fun A _ => xs.length - (intOf (A.eval (.tmp 9))).toNat) ?_ ?_
  · exact ⟨0, k, (Nat.zero_le _), (hk), (by rw [Nat.sub_zero]), F.keep [0, 1, 8, 9] rfl, M⟩
  repeat clear F
  repeat clear M
  rintro A w ⟨c, cur, hc, hcur, heq, F, M⟩
  have hA9 : A.eval (.tmp 9) = .int .i64 ((c : Nat) : Int) := F.2.2 9 _ rfl
  refine sw_seq ?_
  refine sw_reg ?_
  refine sw_lss F ⟨rfl, rfl, rfl⟩ rfl rfl rfl fun A F => ?_
  refine sw_end ?_
  show Code.wp _ _ _ _ _
  refine sw_seq ?_
  refine sw_cond F rfl (fun hc1 => ?_) (fun hc1 => ?_)
  · skip
    have hcl : c < xs.length := by have := of_decide_eq_true hc1; omega
    refine wp_skip ?_
    show Code.wp _ _ _ _ _
    refine sw_seq ?_
    refine wp_block ?_
    refine sw_seq ?_
    refine sw_reg ?_
    refine sw_move F ⟨rfl, rfl, rfl⟩ rfl rfl fun A F => ?_
    refine sw_move F ⟨rfl, rfl, rfl⟩ rfl rfl fun A F => ?_
    refine sw_at F 3 ⟨rfl, rfl, rfl⟩ rfl rfl (hcur) Tryd.underlying32 (by kernel_rfl) rfl fun A F => ?_
    obtain ⟨i, hi⟩ : ∃ i, xs[cur]? = some i := ⟨_, List.getElem?_eq_getElem hcur⟩
    refine sw_rng F (cs := [.int .i64 i.op, .int .i64 i.a, .int .i64 i.b]) ((HB.bx M.st).at_ _ _ (hi)) ⟨rfl, rfl, rfl⟩ rfl (by kernel_rfl) (by kernel_rfl) rfl fun A F => ?_
    refine sw_alloc F M [.int .i64 0, .int .i64 0, .int .i64 0] ⟨rfl, rfl, rfl⟩ (by kernel_rfl) rfl fun x2 A w F M => ?_
    refine sw_setAll F M 0 ⟨rfl, rfl, rfl⟩ rfl rfl rfl (by kernel_rfl) rfl rfl fun w M => ?_
    simp only [List.set_cons_zero, List.set_cons_succ] at M
    refine sw_end ?_
    show Code.wp _ _ _ _ _
    refine sw_seq ?_
    refine sw_seq ?_
    refine sw_reg ?_
    refine sw_fld F 0 ⟨rfl, rfl, rfl⟩ rfl (by kernel_rfl) rfl rfl fun A F => ?_
    refine sw_cell F M 0 ⟨rfl, rfl, rfl⟩ rfl rfl rfl (by kernel_rfl) rfl fun A F => ?_
    refine sw_neq F ⟨rfl, rfl, rfl⟩ rfl rfl rfl fun A F => ?_
    refine sw_end ?_
    show Code.wp _ _ _ _ _
    refine sw_cond F rfl (fun hc3 => ?_) (fun hc3 => ?_)
    · skip
      have hc1 := hc3
      refine sw_seq ?_
      refine sw_reg ?_
      refine sw_move F ⟨rfl, rfl, rfl⟩ rfl rfl fun A F => ?_
      refine sw_asg F ⟨rfl, rfl, rfl⟩ rfl rfl fun A F => ?_
      refine sw_asg F ⟨rfl, rfl, rfl⟩ rfl rfl fun A F => ?_
      refine sw_end ?_
      show Code.wp _ _ _ _ _
      refine wp_ret ?_
      repeat (first | refine then_ret ?_ | refine block_ret ?_)
      refine sw_two F Tryd.results34 rfl rfl ⟨?_, M.st⟩
      rw [heq, show xs.length - c = (xs.length - (c + 1)) + 1 by omega, endOf, hi]
      simp only [if_neg (show ¬ i.op = 14 by simpa using hc1)]
      rfl
    · skip
      have hc1 := hc3
      refine wp_skip ?_
      show Code.wp _ _ _ _ _
      refine sw_seq ?_
      refine sw_seq ?_
      refine sw_reg ?_
      refine sw_fld F 1 ⟨rfl, rfl, rfl⟩ rfl (by kernel_rfl) rfl rfl fun A F => ?_
      refine sw_cell F M 0 ⟨rfl, rfl, rfl⟩ rfl rfl rfl (by kernel_rfl) rfl fun A F => ?_
      refine sw_move F ⟨rfl, rfl, rfl⟩ rfl rfl fun A F => ?_
      refine sw_eql F ⟨rfl, rfl, rfl⟩ rfl rfl rfl fun A F => ?_
      refine sw_end ?_
      show Code.wp _ _ _ _ _
      refine sw_cond F rfl (fun hc4 => ?_) (fun hc4 => ?_)
      · skip
        have hc2 := hc4
        refine sw_seq ?_
        refine sw_reg ?_
        refine sw_asg F ⟨rfl, rfl, rfl⟩ rfl rfl fun A F => ?_
        refine sw_asg F ⟨rfl, rfl, rfl⟩ rfl rfl fun A F => ?_
        refine sw_end ?_
        show Code.wp _ _ _ _ _
        refine wp_ret ?_
        repeat (first | refine then_ret ?_ | refine block_ret ?_)
        refine sw_two F Tryd.results34 rfl rfl ⟨?_, M.st⟩
        rw [heq, show xs.length - c = (xs.length - (c + 1)) + 1 by omega, endOf, hi]
        simp only [show i.op = 14 by simpa using hc1, if_true]
        rw [if_pos (by have : i.a = ((cur : Nat) : Int) := by simpa using hc2
                       omega)]
        rfl
      · skip
        have hc2 := hc4
        refine wp_skip ?_
        show Code.wp _ _ _ _ _
        refine sw_reg ?_
        refine sw_fld F 1 ⟨rfl, rfl, rfl⟩ rfl (by kernel_rfl) rfl rfl fun A F => ?_
        refine sw_cell F M 0 ⟨rfl, rfl, rfl⟩ rfl rfl rfl (by kernel_rfl) rfl fun A F => ?_
        refine sw_asg F ⟨rfl, rfl, rfl⟩ rfl rfl fun A F => ?_
        refine sw_end ?_
        show Code.wp _ _ _ _ _
        refine sw_reg ?_
        refine sw_add F ⟨rfl, rfl, rfl⟩ rfl rfl (by have := HB.le; omega) rfl fun A F => ?_
        refine sw_move F ⟨rfl, rfl, rfl⟩ rfl rfl fun A F => ?_
        refine sw_end ?_
        replace M := M.drop 0 rfl
        obtain ⟨hl0, hl1⟩ := L i (List.mem_of_getElem? hi) (isJ_iff.2 (.inl (by simpa using hc1)))
        rw [← Int.toNat_of_nonneg hl0] at F
        show _ ∧ _
        refine ⟨⟨c + 1, i.a.toNat, by omega, hl1, ?_, F.keep [0, 1, 8, 9] rfl, M⟩, ?_⟩
        · rw [heq, show xs.length - c = (xs.length - (c + 1)) + 1 by omega, endOf, hi]
          simp only [show i.op = 14 by simpa using hc1, if_true]
          rw [if_neg]
          intro q
          simp only [beq_eq_false_iff_ne, ne_eq] at hc2
          omega
        rw [(F.keep (N := 26) (L' := [(9, .int .i64 ((c + 1 : Nat) : Int))]) [9] rfl).2.2 9 (.int .i64 ((c + 1 : Nat) : Int)) rfl, hA9]
        simp only [intOf]
        omega
  · skip
    have hce : c = xs.length := by have := of_decide_eq_false hc1; omega
    refine wp_exit ?_
    repeat (first | refine then_exit ?_ | refine exit_block ?_ | refine exit_pass rfl ?_)
    show Code.wp _ _ _ _ _
    refine sw_seq ?_
    refine sw_reg ?_
    refine sw_asg F ⟨rfl, rfl, rfl⟩ rfl rfl fun A F => ?_
    refine sw_asg F ⟨rfl, rfl, rfl⟩ rfl rfl fun A F => ?_
    refine sw_end ?_
    show Code.wp _ _ _ _ _
    refine wp_ret ?_
    repeat (first | refine then_ret ?_ | refine block_ret ?_)
    refine sw_two F Tryd.results34 rfl rfl ⟨?_, M.st⟩
    rw [heq, hce, Nat.sub_self]
    rfl
end Go.Proofs.YtemjajljpoaioaaDoor
