/- The answer's Parser: statements, blocks. -/
import Derived.Test.YtgpjlocgkdlnlaaDoorSRstA
namespace Go.Proofs.YtgpjlocgkdlnlaaDoor
open Go.RowKit
set_option linter.unusedVariables false
set_option linter.unusedSimpArgs false

set_option maxRecDepth 8000 in
set_option maxHeartbeats 3200000 in
theorem stmt_word {m : Nat} (text : Key) (c : C4) (b : Nat) (HB : ∀ S, need S < m → Meth Tryd.prog (PdX text c b) (fun k => k = b) 35 [ptr b] S (BlP blockM S)) (σ : St) (hm : need (.ok σ) ≤ m) (s : Key) (hn : σ.now = .fixed s) (hk : tokK σ.now = 119) : Meth Tryd.prog (PdX text c b) (fun k => k = b) 51 [ptr b] (.ok σ) (StP stepM (.ok σ)) := by
  have hhere : Here (.ok σ) := ⟨by rw [hn]; simp, by rw [hn]; simp⟩
  refine ⟨by kernel_rfl, fun wO R _ => ?_⟩
  have M := pd_begin R
  have kn := step_here (σ := σ) (fun t q => by rw [hn] at q; cases q)
  refine sw_fn Tryd.func51 rfl 167 Tryd.ntmps51 rfl fun A F => ?_
  refine sw_seq ?_
  refine sw_reg ?_
  refine sw_alloc F M [.int .i64 0, .string ⟨#[]⟩, .string ⟨#[]⟩, .string ⟨#[]⟩, .int .i64 0, .slice none 0 0, .slice none 0 0, .slice none 0 0] ⟨rfl, rfl, rfl⟩ (by kernel_rfl) rfl fun x1 A w F M => ?_
  refine sw_end ?_
  show Code.wp _ _ _ _ _
  refine sw_seq ?_
  refine sw_reg ?_
  refine sw_build F _ [.int .i64 0, .string ⟨#[]⟩, .string ⟨#[]⟩, .string ⟨#[]⟩, .int .i64 0, .slice none 0 0, .slice none 0 0, .slice none 0 0] ⟨rfl, rfl, rfl⟩ rfl (by kernel_rfl) rfl fun A F => ?_
  refine sw_alloc F M [.int .i64 0, .string ⟨#[]⟩, .string ⟨#[]⟩, .string ⟨#[]⟩, .int .i64 0, .slice none 0 0, .slice none 0 0, .slice none 0 0] ⟨rfl, rfl, rfl⟩ (by kernel_rfl) rfl fun x2 A w F M => ?_
  refine sw_setAll F M 0 ⟨rfl, rfl, rfl⟩ rfl rfl rfl (by kernel_rfl) rfl rfl fun w M => ?_
  simp only [List.set_cons_zero, List.set_cons_succ] at M
  refine sw_end ?_
  show Code.wp _ _ _ _ _
  refine sw_seq ?_
  refine sw_reg ?_
  refine sw_move F ⟨rfl, rfl, rfl⟩ rfl rfl fun A F => ?_
  refine sw_nil F ⟨rfl, rfl, rfl⟩ rfl rfl fun A F => ?_
  refine sw_fld F 2 ⟨rfl, rfl, rfl⟩ rfl (by kernel_rfl) rfl rfl fun A F => ?_
  obtain ⟨at0, kd0, tx0, n0, lv0, er0, kb0, hr0⟩ := M.st.cells
  obtain rfl : kd0 = 119 := hr0.1.trans hk
  refine sw_rng F (tok_range kb0) ⟨rfl, rfl, rfl⟩ rfl (by kernel_rfl) (by kernel_rfl) rfl fun A F => ?_
  have htk := hr0.2.1
  rw [hn] at htk
  obtain ⟨rfl, htk⟩ := htk
  have hsp := step_pick hn (tok_some htk)
  refine sw_alloc F M [.int .u8 0, .string ⟨#[]⟩, .int .i64 0] ⟨rfl, rfl, rfl⟩ (by kernel_rfl) rfl fun x3 A w F M => ?_
  refine sw_setAll F M 0 ⟨rfl, rfl, rfl⟩ rfl rfl rfl (by kernel_rfl) rfl rfl fun w M => ?_
  simp only [List.set_cons_zero, List.set_cons_succ] at M
  refine sw_end ?_
  show Code.wp _ _ _ _ _
  refine sw_seq ?_
  refine wp_block ?_
  refine sw_seq ?_
  refine sw_reg ?_
  refine sw_fld F 0 ⟨rfl, rfl, rfl⟩ rfl (by kernel_rfl) rfl rfl fun A F => ?_
  refine sw_cell F M 0 ⟨rfl, rfl, rfl⟩ rfl rfl rfl (by kernel_rfl) rfl fun A F => ?_
  refine sw_eql F ⟨rfl, rfl, rfl⟩ rfl rfl rfl fun A F => ?_
  refine sw_asg F ⟨rfl, rfl, rfl⟩ rfl rfl fun A F => ?_
  refine sw_end ?_
  show Code.wp _ _ _ _ _
  refine sw_false F rfl ?_
  refine sw_seq ?_
  refine sw_reg ?_
  refine sw_fld F 0 ⟨rfl, rfl, rfl⟩ rfl (by kernel_rfl) rfl rfl fun A F => ?_
  refine sw_cell F M 0 ⟨rfl, rfl, rfl⟩ rfl rfl rfl (by kernel_rfl) rfl fun A F => ?_
  refine sw_eql F ⟨rfl, rfl, rfl⟩ rfl rfl rfl fun A F => ?_
  refine sw_move F ⟨rfl, rfl, rfl⟩ rfl rfl fun A F => ?_
  refine sw_on F 3 rfl rfl rfl rfl rfl ?_
  refine sw_fld F 1 ⟨rfl, rfl, rfl⟩ rfl (by kernel_rfl) rfl rfl fun A F => ?_
  refine sw_on F 3 rfl rfl rfl rfl rfl ?_
  refine sw_cell F M 0 ⟨rfl, rfl, rfl⟩ rfl rfl rfl (by kernel_rfl) rfl fun A F => ?_
  refine sw_on F 3 rfl rfl rfl rfl rfl ?_
  refine sw_seq2 F ⟨rfl, rfl, rfl⟩ rfl rfl rfl fun A F => ?_
  refine sw_pickT F ⟨rfl, rfl, rfl⟩ rfl rfl rfl fun A F => ?_
  refine sw_asg F ⟨rfl, rfl, rfl⟩ rfl rfl fun A F => ?_
  refine sw_end ?_
  show Code.wp _ _ _ _ _
  refine sw_cond F rfl (fun hc4 => ?_) (fun hc4 => ?_)
  · skip
    have hp : pickI stepW (.ok σ) = 1 := by rw [hsp, eq_of_beq hc4]; rfl
    rw [hp] at kn
    replace kn := kn.ite_neg (by decide)
    refine sw_seq ?_
    refine sw_reg ?_
    refine sw_fld F 0 ⟨rfl, rfl, rfl⟩ rfl (by kernel_rfl) rfl rfl fun A F => ?_
    refine sw_set F M 1 ⟨rfl, rfl, rfl⟩ rfl rfl rfl (by kernel_rfl) rfl rfl rfl fun w M => ?_
    simp only [List.set_cons_zero, List.set_cons_succ] at M
    refine sw_end ?_
    show Code.wp _ _ _ _ _
    refine sw_seq ?_
    refine sw_reg ?_
    refine sw_move F ⟨rfl, rfl, rfl⟩ rfl rfl fun A F => ?_
    refine sw_call0 (rnext_m text c b (.ok σ)) F M ⟨rfl, rfl, rfl⟩ rfl rfl ?_
    rintro _ S5 A w ⟨_, h6⟩ F M
    replace kn := kn.step h6
    have hlt0 := rv_hnext h6 hhere
    replace kn := kn.ite_neg (by decide)
    replace kn := kn.ite_neg (by decide)
    replace kn := kn.ite_pos rfl
    refine sw_end ?_
    show Code.wp _ _ _ _ _
    refine sw_seq ?_
    refine sw_reg ?_
    refine sw_move F ⟨rfl, rfl, rfl⟩ rfl rfl fun A F => ?_
    refine sw_call0 (rname_m text c b S5) F M ⟨rfl, rfl, rfl⟩ rfl rfl ?_
    rintro _ S7 A w ⟨_, s9, rfl, h8⟩ F M
    replace kn := kn.step h8
    refine sw_fld F 1 ⟨rfl, rfl, rfl⟩ rfl (by kernel_rfl) rfl rfl fun A F => ?_
    refine sw_set F M 1 ⟨rfl, rfl, rfl⟩ rfl rfl rfl (by kernel_rfl) rfl rfl rfl fun w M => ?_
    simp only [List.set_cons_zero, List.set_cons_succ] at M
    refine sw_end ?_
    show Code.wp _ _ _ _ _
    refine sw_seq ?_
    refine sw_reg ?_
    refine sw_move F ⟨rfl, rfl, rfl⟩ rfl rfl fun A F => ?_
    refine sw_call0 (rneed_m [58] text c b S7) F M ⟨rfl, rfl, rfl⟩ rfl rfl ?_
    rintro _ S10 A w ⟨_, h11⟩ F M
    replace kn := kn.step h11
    refine sw_end ?_
    show Code.wp _ _ _ _ _
    refine sw_seq ?_
    refine sw_reg ?_
    refine sw_move F ⟨rfl, rfl, rfl⟩ rfl rfl fun A F => ?_
    refine sw_call0 (rkind_m text c b S10) F M ⟨rfl, rfl, rfl⟩ rfl rfl ?_
    rintro _ S12 A w ⟨_, k14, rfl, hkk14, h13⟩ F M
    replace kn := kn.step h13
    refine sw_fld F 4 ⟨rfl, rfl, rfl⟩ rfl (by kernel_rfl) rfl rfl fun A F => ?_
    refine sw_set F M 1 ⟨rfl, rfl, rfl⟩ rfl rfl rfl (by kernel_rfl) rfl rfl rfl fun w M => ?_
    simp only [List.set_cons_zero, List.set_cons_succ] at M
    refine sw_end ?_
    show Code.wp _ _ _ _ _
    refine sw_reg ?_
    refine sw_move F ⟨rfl, rfl, rfl⟩ rfl rfl fun A F => ?_
    refine sw_call0 (rneed_m [61] text c b S12) F M ⟨rfl, rfl, rfl⟩ rfl rfl ?_
    rintro _ S15 A w ⟨_, h16⟩ F M
    replace kn := kn.step h16
    refine sw_end ?_
    show Code.wp _ _ _ _ _
    refine sw_seq ?_
    refine sw_reg ?_
    refine sw_move F ⟨rfl, rfl, rfl⟩ rfl rfl fun A F => ?_
    refine sw_call (rexpr_m text c b S15 1 (by decide) (by decide)) F M ⟨rfl, rfl, rfl⟩ rfl rfl ?_
    rintro _ _ S17 A w ⟨op18, m18, s18, la18, lc18, es18, rfl, rfl, h18⟩ F M
    replace kn := kn.step (show Rv (fun n => exprT n 1) _ _ _ from h18)
    refine sw_alloc F M [.int .i64 0, .int .i64 0, .string ⟨#[]⟩, .slice none 0 0] ⟨rfl, rfl, rfl⟩ (by kernel_rfl) rfl fun x20 A w F M => ?_
    refine sw_setAll F M 0 ⟨rfl, rfl, rfl⟩ rfl rfl rfl (by kernel_rfl) rfl rfl fun w M => ?_
    simp only [List.set_cons_zero, List.set_cons_succ] at M
    refine sw_end ?_
    show Code.wp _ _ _ _ _
    refine sw_seq ?_
    refine sw_reg ?_
    refine sw_fld F 5 ⟨rfl, rfl, rfl⟩ rfl (by kernel_rfl) rfl rfl fun A F => ?_
    replace M := M.nilrow 73 4
    refine sw_cell F M 4 ⟨rfl, rfl, rfl⟩ rfl rfl rfl (by kernel_rfl) rfl fun A F => ?_
    refine sw_all F M 1 ⟨rfl, rfl, rfl⟩ rfl rfl (by kernel_rfl) (by kernel_rfl) rfl fun A F => ?_
    refine sw_app1 (z := .agg #[.int .i64 0, .int .i64 0, .string ⟨#[]⟩, .slice none 0 0]) F M 0 2 ⟨rfl, rfl, rfl⟩ ⟨rfl, rfl, rfl⟩ rfl rfl (fun _ => rfl) rfl rfl (by kernel_rfl) (by kernel_rfl) rfl rfl (by kernel_rfl) rfl (by simp) rfl fun la22 lc23 _ A w F M => ?_
    simp only [List.set_cons_zero, List.set_cons_succ] at M
    refine sw_fld F 5 ⟨rfl, rfl, rfl⟩ rfl (by kernel_rfl) rfl rfl fun A F => ?_
    refine sw_set F M 4 ⟨rfl, rfl, rfl⟩ rfl rfl rfl (by kernel_rfl) rfl rfl rfl fun w M => ?_
    simp only [List.set_cons_zero, List.set_cons_succ] at M
    refine sw_end ?_
    show Code.wp _ _ _ _ _
    refine sw_seq ?_
    refine sw_reg ?_
    refine sw_move F ⟨rfl, rfl, rfl⟩ rfl rfl fun A F => ?_
    refine sw_call0 (rneed_m [59] text c b S17) F M ⟨rfl, rfl, rfl⟩ rfl rfl ?_
    rintro _ S24 A w ⟨_, h25⟩ F M
    replace kn := kn.step h25
    refine sw_end ?_
    show Code.wp _ _ _ _ _
    refine sw_seq ?_
    refine sw_reg ?_
    refine sw_all F M 4 ⟨rfl, rfl, rfl⟩ rfl rfl (by kernel_rfl) (by kernel_rfl) rfl fun A F => ?_
    refine sw_setAll F M 5 ⟨rfl, rfl, rfl⟩ rfl rfl rfl (by kernel_rfl) rfl rfl fun w M => ?_
    simp only [List.set_cons_zero, List.set_cons_succ] at M
    refine sw_end ?_
    show Code.wp _ _ _ _ _
    refine wp_ret ?_
    repeat (first | refine then_ret ?_ | refine block_ret ?_)
    exact sw_retbox F M 5 Tryd.results51 rfl rfl (by kernel_rfl) (by kernel_rfl) ⟨_, Sm.flds { k := 1, nm := s9, al := [], ca := [], ty := k14, ea := la22, ec := lc23, es := ([] ++ [exF op18 m18 s18 la18 lc18 es18]), ba := none, bc := 0, bs := [], la := none, lc := 0, ls := [] }, S24, rfl, M.but, M.st, lie_cons (lie_i (n := 1) (by omega)) (lie_cons (trivial) (lie_cons (trivial) (lie_cons (trivial) (lie_cons (lie_i (n := k14) (by omega)) (lie_cons (M.mem.rowlie 0 rfl) (lie_cons (lies_nil _ _) (lie_cons (lies_nil _ _) (lie_nil _ _)))))))), { k := 1, nm := s9, al := [], ca := [], ty := k14, ea := la22, ec := lc23, es := ([] ++ [exF op18 m18 s18 la18 lc18 es18]), ba := none, bc := 0, bs := [], la := none, lc := 0, ls := [] }, rfl, rfl, kn.fin⟩
  · skip
    refine sw_seq ?_
    refine sw_reg ?_
    refine sw_fld F 0 ⟨rfl, rfl, rfl⟩ rfl (by kernel_rfl) rfl rfl fun A F => ?_
    refine sw_cell F M 0 ⟨rfl, rfl, rfl⟩ rfl rfl rfl (by kernel_rfl) rfl fun A F => ?_
    refine sw_eql F ⟨rfl, rfl, rfl⟩ rfl rfl rfl fun A F => ?_
    refine sw_move F ⟨rfl, rfl, rfl⟩ rfl rfl fun A F => ?_
    refine sw_on F 3 rfl rfl rfl rfl rfl ?_
    refine sw_fld F 1 ⟨rfl, rfl, rfl⟩ rfl (by kernel_rfl) rfl rfl fun A F => ?_
    refine sw_on F 3 rfl rfl rfl rfl rfl ?_
    refine sw_cell F M 0 ⟨rfl, rfl, rfl⟩ rfl rfl rfl (by kernel_rfl) rfl fun A F => ?_
    refine sw_on F 3 rfl rfl rfl rfl rfl ?_
    refine sw_seq2 F ⟨rfl, rfl, rfl⟩ rfl rfl rfl fun A F => ?_
    refine sw_on F 3 rfl rfl rfl rfl rfl ?_
    refine sw_move F ⟨rfl, rfl, rfl⟩ rfl rfl fun A F => ?_
    cases c26 : (tx0 == [105, 102]) with
    | true =>
      rw [c26] at F
      have hp : pickI stepW (.ok σ) = 4 := by rw [hsp, eq_of_beq c26]; rfl
      rw [hp] at kn
      replace kn := kn.ite_neg (by decide)
      refine sw_off F 7 rfl rfl rfl rfl rfl rfl rfl fun A F => ?_
      refine sw_off F 7 rfl rfl rfl rfl rfl rfl rfl fun A F => ?_
      refine sw_off F 7 rfl rfl rfl rfl rfl rfl rfl fun A F => ?_
      refine sw_on F 3 rfl rfl rfl rfl rfl ?_
      refine sw_pickT F ⟨rfl, rfl, rfl⟩ rfl rfl rfl fun A F => ?_
      refine sw_pickT F ⟨rfl, rfl, rfl⟩ rfl rfl rfl fun A F => ?_
      refine sw_asg F ⟨rfl, rfl, rfl⟩ rfl rfl fun A F => ?_
      refine sw_end ?_
      show Code.wp _ _ _ _ _
      refine sw_true F rfl ?_
      refine sw_seq ?_
      refine sw_reg ?_
      refine sw_move F ⟨rfl, rfl, rfl⟩ rfl rfl fun A F => ?_
      refine sw_call0 (rnext_m text c b (.ok σ)) F M ⟨rfl, rfl, rfl⟩ rfl rfl ?_
      rintro _ S27 A w ⟨_, h28⟩ F M
      replace kn := kn.step h28
      have hlt0 := rv_hnext h28 hhere
      replace kn := kn.ite_pos rfl
      replace kn := kn.succ.to fun n => by rw [ifM]
      refine sw_end ?_
      show Code.wp _ _ _ _ _
      refine sw_seq ?_
      refine sw_reg ?_
      refine sw_move F ⟨rfl, rfl, rfl⟩ rfl rfl fun A F => ?_
      refine sw_call (rexpr_m text c b S27 1 (by decide) (by decide)) F M ⟨rfl, rfl, rfl⟩ rfl rfl ?_
      rintro _ _ S29 A w ⟨op30, m30, s30, la30, lc30, es30, rfl, rfl, h30⟩ F M
      replace kn := kn.step (show Rv (fun n => exprT n 1) _ _ _ from h30)
      refine sw_alloc F M [.int .i64 0, .int .i64 0, .string ⟨#[]⟩, .slice none 0 0] ⟨rfl, rfl, rfl⟩ (by kernel_rfl) rfl fun x32 A w F M => ?_
      refine sw_setAll F M 0 ⟨rfl, rfl, rfl⟩ rfl rfl rfl (by kernel_rfl) rfl rfl fun w M => ?_
      simp only [List.set_cons_zero, List.set_cons_succ] at M
      refine sw_end ?_
      show Code.wp _ _ _ _ _
      refine sw_seq ?_
      refine sw_reg ?_
      refine sw_all F M 0 ⟨rfl, rfl, rfl⟩ rfl rfl (by kernel_rfl) (by kernel_rfl) rfl fun A F => ?_
      refine sw_mkrow (ety := 73) (sz := 4) (z := .agg #[.int .i64 0, .int .i64 0, .string ⟨#[]⟩, .slice none 0 0]) F M _ [exF op30 m30 s30 la30 lc30 es30] ⟨rfl, rfl, rfl⟩ rfl (by kernel_rfl) (by kernel_rfl) rfl (by kernel_rfl) rfl ?_ ?_ rfl fun x33 A w F M => ?_
      · intro g hg
        simp only [List.mem_cons, List.not_mem_nil, or_false] at hg
        rcases hg with rfl
        · exact ⟨rfl, (M.mem.vals 1 rfl).1⟩
      · intro i f b hf hm g hg
        simp only [List.mem_cons, List.not_mem_nil, or_false] at hg
        rcases hg with rfl
        · exact (M.mem.vals 1 rfl).2 i f b hf hm
      refine sw_fld F 5 ⟨rfl, rfl, rfl⟩ rfl (by kernel_rfl) rfl rfl fun A F => ?_
      refine sw_set F M 4 ⟨rfl, rfl, rfl⟩ rfl rfl rfl (by kernel_rfl) rfl rfl rfl fun w M => ?_
      simp only [List.set_cons_zero, List.set_cons_succ] at M
      refine sw_end ?_
      show Code.wp _ _ _ _ _
      refine sw_seq ?_
      refine sw_reg ?_
      refine sw_fld F 0 ⟨rfl, rfl, rfl⟩ rfl (by kernel_rfl) rfl rfl fun A F => ?_
      refine sw_set F M 4 ⟨rfl, rfl, rfl⟩ rfl rfl rfl (by kernel_rfl) rfl rfl rfl fun w M => ?_
      simp only [List.set_cons_zero, List.set_cons_succ] at M
      refine sw_end ?_
      show Code.wp _ _ _ _ _
      refine sw_seq ?_
      refine sw_reg ?_
      refine sw_move F ⟨rfl, rfl, rfl⟩ rfl rfl fun A F => ?_
      refine sw_call (HB S29 (by have qh30 := h30.shr (fun n => expr_shr1 n _); omega)) F M ⟨rfl, rfl, rfl⟩ rfl rfl ?_
      rintro _ _ S35 A w ⟨la36, lc36, es36, rfl, rfl, h36⟩ F M
      replace kn := kn.step h36
      refine sw_fld F 6 ⟨rfl, rfl, rfl⟩ rfl (by kernel_rfl) rfl rfl fun A F => ?_
      refine sw_set F M 5 ⟨rfl, rfl, rfl⟩ rfl rfl rfl (by kernel_rfl) rfl rfl rfl fun w M => ?_
      simp only [List.set_cons_zero, List.set_cons_succ] at M
      refine sw_end ?_
      show Code.wp _ _ _ _ _
      refine sw_seq ?_
      refine sw_seq ?_
      refine sw_reg ?_
      refine sw_fld F 1 ⟨rfl, rfl, rfl⟩ rfl (by kernel_rfl) rfl rfl fun A F => ?_
      refine sw_cell F M 4 ⟨rfl, rfl, rfl⟩ rfl rfl rfl (by kernel_rfl) rfl fun A F => ?_
      refine sw_seq2 F ⟨rfl, rfl, rfl⟩ rfl rfl rfl fun A F => ?_
      rw [c26] at F
      refine sw_end ?_
      show Code.wp _ _ _ _ _
      refine sw_true F rfl ?_
      refine sw_seq ?_
      refine sw_reg ?_
      refine sw_fld F 0 ⟨rfl, rfl, rfl⟩ rfl (by kernel_rfl) rfl rfl fun A F => ?_
      refine sw_set F M 5 ⟨rfl, rfl, rfl⟩ rfl rfl rfl (by kernel_rfl) rfl rfl rfl fun w M => ?_
      simp only [List.set_cons_zero, List.set_cons_succ] at M
      refine sw_end ?_
      show Code.wp _ _ _ _ _
      refine sw_seq ?_
      refine sw_reg ?_
      refine sw_move F ⟨rfl, rfl, rfl⟩ rfl rfl fun A F => ?_
      refine sw_call0 (ris_m [101, 108, 115, 101] text c b S35) F M ⟨rfl, rfl, rfl⟩ rfl rfl ?_
      rintro _ _ A w ⟨_, rfl, rfl⟩ F M
      replace kn := kn.step (Rv.of (rel_is [101, 108, 115, 101] S35))
      refine sw_asg F ⟨rfl, rfl, rfl⟩ rfl rfl fun A F => ?_
      refine sw_end ?_
      show Code.wp _ _ _ _ _
      refine sw_seq ?_
      refine sw_reg ?_
      refine sw_move F ⟨rfl, rfl, rfl⟩ rfl rfl fun A F => ?_
      refine sw_end ?_
      show Code.wp _ _ _ _ _
      refine sw_cond F rfl (fun hc38 => ?_) (fun hc38 => ?_)
      · skip
        replace kn := kn.ifT_true hc38
        refine sw_seq ?_
        refine sw_reg ?_
        refine sw_move F ⟨rfl, rfl, rfl⟩ rfl rfl fun A F => ?_
        refine sw_call0 (rnext_m text c b S35) F M ⟨rfl, rfl, rfl⟩ rfl rfl ?_
        rintro _ S39 A w ⟨_, h40⟩ F M
        replace kn := kn.step (take_here hc38 h40)
        refine sw_end ?_
        show Code.wp _ _ _ _ _
        refine sw_reg ?_
        refine sw_move F ⟨rfl, rfl, rfl⟩ rfl rfl fun A F => ?_
        refine sw_call (HB S39 (by have qh30 := h30.shr (fun n => expr_shr1 n _); have qh36 := h36.shr (fun n => (step_shr n).2.2.2.2.1); have qh40 := h40.shr (fun _ => Shr.next); omega)) F M ⟨rfl, rfl, rfl⟩ rfl rfl ?_
        rintro _ _ S41 A w ⟨la42, lc42, es42, rfl, rfl, h42⟩ F M
        replace kn := kn.step h42
        refine sw_fld F 7 ⟨rfl, rfl, rfl⟩ rfl (by kernel_rfl) rfl rfl fun A F => ?_
        refine sw_set F M 6 ⟨rfl, rfl, rfl⟩ rfl rfl rfl (by kernel_rfl) rfl rfl rfl fun w M => ?_
        simp only [List.set_cons_zero, List.set_cons_succ] at M
        refine sw_end ?_
        show Code.wp _ _ _ _ _
        refine sw_seq ?_
        refine sw_reg ?_
        refine sw_all F M 6 ⟨rfl, rfl, rfl⟩ rfl rfl (by kernel_rfl) (by kernel_rfl) rfl fun A F => ?_
        refine sw_setAll F M 7 ⟨rfl, rfl, rfl⟩ rfl rfl rfl (by kernel_rfl) rfl rfl fun w M => ?_
        simp only [List.set_cons_zero, List.set_cons_succ] at M
        refine sw_end ?_
        show Code.wp _ _ _ _ _
        refine wp_ret ?_
        repeat (first | refine then_ret ?_ | refine block_ret ?_)
        exact sw_retbox F M 7 Tryd.results51 rfl rfl (by kernel_rfl) (by kernel_rfl) ⟨_, Sm.flds { k := 4, nm := [], al := [], ca := [], ty := 0, ea := (some ⟨x33, 0, none⟩), ec := 1, es := ([exF op30 m30 s30 la30 lc30 es30]), ba := la36, bc := lc36, bs := es36, la := la42, lc := lc42, ls := es42 }, S41, rfl, M.but, M.st, lie_cons (lie_i (n := 4) (by omega)) (lie_cons (trivial) (lie_cons (trivial) (lie_cons (trivial) (lie_cons (lie_i (n := 0) (by omega)) (lie_cons (M.mem.rowlie 2 rfl) (lie_cons (M.mem.vallie 1 rfl) (lie_cons (M.mem.vallie 0 rfl) (lie_nil _ _)))))))), { k := 4, nm := [], al := [], ca := [], ty := 0, ea := (some ⟨x33, 0, none⟩), ec := 1, es := ([exF op30 m30 s30 la30 lc30 es30]), ba := la36, bc := lc36, bs := es36, la := la42, lc := lc42, ls := es42 }, rfl, rfl, kn.fin⟩
      · skip
        replace kn := kn.ifT_false hc38
        refine wp_skip ?_
        show Code.wp _ _ _ _ _
        refine sw_seq ?_
        refine sw_reg ?_
        refine sw_all F M 5 ⟨rfl, rfl, rfl⟩ rfl rfl (by kernel_rfl) (by kernel_rfl) rfl fun A F => ?_
        refine sw_setAll F M 6 ⟨rfl, rfl, rfl⟩ rfl rfl rfl (by kernel_rfl) rfl rfl fun w M => ?_
        simp only [List.set_cons_zero, List.set_cons_succ] at M
        refine sw_end ?_
        show Code.wp _ _ _ _ _
        refine wp_ret ?_
        repeat (first | refine then_ret ?_ | refine block_ret ?_)
        exact sw_retbox F M 6 Tryd.results51 rfl rfl (by kernel_rfl) (by kernel_rfl) ⟨_, Sm.flds { k := 4, nm := [], al := [], ca := [], ty := 0, ea := (some ⟨x33, 0, none⟩), ec := 1, es := ([exF op30 m30 s30 la30 lc30 es30]), ba := la36, bc := lc36, bs := es36, la := none, lc := 0, ls := [] }, S35, rfl, M.but, M.st, lie_cons (lie_i (n := 4) (by omega)) (lie_cons (trivial) (lie_cons (trivial) (lie_cons (trivial) (lie_cons (lie_i (n := 0) (by omega)) (lie_cons (M.mem.rowlie 1 rfl) (lie_cons (M.mem.vallie 0 rfl) (lie_cons (lies_nil _ _) (lie_nil _ _)))))))), { k := 4, nm := [], al := [], ca := [], ty := 0, ea := (some ⟨x33, 0, none⟩), ec := 1, es := ([exF op30 m30 s30 la30 lc30 es30]), ba := la36, bc := lc36, bs := es36, la := none, lc := 0, ls := [] }, rfl, rfl, kn.fin⟩
    | false =>
      rw [c26] at F
      refine sw_on F 7 rfl rfl rfl rfl rfl ?_
      refine sw_fld F 1 ⟨rfl, rfl, rfl⟩ rfl (by kernel_rfl) rfl rfl fun A F => ?_
      refine sw_on F 7 rfl rfl rfl rfl rfl ?_
      refine sw_cell F M 0 ⟨rfl, rfl, rfl⟩ rfl rfl rfl (by kernel_rfl) rfl fun A F => ?_
      refine sw_on F 7 rfl rfl rfl rfl rfl ?_
      refine sw_seq2 F ⟨rfl, rfl, rfl⟩ rfl rfl rfl fun A F => ?_
      refine sw_on F 3 rfl rfl rfl rfl rfl ?_
      refine sw_pickF F ⟨rfl, rfl, rfl⟩ rfl rfl rfl fun A F => ?_
      refine sw_pickT F ⟨rfl, rfl, rfl⟩ rfl rfl rfl fun A F => ?_
      refine sw_asg F ⟨rfl, rfl, rfl⟩ rfl rfl fun A F => ?_
      refine sw_end ?_
      show Code.wp _ _ _ _ _
      refine sw_cond F rfl (fun hc44 => ?_) (fun hc44 => ?_)
      · skip
        have hp : pickI stepW (.ok σ) = 5 := by rw [hsp, eq_of_beq hc44]; rfl
        rw [hp] at kn
        replace kn := kn.ite_neg (by decide)
        refine sw_seq ?_
        refine sw_reg ?_
        refine sw_move F ⟨rfl, rfl, rfl⟩ rfl rfl fun A F => ?_
        refine sw_call0 (rnext_m text c b (.ok σ)) F M ⟨rfl, rfl, rfl⟩ rfl rfl ?_
        rintro _ S45 A w ⟨_, h46⟩ F M
        replace kn := kn.step h46
        have hlt0 := rv_hnext h46 hhere
        replace kn := kn.ite_neg (by decide)
        replace kn := kn.ite_pos rfl
        replace kn := kn.succ.to fun n => by rw [whileM]
        refine sw_end ?_
        show Code.wp _ _ _ _ _
        refine sw_seq ?_
        refine sw_reg ?_
        refine sw_move F ⟨rfl, rfl, rfl⟩ rfl rfl fun A F => ?_
        refine sw_call (rexpr_m text c b S45 1 (by decide) (by decide)) F M ⟨rfl, rfl, rfl⟩ rfl rfl ?_
        rintro _ _ S47 A w ⟨op48, m48, s48, la48, lc48, es48, rfl, rfl, h48⟩ F M
        replace kn := kn.step (show Rv (fun n => exprT n 1) _ _ _ from h48)
        refine sw_alloc F M [.int .i64 0, .int .i64 0, .string ⟨#[]⟩, .slice none 0 0] ⟨rfl, rfl, rfl⟩ (by kernel_rfl) rfl fun x50 A w F M => ?_
        refine sw_setAll F M 0 ⟨rfl, rfl, rfl⟩ rfl rfl rfl (by kernel_rfl) rfl rfl fun w M => ?_
        simp only [List.set_cons_zero, List.set_cons_succ] at M
        refine sw_end ?_
        show Code.wp _ _ _ _ _
        refine sw_seq ?_
        refine sw_reg ?_
        refine sw_all F M 0 ⟨rfl, rfl, rfl⟩ rfl rfl (by kernel_rfl) (by kernel_rfl) rfl fun A F => ?_
        refine sw_mkrow (ety := 73) (sz := 4) (z := .agg #[.int .i64 0, .int .i64 0, .string ⟨#[]⟩, .slice none 0 0]) F M _ [exF op48 m48 s48 la48 lc48 es48] ⟨rfl, rfl, rfl⟩ rfl (by kernel_rfl) (by kernel_rfl) rfl (by kernel_rfl) rfl ?_ ?_ rfl fun x51 A w F M => ?_
        · intro g hg
          simp only [List.mem_cons, List.not_mem_nil, or_false] at hg
          rcases hg with rfl
          · exact ⟨rfl, (M.mem.vals 1 rfl).1⟩
        · intro i f b hf hm g hg
          simp only [List.mem_cons, List.not_mem_nil, or_false] at hg
          rcases hg with rfl
          · exact (M.mem.vals 1 rfl).2 i f b hf hm
        refine sw_fld F 5 ⟨rfl, rfl, rfl⟩ rfl (by kernel_rfl) rfl rfl fun A F => ?_
        refine sw_set F M 4 ⟨rfl, rfl, rfl⟩ rfl rfl rfl (by kernel_rfl) rfl rfl rfl fun w M => ?_
        simp only [List.set_cons_zero, List.set_cons_succ] at M
        refine sw_end ?_
        show Code.wp _ _ _ _ _
        refine sw_seq ?_
        refine sw_reg ?_
        refine sw_fld F 0 ⟨rfl, rfl, rfl⟩ rfl (by kernel_rfl) rfl rfl fun A F => ?_
        refine sw_set F M 4 ⟨rfl, rfl, rfl⟩ rfl rfl rfl (by kernel_rfl) rfl rfl rfl fun w M => ?_
        simp only [List.set_cons_zero, List.set_cons_succ] at M
        refine sw_end ?_
        show Code.wp _ _ _ _ _
        refine sw_seq ?_
        refine sw_reg ?_
        refine sw_move F ⟨rfl, rfl, rfl⟩ rfl rfl fun A F => ?_
        refine sw_call (HB S47 (by have qh48 := h48.shr (fun n => expr_shr1 n _); omega)) F M ⟨rfl, rfl, rfl⟩ rfl rfl ?_
        rintro _ _ S53 A w ⟨la54, lc54, es54, rfl, rfl, h54⟩ F M
        replace kn := kn.step h54
        refine sw_fld F 6 ⟨rfl, rfl, rfl⟩ rfl (by kernel_rfl) rfl rfl fun A F => ?_
        refine sw_set F M 5 ⟨rfl, rfl, rfl⟩ rfl rfl rfl (by kernel_rfl) rfl rfl rfl fun w M => ?_
        simp only [List.set_cons_zero, List.set_cons_succ] at M
        refine sw_end ?_
        show Code.wp _ _ _ _ _
        refine sw_seq ?_
        refine sw_seq ?_
        refine sw_reg ?_
        refine sw_fld F 1 ⟨rfl, rfl, rfl⟩ rfl (by kernel_rfl) rfl rfl fun A F => ?_
        refine sw_cell F M 4 ⟨rfl, rfl, rfl⟩ rfl rfl rfl (by kernel_rfl) rfl fun A F => ?_
        refine sw_seq2 F ⟨rfl, rfl, rfl⟩ rfl rfl rfl fun A F => ?_
        rw [c26] at F
        refine sw_end ?_
        show Code.wp _ _ _ _ _
        refine sw_false F rfl ?_
        refine wp_skip ?_
        show Code.wp _ _ _ _ _
        refine sw_seq ?_
        refine sw_reg ?_
        refine sw_all F M 5 ⟨rfl, rfl, rfl⟩ rfl rfl (by kernel_rfl) (by kernel_rfl) rfl fun A F => ?_
        refine sw_setAll F M 6 ⟨rfl, rfl, rfl⟩ rfl rfl rfl (by kernel_rfl) rfl rfl fun w M => ?_
        simp only [List.set_cons_zero, List.set_cons_succ] at M
        refine sw_end ?_
        show Code.wp _ _ _ _ _
        refine wp_ret ?_
        repeat (first | refine then_ret ?_ | refine block_ret ?_)
        exact sw_retbox F M 6 Tryd.results51 rfl rfl (by kernel_rfl) (by kernel_rfl) ⟨_, Sm.flds { k := 5, nm := [], al := [], ca := [], ty := 0, ea := (some ⟨x51, 0, none⟩), ec := 1, es := ([exF op48 m48 s48 la48 lc48 es48]), ba := la54, bc := lc54, bs := es54, la := none, lc := 0, ls := [] }, S53, rfl, M.but, M.st, lie_cons (lie_i (n := 5) (by omega)) (lie_cons (trivial) (lie_cons (trivial) (lie_cons (trivial) (lie_cons (lie_i (n := 0) (by omega)) (lie_cons (M.mem.rowlie 1 rfl) (lie_cons (M.mem.vallie 0 rfl) (lie_cons (lies_nil _ _) (lie_nil _ _)))))))), { k := 5, nm := [], al := [], ca := [], ty := 0, ea := (some ⟨x51, 0, none⟩), ec := 1, es := ([exF op48 m48 s48 la48 lc48 es48]), ba := la54, bc := lc54, bs := es54, la := none, lc := 0, ls := [] }, rfl, rfl, kn.fin⟩
      · skip
        refine sw_seq ?_
        refine sw_reg ?_
        refine sw_fld F 0 ⟨rfl, rfl, rfl⟩ rfl (by kernel_rfl) rfl rfl fun A F => ?_
        refine sw_cell F M 0 ⟨rfl, rfl, rfl⟩ rfl rfl rfl (by kernel_rfl) rfl fun A F => ?_
        refine sw_eql F ⟨rfl, rfl, rfl⟩ rfl rfl rfl fun A F => ?_
        refine sw_move F ⟨rfl, rfl, rfl⟩ rfl rfl fun A F => ?_
        refine sw_on F 3 rfl rfl rfl rfl rfl ?_
        refine sw_fld F 1 ⟨rfl, rfl, rfl⟩ rfl (by kernel_rfl) rfl rfl fun A F => ?_
        refine sw_on F 3 rfl rfl rfl rfl rfl ?_
        refine sw_cell F M 0 ⟨rfl, rfl, rfl⟩ rfl rfl rfl (by kernel_rfl) rfl fun A F => ?_
        refine sw_on F 3 rfl rfl rfl rfl rfl ?_
        refine sw_seq2 F ⟨rfl, rfl, rfl⟩ rfl rfl rfl fun A F => ?_
        refine sw_pickT F ⟨rfl, rfl, rfl⟩ rfl rfl rfl fun A F => ?_
        refine sw_asg F ⟨rfl, rfl, rfl⟩ rfl rfl fun A F => ?_
        refine sw_end ?_
        show Code.wp _ _ _ _ _
        refine sw_cond F rfl (fun hc56 => ?_) (fun hc56 => ?_)
        · skip
          have hp : pickI stepW (.ok σ) = 8 := by rw [hsp, eq_of_beq hc56]; rfl
          rw [hp] at kn
          replace kn := kn.ite_neg (by decide)
          refine sw_seq ?_
          refine sw_reg ?_
          refine sw_fld F 0 ⟨rfl, rfl, rfl⟩ rfl (by kernel_rfl) rfl rfl fun A F => ?_
          refine sw_set F M 1 ⟨rfl, rfl, rfl⟩ rfl rfl rfl (by kernel_rfl) rfl rfl rfl fun w M => ?_
          simp only [List.set_cons_zero, List.set_cons_succ] at M
          refine sw_end ?_
          show Code.wp _ _ _ _ _
          refine sw_seq ?_
          refine sw_reg ?_
          refine sw_move F ⟨rfl, rfl, rfl⟩ rfl rfl fun A F => ?_
          refine sw_call0 (rnext_m text c b (.ok σ)) F M ⟨rfl, rfl, rfl⟩ rfl rfl ?_
          rintro _ S57 A w ⟨_, h58⟩ F M
          replace kn := kn.step h58
          have hlt0 := rv_hnext h58 hhere
          replace kn := kn.ite_neg (by decide)
          replace kn := kn.ite_neg (by decide)
          replace kn := kn.ite_neg (by decide)
          replace kn := kn.ite_neg (by decide)
          replace kn := kn.ite_pos rfl
          refine sw_end ?_
          show Code.wp _ _ _ _ _
          refine sw_seq ?_
          refine sw_reg ?_
          refine sw_move F ⟨rfl, rfl, rfl⟩ rfl rfl fun A F => ?_
          refine sw_call (rexpr_m text c b S57 1 (by decide) (by decide)) F M ⟨rfl, rfl, rfl⟩ rfl rfl ?_
          rintro _ _ S59 A w ⟨op60, m60, s60, la60, lc60, es60, rfl, rfl, h60⟩ F M
          replace kn := kn.step (show Rv (fun n => exprT n 1) _ _ _ from h60)
          refine sw_alloc F M [.int .i64 0, .int .i64 0, .string ⟨#[]⟩, .slice none 0 0] ⟨rfl, rfl, rfl⟩ (by kernel_rfl) rfl fun x62 A w F M => ?_
          refine sw_setAll F M 0 ⟨rfl, rfl, rfl⟩ rfl rfl rfl (by kernel_rfl) rfl rfl fun w M => ?_
          simp only [List.set_cons_zero, List.set_cons_succ] at M
          refine sw_end ?_
          show Code.wp _ _ _ _ _
          refine sw_seq ?_
          refine sw_reg ?_
          refine sw_fld F 5 ⟨rfl, rfl, rfl⟩ rfl (by kernel_rfl) rfl rfl fun A F => ?_
          replace M := M.nilrow 73 4
          refine sw_cell F M 4 ⟨rfl, rfl, rfl⟩ rfl rfl rfl (by kernel_rfl) rfl fun A F => ?_
          refine sw_all F M 1 ⟨rfl, rfl, rfl⟩ rfl rfl (by kernel_rfl) (by kernel_rfl) rfl fun A F => ?_
          refine sw_app1 (z := .agg #[.int .i64 0, .int .i64 0, .string ⟨#[]⟩, .slice none 0 0]) F M 0 2 ⟨rfl, rfl, rfl⟩ ⟨rfl, rfl, rfl⟩ rfl rfl (fun _ => rfl) rfl rfl (by kernel_rfl) (by kernel_rfl) rfl rfl (by kernel_rfl) rfl (by simp) rfl fun la64 lc65 _ A w F M => ?_
          simp only [List.set_cons_zero, List.set_cons_succ] at M
          refine sw_fld F 5 ⟨rfl, rfl, rfl⟩ rfl (by kernel_rfl) rfl rfl fun A F => ?_
          refine sw_set F M 4 ⟨rfl, rfl, rfl⟩ rfl rfl rfl (by kernel_rfl) rfl rfl rfl fun w M => ?_
          simp only [List.set_cons_zero, List.set_cons_succ] at M
          refine sw_end ?_
          show Code.wp _ _ _ _ _
          refine sw_reg ?_
          refine sw_move F ⟨rfl, rfl, rfl⟩ rfl rfl fun A F => ?_
          refine sw_call0 (rneed_m [44] text c b S59) F M ⟨rfl, rfl, rfl⟩ rfl rfl ?_
          rintro _ S66 A w ⟨_, h67⟩ F M
          replace kn := kn.step h67
          refine sw_end ?_
          show Code.wp _ _ _ _ _
          refine sw_seq ?_
          refine sw_reg ?_
          refine sw_move F ⟨rfl, rfl, rfl⟩ rfl rfl fun A F => ?_
          refine sw_call (rexpr_m text c b S66 1 (by decide) (by decide)) F M ⟨rfl, rfl, rfl⟩ rfl rfl ?_
          rintro _ _ S68 A w ⟨op69, m69, s69, la69, lc69, es69, rfl, rfl, h69⟩ F M
          replace kn := kn.step (show Rv (fun n => exprT n 1) _ _ _ from h69)
          refine sw_alloc F M [.int .i64 0, .int .i64 0, .string ⟨#[]⟩, .slice none 0 0] ⟨rfl, rfl, rfl⟩ (by kernel_rfl) rfl fun x71 A w F M => ?_
          refine sw_setAll F M 0 ⟨rfl, rfl, rfl⟩ rfl rfl rfl (by kernel_rfl) rfl rfl fun w M => ?_
          simp only [List.set_cons_zero, List.set_cons_succ] at M
          refine sw_end ?_
          show Code.wp _ _ _ _ _
          refine sw_seq ?_
          refine sw_reg ?_
          refine sw_fld F 5 ⟨rfl, rfl, rfl⟩ rfl (by kernel_rfl) rfl rfl fun A F => ?_
          refine sw_cell F M 6 ⟨rfl, rfl, rfl⟩ rfl rfl rfl (by kernel_rfl) rfl fun A F => ?_
          refine sw_all F M 0 ⟨rfl, rfl, rfl⟩ rfl rfl (by kernel_rfl) (by kernel_rfl) rfl fun A F => ?_
          refine sw_app1 (z := .agg #[.int .i64 0, .int .i64 0, .string ⟨#[]⟩, .slice none 0 0]) F M 2 1 ⟨rfl, rfl, rfl⟩ ⟨rfl, rfl, rfl⟩ rfl rfl (fun _ => rfl) rfl rfl (by kernel_rfl) (by kernel_rfl) rfl rfl (by kernel_rfl) rfl (by simp) rfl fun la72 lc73 _ A w F M => ?_
          simp only [List.set_cons_zero, List.set_cons_succ] at M
          refine sw_fld F 5 ⟨rfl, rfl, rfl⟩ rfl (by kernel_rfl) rfl rfl fun A F => ?_
          refine sw_set F M 6 ⟨rfl, rfl, rfl⟩ rfl rfl rfl (by kernel_rfl) rfl rfl rfl fun w M => ?_
          simp only [List.set_cons_zero, List.set_cons_succ] at M
          refine sw_end ?_
          show Code.wp _ _ _ _ _
          refine sw_seq ?_
          refine sw_reg ?_
          refine sw_move F ⟨rfl, rfl, rfl⟩ rfl rfl fun A F => ?_
          refine sw_call0 (rneed_m [59] text c b S68) F M ⟨rfl, rfl, rfl⟩ rfl rfl ?_
          rintro _ S74 A w ⟨_, h75⟩ F M
          replace kn := kn.step h75
          refine sw_end ?_
          show Code.wp _ _ _ _ _
          refine sw_seq ?_
          refine sw_reg ?_
          refine sw_all F M 6 ⟨rfl, rfl, rfl⟩ rfl rfl (by kernel_rfl) (by kernel_rfl) rfl fun A F => ?_
          refine sw_setAll F M 7 ⟨rfl, rfl, rfl⟩ rfl rfl rfl (by kernel_rfl) rfl rfl fun w M => ?_
          simp only [List.set_cons_zero, List.set_cons_succ] at M
          refine sw_end ?_
          show Code.wp _ _ _ _ _
          refine wp_ret ?_
          repeat (first | refine then_ret ?_ | refine block_ret ?_)
          exact sw_retbox F M 7 Tryd.results51 rfl rfl (by kernel_rfl) (by kernel_rfl) ⟨_, Sm.flds { k := 8, nm := [], al := [], ca := [], ty := 0, ea := la72, ec := lc73, es := ([] ++ [exF op60 m60 s60 la60 lc60 es60] ++ [exF op69 m69 s69 la69 lc69 es69]), ba := none, bc := 0, bs := [], la := none, lc := 0, ls := [] }, S74, rfl, M.but, M.st, lie_cons (lie_i (n := 8) (by omega)) (lie_cons (trivial) (lie_cons (trivial) (lie_cons (trivial) (lie_cons (lie_i (n := 0) (by omega)) (lie_cons (M.mem.rowlie 2 rfl) (lie_cons (lies_nil _ _) (lie_cons (lies_nil _ _) (lie_nil _ _)))))))), { k := 8, nm := [], al := [], ca := [], ty := 0, ea := la72, ec := lc73, es := ([] ++ [exF op60 m60 s60 la60 lc60 es60] ++ [exF op69 m69 s69 la69 lc69 es69]), ba := none, bc := 0, bs := [], la := none, lc := 0, ls := [] }, rfl, rfl, kn.fin⟩
        · skip
          refine sw_seq ?_
          refine sw_reg ?_
          refine sw_fld F 0 ⟨rfl, rfl, rfl⟩ rfl (by kernel_rfl) rfl rfl fun A F => ?_
          refine sw_cell F M 0 ⟨rfl, rfl, rfl⟩ rfl rfl rfl (by kernel_rfl) rfl fun A F => ?_
          refine sw_eql F ⟨rfl, rfl, rfl⟩ rfl rfl rfl fun A F => ?_
          refine sw_move F ⟨rfl, rfl, rfl⟩ rfl rfl fun A F => ?_
          refine sw_on F 3 rfl rfl rfl rfl rfl ?_
          refine sw_fld F 1 ⟨rfl, rfl, rfl⟩ rfl (by kernel_rfl) rfl rfl fun A F => ?_
          refine sw_on F 3 rfl rfl rfl rfl rfl ?_
          refine sw_cell F M 0 ⟨rfl, rfl, rfl⟩ rfl rfl rfl (by kernel_rfl) rfl fun A F => ?_
          refine sw_on F 3 rfl rfl rfl rfl rfl ?_
          refine sw_seq2 F ⟨rfl, rfl, rfl⟩ rfl rfl rfl fun A F => ?_
          refine sw_pickT F ⟨rfl, rfl, rfl⟩ rfl rfl rfl fun A F => ?_
          refine sw_asg F ⟨rfl, rfl, rfl⟩ rfl rfl fun A F => ?_
          refine sw_end ?_
          show Code.wp _ _ _ _ _
          refine sw_cond F rfl (fun hc76 => ?_) (fun hc76 => ?_)
          · skip
            have hp : pickI stepW (.ok σ) = 10 := by rw [hsp, eq_of_beq hc76]; rfl
            rw [hp] at kn
            replace kn := kn.ite_neg (by decide)
            refine sw_seq ?_
            refine sw_reg ?_
            refine sw_move F ⟨rfl, rfl, rfl⟩ rfl rfl fun A F => ?_
            refine sw_call0 (rnext_m text c b (.ok σ)) F M ⟨rfl, rfl, rfl⟩ rfl rfl ?_
            rintro _ S77 A w ⟨_, h78⟩ F M
            replace kn := kn.step h78
            have hlt0 := rv_hnext h78 hhere
            replace kn := kn.ite_neg (by decide)
            replace kn := kn.ite_neg (by decide)
            replace kn := kn.ite_neg (by decide)
            replace kn := kn.ite_pos rfl
            refine sw_end ?_
            show Code.wp _ _ _ _ _
            refine sw_seq ?_
            refine sw_reg ?_
            refine sw_move F ⟨rfl, rfl, rfl⟩ rfl rfl fun A F => ?_
            refine sw_call (rask_m text c b S77) F M ⟨rfl, rfl, rfl⟩ rfl rfl ?_
            rintro _ _ S79 A w ⟨y81, rfl, rfl, h80⟩ F M
            refine sw_setAll F M 3 ⟨rfl, rfl, rfl⟩ rfl rfl rfl (by kernel_rfl) rfl rfl fun w M => ?_
            simp only [List.set_cons_zero, List.set_cons_succ] at M
            refine sw_end ?_
            show Code.wp _ _ _ _ _
            refine wp_ret ?_
            repeat (first | refine then_ret ?_ | refine block_ret ?_)
            exact sw_retbox F M 3 Tryd.results51 rfl rfl (by kernel_rfl) (by kernel_rfl) ⟨_, y81.flds, S79, rfl, M.but, M.st, M.mem.val (k := 0) rfl, y81, rfl, rfl, kn.last h80⟩
          · skip
            refine sw_seq ?_
            refine sw_reg ?_
            refine sw_fld F 0 ⟨rfl, rfl, rfl⟩ rfl (by kernel_rfl) rfl rfl fun A F => ?_
            refine sw_cell F M 0 ⟨rfl, rfl, rfl⟩ rfl rfl rfl (by kernel_rfl) rfl fun A F => ?_
            refine sw_eql F ⟨rfl, rfl, rfl⟩ rfl rfl rfl fun A F => ?_
            refine sw_move F ⟨rfl, rfl, rfl⟩ rfl rfl fun A F => ?_
            refine sw_on F 3 rfl rfl rfl rfl rfl ?_
            refine sw_fld F 1 ⟨rfl, rfl, rfl⟩ rfl (by kernel_rfl) rfl rfl fun A F => ?_
            refine sw_on F 3 rfl rfl rfl rfl rfl ?_
            refine sw_cell F M 0 ⟨rfl, rfl, rfl⟩ rfl rfl rfl (by kernel_rfl) rfl fun A F => ?_
            refine sw_on F 3 rfl rfl rfl rfl rfl ?_
            refine sw_callR (by kernel_rfl) (rpPlain_any tx0 _) F ⟨rfl, rfl, rfl⟩ rfl rfl ?_
            rintro e _ ⟨rfl, rfl⟩
            refine ⟨_, rfl, fun A F => ?_⟩
            refine sw_on F 3 rfl rfl rfl rfl rfl ?_
            refine sw_gtr F ⟨rfl, rfl, rfl⟩ rfl rfl rfl fun A F => ?_
            refine sw_pickT F ⟨rfl, rfl, rfl⟩ rfl rfl rfl fun A F => ?_
            refine sw_asg F ⟨rfl, rfl, rfl⟩ rfl rfl fun A F => ?_
            refine sw_end ?_
            show Code.wp _ _ _ _ _
            refine sw_cond F rfl (fun hc83 => ?_) (fun hc83 => ?_)
            · skip
              replace hc83 := of_decide_eq_true hc83
              have hp : pickI stepW (.ok σ) = plainI tx0 := by rw [hsp]; simp only [stepI, hc4, c26, hc44, hc56, hc76, cond_false]
              have hpf := plain_form hc83
              rw [hp] at kn
              replace kn := kn.ite_neg (by omega)
              refine sw_seq ?_
              refine sw_reg ?_
              refine sw_fld F 1 ⟨rfl, rfl, rfl⟩ rfl (by kernel_rfl) rfl rfl fun A F => ?_
              refine sw_cell F M 0 ⟨rfl, rfl, rfl⟩ rfl rfl rfl (by kernel_rfl) rfl fun A F => ?_
              refine sw_callR (by kernel_rfl) (rpPlain_any tx0 _) F ⟨rfl, rfl, rfl⟩ rfl rfl ?_
              rintro e _ ⟨rfl, rfl⟩
              refine ⟨_, rfl, fun A F => ?_⟩
              refine sw_fld F 0 ⟨rfl, rfl, rfl⟩ rfl (by kernel_rfl) rfl rfl fun A F => ?_
              refine sw_set F M 1 ⟨rfl, rfl, rfl⟩ rfl rfl rfl (by kernel_rfl) rfl rfl rfl fun w M => ?_
              simp only [List.set_cons_zero, List.set_cons_succ] at M
              refine sw_end ?_
              show Code.wp _ _ _ _ _
              refine sw_reg ?_
              refine sw_move F ⟨rfl, rfl, rfl⟩ rfl rfl fun A F => ?_
              refine sw_call0 (rnext_m text c b (.ok σ)) F M ⟨rfl, rfl, rfl⟩ rfl rfl ?_
              rintro _ S84 A w ⟨_, h85⟩ F M
              replace kn := kn.step h85
              have hlt0 := rv_hnext h85 hhere
              replace kn := kn.ite_neg (by omega)
              replace kn := kn.ite_neg (by omega)
              replace kn := kn.ite_neg (by omega)
              replace kn := kn.ite_neg (by omega)
              replace kn := kn.ite_neg (by omega)
              refine sw_end ?_
              show Code.wp _ _ _ _ _
              refine sw_seq ?_
              refine sw_reg ?_
              refine sw_move F ⟨rfl, rfl, rfl⟩ rfl rfl fun A F => ?_
              refine sw_call (rexpr_m text c b S84 1 (by decide) (by decide)) F M ⟨rfl, rfl, rfl⟩ rfl rfl ?_
              rintro _ _ S86 A w ⟨op87, m87, s87, la87, lc87, es87, rfl, rfl, h87⟩ F M
              replace kn := kn.step (show Rv (fun n => exprT n 1) _ _ _ from h87)
              refine sw_alloc F M [.int .i64 0, .int .i64 0, .string ⟨#[]⟩, .slice none 0 0] ⟨rfl, rfl, rfl⟩ (by kernel_rfl) rfl fun x89 A w F M => ?_
              refine sw_setAll F M 0 ⟨rfl, rfl, rfl⟩ rfl rfl rfl (by kernel_rfl) rfl rfl fun w M => ?_
              simp only [List.set_cons_zero, List.set_cons_succ] at M
              refine sw_end ?_
              show Code.wp _ _ _ _ _
              refine sw_seq ?_
              refine sw_reg ?_
              refine sw_fld F 5 ⟨rfl, rfl, rfl⟩ rfl (by kernel_rfl) rfl rfl fun A F => ?_
              replace M := M.nilrow 73 4
              refine sw_cell F M 4 ⟨rfl, rfl, rfl⟩ rfl rfl rfl (by kernel_rfl) rfl fun A F => ?_
              refine sw_all F M 1 ⟨rfl, rfl, rfl⟩ rfl rfl (by kernel_rfl) (by kernel_rfl) rfl fun A F => ?_
              refine sw_app1 (z := .agg #[.int .i64 0, .int .i64 0, .string ⟨#[]⟩, .slice none 0 0]) F M 0 2 ⟨rfl, rfl, rfl⟩ ⟨rfl, rfl, rfl⟩ rfl rfl (fun _ => rfl) rfl rfl (by kernel_rfl) (by kernel_rfl) rfl rfl (by kernel_rfl) rfl (by simp) rfl fun la91 lc92 _ A w F M => ?_
              simp only [List.set_cons_zero, List.set_cons_succ] at M
              refine sw_fld F 5 ⟨rfl, rfl, rfl⟩ rfl (by kernel_rfl) rfl rfl fun A F => ?_
              refine sw_set F M 4 ⟨rfl, rfl, rfl⟩ rfl rfl rfl (by kernel_rfl) rfl rfl rfl fun w M => ?_
              simp only [List.set_cons_zero, List.set_cons_succ] at M
              refine sw_end ?_
              show Code.wp _ _ _ _ _
              refine sw_seq ?_
              refine sw_reg ?_
              refine sw_move F ⟨rfl, rfl, rfl⟩ rfl rfl fun A F => ?_
              refine sw_call0 (rneed_m [59] text c b S86) F M ⟨rfl, rfl, rfl⟩ rfl rfl ?_
              rintro _ S93 A w ⟨_, h94⟩ F M
              replace kn := kn.step h94
              refine sw_end ?_
              show Code.wp _ _ _ _ _
              refine sw_seq ?_
              refine sw_reg ?_
              refine sw_all F M 4 ⟨rfl, rfl, rfl⟩ rfl rfl (by kernel_rfl) (by kernel_rfl) rfl fun A F => ?_
              refine sw_setAll F M 5 ⟨rfl, rfl, rfl⟩ rfl rfl rfl (by kernel_rfl) rfl rfl fun w M => ?_
              simp only [List.set_cons_zero, List.set_cons_succ] at M
              refine sw_end ?_
              show Code.wp _ _ _ _ _
              refine wp_ret ?_
              repeat (first | refine then_ret ?_ | refine block_ret ?_)
              exact sw_retbox F M 5 Tryd.results51 rfl rfl (by kernel_rfl) (by kernel_rfl) ⟨_, Sm.flds { k := (plainI tx0), nm := [], al := [], ca := [], ty := 0, ea := la91, ec := lc92, es := ([] ++ [exF op87 m87 s87 la87 lc87 es87]), ba := none, bc := 0, bs := [], la := none, lc := 0, ls := [] }, S93, rfl, M.but, M.st, lie_cons (lie_i (n := (plainI tx0)) (by omega)) (lie_cons (trivial) (lie_cons (trivial) (lie_cons (trivial) (lie_cons (lie_i (n := 0) (by omega)) (lie_cons (M.mem.rowlie 0 rfl) (lie_cons (lies_nil _ _) (lie_cons (lies_nil _ _) (lie_nil _ _)))))))), { k := (plainI tx0), nm := [], al := [], ca := [], ty := 0, ea := la91, ec := lc92, es := ([] ++ [exF op87 m87 s87 la87 lc87 es87]), ba := none, bc := 0, bs := [], la := none, lc := 0, ls := [] }, rfl, rfl, kn.fin⟩
            · skip
              replace hc83 := of_decide_eq_false hc83
              have hp : pickI stepW (.ok σ) = 0 := by rw [hsp]; simp only [stepI, hc4, c26, hc44, hc56, hc76, cond_false]; have := plain_ge tx0; omega
              rw [hp] at kn
              replace kn := kn.ite_pos rfl
              refine sw_seq ?_
              refine sw_reg ?_
              refine sw_move F ⟨rfl, rfl, rfl⟩ rfl rfl fun A F => ?_
              refine sw_call0 (rwrong_m text c b (.ok σ)) F M ⟨rfl, rfl, rfl⟩ rfl rfl ?_
              rintro _ S95 A w ⟨_, h96⟩ F M
              refine sw_end ?_
              show Code.wp _ _ _ _ _
              refine sw_seq ?_
              refine sw_reg ?_
              refine sw_all F M 1 ⟨rfl, rfl, rfl⟩ rfl rfl (by kernel_rfl) (by kernel_rfl) rfl fun A F => ?_
              refine sw_setAll F M 2 ⟨rfl, rfl, rfl⟩ rfl rfl rfl (by kernel_rfl) rfl rfl fun w M => ?_
              simp only [List.set_cons_zero, List.set_cons_succ] at M
              refine sw_end ?_
              show Code.wp _ _ _ _ _
              refine wp_ret ?_
              repeat (first | refine then_ret ?_ | refine block_ret ?_)
              exact sw_retbox F M 2 Tryd.results51 rfl rfl (by kernel_rfl) (by kernel_rfl) ⟨_, Sm.flds { k := 0, nm := [], al := [], ca := [], ty := 0, ea := none, ec := 0, es := [], ba := none, bc := 0, bs := [], la := none, lc := 0, ls := [] }, S95, rfl, M.but, M.st, lie_cons (lie_i (n := 0) (by omega)) (lie_cons (trivial) (lie_cons (trivial) (lie_cons (trivial) (lie_cons (lie_i (n := 0) (by omega)) (lie_cons (lies_nil _ _) (lie_cons (lies_nil _ _) (lie_cons (lies_nil _ _) (lie_nil _ _)))))))), { k := 0, nm := [], al := [], ca := [], ty := 0, ea := none, ec := 0, es := [], ba := none, bc := 0, bs := [], la := none, lc := 0, ls := [] }, rfl, rfl, kn.last (wrong_any h96)⟩
theorem rstmt_of {m : Nat} (text : Key) (c : C4) (b : Nat) (HB : ∀ S, need S < m → Meth Tryd.prog (PdX text c b) (fun k => k = b) 35 [ptr b] S (BlP blockM S)) (S : ES) (hok : ∃ σ, S = .ok σ) (hm : need S ≤ m) : Meth Tryd.prog (PdX text c b) (fun k => k = b) 51 [ptr b] S (StP stepM S) := by
  obtain ⟨σ, rfl⟩ := hok
  cases h : σ.now with
  | name s => exact stmt_name text c b HB σ hm s h (by rw [h]; rfl)
  | num mm => exact stmt_num text c b HB σ hm (fun t q => by rw [h] at q; cases q) (step_other fun t q => by rw [h] at q; cases q) (by rw [h]; rfl)
  | fin => exact stmt_fin text c b HB σ hm (fun t q => by rw [h] at q; cases q) (step_other fun t q => by rw [h] at q; cases q) (by rw [h]; rfl)
  | none => exact stmt_none text c b HB σ hm (fun t q => by rw [h] at q; cases q) (step_other fun t q => by rw [h] at q; cases q) (by rw [h]; rfl)
  | fixed s =>
    by_cases hw : wordL.contains s = true
    · exact stmt_word text c b HB σ hm s h (by rw [h, tokK, if_pos hw])
    · refine ⟨by kernel_rfl, fun w R q => ?_⟩
      have hs : s ≠ [] := by
        obtain ⟨_, _, _, _, _, ht, _⟩ := R
        rw [h] at ht
        exact tok_some (by obtain ⟨rfl, ht⟩ := ht; exact ht)
      exact (stmt_sign text c b HB σ hm (fun t q => by rw [h] at q; cases q) (by rw [step_pick h hs]; exact step_word (by simpa using hw)) (by rw [h, tokK, if_neg hw])).2 w R q
theorem rrec_all (text : Key) (c : C4) (b : Nat) : ∀ m S, need S ≤ m → ((∃ σ, S = .ok σ) → Meth Tryd.prog (PdX text c b) (fun k => k = b) 51 [ptr b] S (StP stepM S)) ∧ Meth Tryd.prog (PdX text c b) (fun k => k = b) 35 [ptr b] S (BlP blockM S) := by
  intro m
  induction m using Nat.strongRecOn with
  | _ m ih => exact fun S hm => ⟨fun hok => rstmt_of text c b (fun S h => (ih (need S) h S (Nat.le_refl _)).2) S hok hm, rblock_of text c b (fun S hok h => (ih (need S) h S (Nat.le_refl _)).1 hok) S hm⟩
theorem rblock_m (text : Key) (c : C4) (b : Nat) (S : ES) : Meth Tryd.prog (PdX text c b) (fun k => k = b) 35 [ptr b] S (BlP blockM S) := (rrec_all text c b _ S (Nat.le_refl _)).2
end Go.Proofs.YtgpjlocgkdlnlaaDoor
