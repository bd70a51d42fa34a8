/- The answer's Parser: a statement, by its token. -/
import Derived.Test.YtgpjlocgkdlnlaaDoorM43
namespace Go.Proofs.YtgpjlocgkdlnlaaDoor
open Go.RowKit
set_option linter.unusedVariables false
set_option linter.unusedSimpArgs false

theorem inner_of {o c : Key} {y : EV} {S S1 S2 S3 : ES} (h1 : Rv (fun _ => openT o) S () S1) (h2 : Rv (fun n => exprT n ((1 : Nat) : Int)) S1 y S2) (h3 : Rv (fun _ => shutT c) S2 () S3) : Rv (fun n => innerT n o c) S y S3 :=
  Rv.succ ((h1.bind (G := fun n _ => bnd (exprT n 1) fun x => bnd (shutT c) fun _ => pur x) (h2.bind (G := fun n x => bnd (shutT c) fun _ => pur x) (h3.bind (G := fun _ _ => pur y) (Rv.pur y S3)))).to fun n => by rw [innerT])
theorem tok_some {t : Key} (h : (wordL.contains t || signL.contains t) = true) : t ≠ [] := fun q => by
  subst q
  exact absurd h (by decide)
def stepI (t : Key) : Int := bif t == [108, 101, 116] then 1 else bif t == [105, 102] then 4 else bif t == [119, 104, 105, 108, 101] then 5 else bif t == [112, 97, 121] then 8 else bif t == [97, 115, 107] then 10 else plainI t
theorem step_pick {σ : St} {t : Key} (hn : σ.now = .fixed t) (ht : t ≠ []) : pickI stepW (.ok σ) = stepI t := by
  have hs := fun s => stands_fixed s t σ hn
  have e : stepW = [(1, [108, 101, 116]), (2, []), (3, []), (4, [105, 102]), (5, [119, 104, 105, 108, 101]), (6, [114, 101, 116, 117, 114, 110]), (7, [110, 101, 101, 100]), (8, [112, 97, 121]), (9, [110, 111, 116, 101]), (10, [97, 115, 107])] := by decide
  rw [e]
  simp only [pickI, hs, decide_eq_false ht]
  by_cases h1 : t = [108, 101, 116]
  · subst h1; decide
  by_cases h4 : t = [105, 102]
  · subst h4; decide
  by_cases h5 : t = [119, 104, 105, 108, 101]
  · subst h5; decide
  by_cases h6 : t = [114, 101, 116, 117, 114, 110]
  · subst h6; decide
  by_cases h7 : t = [110, 101, 101, 100]
  · subst h7; decide
  by_cases h8 : t = [112, 97, 121]
  · subst h8; decide
  by_cases h9 : t = [110, 111, 116, 101]
  · subst h9; decide
  by_cases h0 : t = [97, 115, 107]
  · subst h0; decide
  · simp only [stepI, plainI, beq_eq_false_iff_ne.2 h1, beq_eq_false_iff_ne.2 h4, beq_eq_false_iff_ne.2 h5, beq_eq_false_iff_ne.2 h6, beq_eq_false_iff_ne.2 h7, beq_eq_false_iff_ne.2 h8, beq_eq_false_iff_ne.2 h9, beq_eq_false_iff_ne.2 h0, decide_eq_false h1, decide_eq_false h4, decide_eq_false h5, decide_eq_false h6, decide_eq_false h7, decide_eq_false h8, decide_eq_false h9, decide_eq_false h0, cond_false]
    decide
theorem step_word {t : Key} (h : wordL.contains t = false) : stepI t = 0 := by
  have hf : ∀ s : Key, wordL.contains s = true → (t == s) = false := fun s hs => beq_eq_false_iff_ne.2 fun q => by rw [q, hs] at h; cases h
  unfold stepI plainI
  rw [hf _ (by decide), hf _ (by decide), hf _ (by decide), hf _ (by decide), hf _ (by decide), hf _ (by decide), hf _ (by decide), hf _ (by decide)]
  rfl
theorem plain_ge (t : Key) : 0 ≤ plainI t ∧ plainI t ≤ 9 := by
  unfold plainI
  cases t == [114, 101, 116, 117, 114, 110] <;> cases t == [110, 101, 101, 100] <;> cases t == [110, 111, 116, 101] <;> decide
theorem plain_form {t : Key} : 0 < plainI t → plainI t = 6 ∨ plainI t = 7 ∨ plainI t = 9 := by
  unfold plainI
  cases t == [114, 101, 116, 117, 114, 110] <;> cases t == [110, 101, 101, 100] <;> cases t == [110, 111, 116, 101] <;> decide
theorem step_other {σ : St} (hn : ∀ t, σ.now ≠ .fixed t) : pickI stepW (.ok σ) = 0 := by
  have hs := fun s => stands_other s σ hn
  have e : stepW = [(1, [108, 101, 116]), (2, []), (3, []), (4, [105, 102]), (5, [119, 104, 105, 108, 101]), (6, [114, 101, 116, 117, 114, 110]), (7, [110, 101, 101, 100]), (8, [112, 97, 121]), (9, [110, 111, 116, 101]), (10, [97, 115, 107])] := by decide
  rw [e]
  simp only [pickI, hs]
  decide
theorem step_here {σ : St} (hn : ∀ t, σ.now ≠ .name t) : Kn stepM (.ok σ) (fun n => (if pickI stepW (.ok σ) = 0 then wrongT else bnd nextT fun _ => if pickI stepW (.ok σ) = 4 then ifM n else if pickI stepW (.ok σ) = 5 then whileM n else if pickI stepW (.ok σ) = 1 then letM n else if pickI stepW (.ok σ) = 10 then askM n else if pickI stepW (.ok σ) = 8 then payM n else oneM n (pickI stepW (.ok σ)))) (.ok σ) :=
  ((Kn.here (F := stepM) (S := .ok σ)).succ.at (G' := wordM) fun n σ' e => by
    injection e with e
    subst e
    cases h : σ.now with
    | name s => exact absurd h (hn s)
    | num m => simp only [stepM, h]
    | none => simp only [stepM, h]
    | fin => simp only [stepM, h]
    | fixed s => simp only [stepM, h]).succ.to wordM_succ |>.step (Rv.of (rel_pick stepW (.ok σ)))
set_option maxRecDepth 8000 in
set_option maxHeartbeats 3200000 in
theorem stmt_name {m : Nat} (text : Key) (c : C4) (b : Nat) (HB : ∀ S, need S < m → Meth Tryd.prog (PdX text c b) (fun k => k = b) 35 [ptr b] S (BlP blockM S)) (σ : St) (hm : need (.ok σ) ≤ m) (s : Key) (hn : σ.now = .name s) (hk : tokK σ.now = 110) : Meth Tryd.prog (PdX text c b) (fun k => k = b) 51 [ptr b] (.ok σ) (StP stepM (.ok σ)) := by
  refine ⟨by kernel_rfl, fun wO R _ => ?_⟩
  have M := pd_begin R
  have kn := (Kn.here (F := stepM) (S := .ok σ)).succ.at (G' := gift) fun n σ' e => by injection e with e; subst e; simp only [stepM, hn]
  refine sw_fn Tryd.func51 rfl 167 Tryd.ntmps51 rfl fun A F => ?_
  refine sw_seq ?_
  refine sw_reg ?_
  refine sw_alloc F M [.int .i64 0, .string ⟨#[]⟩, .string ⟨#[]⟩, .string ⟨#[]⟩, .int .i64 0, .slice none 0 0, .slice none 0 0, .slice none 0 0] ⟨rfl, rfl, rfl⟩ (by kernel_rfl) rfl fun x1 A w F M => ?_
  refine sw_end ?_
  show Code.wp _ _ _ _ _
  refine sw_seq ?_
  refine sw_reg ?_
  refine sw_build F _ [.int .i64 0, .string ⟨#[]⟩, .string ⟨#[]⟩, .string ⟨#[]⟩, .int .i64 0, .slice none 0 0, .slice none 0 0, .slice none 0 0] ⟨rfl, rfl, rfl⟩ rfl (by kernel_rfl) rfl fun A F => ?_
  refine sw_alloc F M [.int .i64 0, .string ⟨#[]⟩, .string ⟨#[]⟩, .string ⟨#[]⟩, .int .i64 0, .slice none 0 0, .slice none 0 0, .slice none 0 0] ⟨rfl, rfl, rfl⟩ (by kernel_rfl) rfl fun x2 A w F M => ?_
  refine sw_setAll F M 0 ⟨rfl, rfl, rfl⟩ rfl rfl rfl (by kernel_rfl) rfl rfl fun w M => ?_
  simp only [List.set_cons_zero, List.set_cons_succ] at M
  refine sw_end ?_
  show Code.wp _ _ _ _ _
  refine sw_seq ?_
  refine sw_reg ?_
  refine sw_move F ⟨rfl, rfl, rfl⟩ rfl rfl fun A F => ?_
  refine sw_nil F ⟨rfl, rfl, rfl⟩ rfl rfl fun A F => ?_
  refine sw_fld F 2 ⟨rfl, rfl, rfl⟩ rfl (by kernel_rfl) rfl rfl fun A F => ?_
  obtain ⟨at0, kd0, tx0, n0, lv0, er0, kb0, hr0⟩ := M.st.cells
  obtain rfl : kd0 = 110 := hr0.1.trans hk
  refine sw_rng F (tok_range kb0) ⟨rfl, rfl, rfl⟩ rfl (by kernel_rfl) (by kernel_rfl) rfl fun A F => ?_
  refine sw_alloc F M [.int .u8 0, .string ⟨#[]⟩, .int .i64 0] ⟨rfl, rfl, rfl⟩ (by kernel_rfl) rfl fun x3 A w F M => ?_
  refine sw_setAll F M 0 ⟨rfl, rfl, rfl⟩ rfl rfl rfl (by kernel_rfl) rfl rfl fun w M => ?_
  simp only [List.set_cons_zero, List.set_cons_succ] at M
  refine sw_end ?_
  show Code.wp _ _ _ _ _
  refine sw_seq ?_
  refine wp_block ?_
  refine sw_seq ?_
  refine sw_reg ?_
  refine sw_fld F 0 ⟨rfl, rfl, rfl⟩ rfl (by kernel_rfl) rfl rfl fun A F => ?_
  refine sw_cell F M 0 ⟨rfl, rfl, rfl⟩ rfl rfl rfl (by kernel_rfl) rfl fun A F => ?_
  refine sw_eql F ⟨rfl, rfl, rfl⟩ rfl rfl rfl fun A F => ?_
  refine sw_asg F ⟨rfl, rfl, rfl⟩ rfl rfl fun A F => ?_
  refine sw_end ?_
  show Code.wp _ _ _ _ _
  refine sw_true F rfl ?_
  refine sw_seq ?_
  refine sw_reg ?_
  refine sw_fld F 0 ⟨rfl, rfl, rfl⟩ rfl (by kernel_rfl) rfl rfl fun A F => ?_
  refine sw_set F M 1 ⟨rfl, rfl, rfl⟩ rfl rfl rfl (by kernel_rfl) rfl rfl rfl fun w M => ?_
  simp only [List.set_cons_zero, List.set_cons_succ] at M
  refine sw_end ?_
  show Code.wp _ _ _ _ _
  refine sw_seq ?_
  refine sw_reg ?_
  refine sw_move F ⟨rfl, rfl, rfl⟩ rfl rfl fun A F => ?_
  refine sw_call0 (rname_m text c b (.ok σ)) F M ⟨rfl, rfl, rfl⟩ rfl rfl ?_
  rintro _ S4 A w ⟨_, s6, rfl, h5⟩ F M
  replace kn := kn.step h5
  refine sw_fld F 1 ⟨rfl, rfl, rfl⟩ rfl (by kernel_rfl) rfl rfl fun A F => ?_
  refine sw_set F M 1 ⟨rfl, rfl, rfl⟩ rfl rfl rfl (by kernel_rfl) rfl rfl rfl fun w M => ?_
  simp only [List.set_cons_zero, List.set_cons_succ] at M
  refine sw_end ?_
  show Code.wp _ _ _ _ _
  refine sw_seq ?_
  refine sw_reg ?_
  refine sw_move F ⟨rfl, rfl, rfl⟩ rfl rfl fun A F => ?_
  refine sw_call0 (ris_m [91] text c b S4) F M ⟨rfl, rfl, rfl⟩ rfl rfl ?_
  rintro _ _ A w ⟨_, rfl, rfl⟩ F M
  replace kn := kn.step (Rv.of (rel_is [91] S4))
  refine sw_asg F ⟨rfl, rfl, rfl⟩ rfl rfl fun A F => ?_
  refine sw_end ?_
  show Code.wp _ _ _ _ _
  refine sw_seq ?_
  refine sw_seq ?_
  refine sw_reg ?_
  refine sw_move F ⟨rfl, rfl, rfl⟩ rfl rfl fun A F => ?_
  refine sw_end ?_
  show Code.wp _ _ _ _ _
  refine sw_cond F rfl (fun hc7 => ?_) (fun hc7 => ?_)
  · skip
    replace kn := kn.ifT_true hc7
    refine sw_seq ?_
    refine sw_reg ?_
    refine sw_fld F 0 ⟨rfl, rfl, rfl⟩ rfl (by kernel_rfl) rfl rfl fun A F => ?_
    refine sw_set F M 1 ⟨rfl, rfl, rfl⟩ rfl rfl rfl (by kernel_rfl) rfl rfl rfl fun w M => ?_
    simp only [List.set_cons_zero, List.set_cons_succ] at M
    refine sw_end ?_
    show Code.wp _ _ _ _ _
    refine sw_seq ?_
    refine sw_reg ?_
    refine sw_move F ⟨rfl, rfl, rfl⟩ rfl rfl fun A F => ?_
    refine sw_call0 (ropen_m [91] text c b S4) F M ⟨rfl, rfl, rfl⟩ rfl rfl ?_
    rintro _ S8 A w ⟨_, h9⟩ F M
    refine sw_end ?_
    show Code.wp _ _ _ _ _
    refine sw_seq ?_
    refine sw_reg ?_
    refine sw_move F ⟨rfl, rfl, rfl⟩ rfl rfl fun A F => ?_
    refine sw_call (rexpr_m text c b S8 1 (by decide) (by decide)) F M ⟨rfl, rfl, rfl⟩ rfl rfl ?_
    rintro _ _ S10 A w ⟨op11, m11, s11, la11, lc11, es11, rfl, rfl, h11⟩ F M
    refine sw_alloc F M [.int .i64 0, .int .i64 0, .string ⟨#[]⟩, .slice none 0 0] ⟨rfl, rfl, rfl⟩ (by kernel_rfl) rfl fun x13 A w F M => ?_
    refine sw_setAll F M 0 ⟨rfl, rfl, rfl⟩ rfl rfl rfl (by kernel_rfl) rfl rfl fun w M => ?_
    simp only [List.set_cons_zero, List.set_cons_succ] at M
    refine sw_end ?_
    show Code.wp _ _ _ _ _
    refine sw_seq ?_
    refine sw_reg ?_
    refine sw_fld F 5 ⟨rfl, rfl, rfl⟩ rfl (by kernel_rfl) rfl rfl fun A F => ?_
    replace M := M.nilrow 73 4
    refine sw_cell F M 4 ⟨rfl, rfl, rfl⟩ rfl rfl rfl (by kernel_rfl) rfl fun A F => ?_
    refine sw_all F M 1 ⟨rfl, rfl, rfl⟩ rfl rfl (by kernel_rfl) (by kernel_rfl) rfl fun A F => ?_
    refine sw_app1 (z := .agg #[.int .i64 0, .int .i64 0, .string ⟨#[]⟩, .slice none 0 0]) F M 0 2 ⟨rfl, rfl, rfl⟩ ⟨rfl, rfl, rfl⟩ rfl rfl (fun _ => rfl) rfl rfl (by kernel_rfl) (by kernel_rfl) rfl rfl (by kernel_rfl) rfl (by simp) rfl fun la15 lc16 _ A w F M => ?_
    simp only [List.set_cons_zero, List.set_cons_succ] at M
    refine sw_fld F 5 ⟨rfl, rfl, rfl⟩ rfl (by kernel_rfl) rfl rfl fun A F => ?_
    refine sw_set F M 4 ⟨rfl, rfl, rfl⟩ rfl rfl rfl (by kernel_rfl) rfl rfl rfl fun w M => ?_
    simp only [List.set_cons_zero, List.set_cons_succ] at M
    refine sw_end ?_
    show Code.wp _ _ _ _ _
    refine sw_reg ?_
    refine sw_move F ⟨rfl, rfl, rfl⟩ rfl rfl fun A F => ?_
    refine sw_call0 (rshut_m [93] text c b S10) F M ⟨rfl, rfl, rfl⟩ rfl rfl ?_
    rintro _ S17 A w ⟨_, h18⟩ F M
    replace kn := kn.step (inner_of h9 h11 h18)
    refine sw_end ?_
    show Code.wp _ _ _ _ _
    refine sw_reg ?_
    refine sw_move F ⟨rfl, rfl, rfl⟩ rfl rfl fun A F => ?_
    refine sw_call0 (rneed_m [61] text c b S17) F M ⟨rfl, rfl, rfl⟩ rfl rfl ?_
    rintro _ S19 A w ⟨_, h20⟩ F M
    replace kn := kn.step h20
    refine sw_end ?_
    show Code.wp _ _ _ _ _
    refine sw_seq ?_
    refine sw_reg ?_
    refine sw_move F ⟨rfl, rfl, rfl⟩ rfl rfl fun A F => ?_
    refine sw_call (rexpr_m text c b S19 1 (by decide) (by decide)) F M ⟨rfl, rfl, rfl⟩ rfl rfl ?_
    rintro _ _ S21 A w ⟨op22, m22, s22, la22, lc22, es22, rfl, rfl, h22⟩ F M
    replace kn := kn.step (show Rv (fun n => exprT n 1) _ _ _ from h22)
    refine sw_alloc F M [.int .i64 0, .int .i64 0, .string ⟨#[]⟩, .slice none 0 0] ⟨rfl, rfl, rfl⟩ (by kernel_rfl) rfl fun x24 A w F M => ?_
    refine sw_setAll F M 0 ⟨rfl, rfl, rfl⟩ rfl rfl rfl (by kernel_rfl) rfl rfl fun w M => ?_
    simp only [List.set_cons_zero, List.set_cons_succ] at M
    refine sw_end ?_
    show Code.wp _ _ _ _ _
    refine sw_seq ?_
    refine sw_reg ?_
    refine sw_fld F 5 ⟨rfl, rfl, rfl⟩ rfl (by kernel_rfl) rfl rfl fun A F => ?_
    refine sw_cell F M 6 ⟨rfl, rfl, rfl⟩ rfl rfl rfl (by kernel_rfl) rfl fun A F => ?_
    refine sw_all F M 0 ⟨rfl, rfl, rfl⟩ rfl rfl (by kernel_rfl) (by kernel_rfl) rfl fun A F => ?_
    refine sw_app1 (z := .agg #[.int .i64 0, .int .i64 0, .string ⟨#[]⟩, .slice none 0 0]) F M 2 1 ⟨rfl, rfl, rfl⟩ ⟨rfl, rfl, rfl⟩ rfl rfl (fun _ => rfl) rfl rfl (by kernel_rfl) (by kernel_rfl) rfl rfl (by kernel_rfl) rfl (by simp) rfl fun la25 lc26 _ A w F M => ?_
    simp only [List.set_cons_zero, List.set_cons_succ] at M
    refine sw_fld F 5 ⟨rfl, rfl, rfl⟩ rfl (by kernel_rfl) rfl rfl fun A F => ?_
    refine sw_set F M 6 ⟨rfl, rfl, rfl⟩ rfl rfl rfl (by kernel_rfl) rfl rfl rfl fun w M => ?_
    simp only [List.set_cons_zero, List.set_cons_succ] at M
    refine sw_end ?_
    show Code.wp _ _ _ _ _
    refine sw_seq ?_
    refine sw_reg ?_
    refine sw_move F ⟨rfl, rfl, rfl⟩ rfl rfl fun A F => ?_
    refine sw_call0 (rneed_m [59] text c b S21) F M ⟨rfl, rfl, rfl⟩ rfl rfl ?_
    rintro _ S27 A w ⟨_, h28⟩ F M
    replace kn := kn.step h28
    refine sw_end ?_
    show Code.wp _ _ _ _ _
    refine sw_seq ?_
    refine sw_reg ?_
    refine sw_all F M 6 ⟨rfl, rfl, rfl⟩ rfl rfl (by kernel_rfl) (by kernel_rfl) rfl fun A F => ?_
    refine sw_setAll F M 7 ⟨rfl, rfl, rfl⟩ rfl rfl rfl (by kernel_rfl) rfl rfl fun w M => ?_
    simp only [List.set_cons_zero, List.set_cons_succ] at M
    refine sw_end ?_
    show Code.wp _ _ _ _ _
    refine wp_ret ?_
    repeat (first | refine then_ret ?_ | refine block_ret ?_)
    exact sw_retbox F M 7 Tryd.results51 rfl rfl (by kernel_rfl) (by kernel_rfl) ⟨_, Sm.flds { k := 3, nm := s6, al := [], ca := [], ty := 0, ea := la25, ec := lc26, es := ([] ++ [exF op11 m11 s11 la11 lc11 es11] ++ [exF op22 m22 s22 la22 lc22 es22]), ba := none, bc := 0, bs := [], la := none, lc := 0, ls := [] }, S27, rfl, M.but, M.st, lie_cons (lie_i (n := 3) (by omega)) (lie_cons (trivial) (lie_cons (trivial) (lie_cons (trivial) (lie_cons (lie_i (n := 0) (by omega)) (lie_cons (M.mem.rowlie 2 rfl) (lie_cons (lies_nil _ _) (lie_cons (lies_nil _ _) (lie_nil _ _)))))))), { k := 3, nm := s6, al := [], ca := [], ty := 0, ea := la25, ec := lc26, es := ([] ++ [exF op11 m11 s11 la11 lc11 es11] ++ [exF op22 m22 s22 la22 lc22 es22]), ba := none, bc := 0, bs := [], la := none, lc := 0, ls := [] }, rfl, rfl, kn.fin⟩
  · skip
    replace kn := kn.ifT_false hc7
    refine wp_skip ?_
    show Code.wp _ _ _ _ _
    refine sw_reg ?_
    refine sw_move F ⟨rfl, rfl, rfl⟩ rfl rfl fun A F => ?_
    refine sw_call0 (rneed_m [61] text c b S4) F M ⟨rfl, rfl, rfl⟩ rfl rfl ?_
    rintro _ S29 A w ⟨_, h30⟩ F M
    replace kn := kn.step h30
    refine sw_end ?_
    show Code.wp _ _ _ _ _
    refine sw_seq ?_
    refine sw_reg ?_
    refine sw_move F ⟨rfl, rfl, rfl⟩ rfl rfl fun A F => ?_
    refine sw_call (rexpr_m text c b S29 1 (by decide) (by decide)) F M ⟨rfl, rfl, rfl⟩ rfl rfl ?_
    rintro _ _ S31 A w ⟨op32, m32, s32, la32, lc32, es32, rfl, rfl, h32⟩ F M
    replace kn := kn.step (show Rv (fun n => exprT n 1) _ _ _ from h32)
    refine sw_alloc F M [.int .i64 0, .int .i64 0, .string ⟨#[]⟩, .slice none 0 0] ⟨rfl, rfl, rfl⟩ (by kernel_rfl) rfl fun x34 A w F M => ?_
    refine sw_setAll F M 0 ⟨rfl, rfl, rfl⟩ rfl rfl rfl (by kernel_rfl) rfl rfl fun w M => ?_
    simp only [List.set_cons_zero, List.set_cons_succ] at M
    refine sw_end ?_
    show Code.wp _ _ _ _ _
    refine sw_seq ?_
    refine sw_reg ?_
    refine sw_fld F 5 ⟨rfl, rfl, rfl⟩ rfl (by kernel_rfl) rfl rfl fun A F => ?_
    replace M := M.nilrow 73 4
    refine sw_cell F M 4 ⟨rfl, rfl, rfl⟩ rfl rfl rfl (by kernel_rfl) rfl fun A F => ?_
    refine sw_all F M 1 ⟨rfl, rfl, rfl⟩ rfl rfl (by kernel_rfl) (by kernel_rfl) rfl fun A F => ?_
    refine sw_app1 (z := .agg #[.int .i64 0, .int .i64 0, .string ⟨#[]⟩, .slice none 0 0]) F M 0 2 ⟨rfl, rfl, rfl⟩ ⟨rfl, rfl, rfl⟩ rfl rfl (fun _ => rfl) rfl rfl (by kernel_rfl) (by kernel_rfl) rfl rfl (by kernel_rfl) rfl (by simp) rfl fun la36 lc37 _ A w F M => ?_
    simp only [List.set_cons_zero, List.set_cons_succ] at M
    refine sw_fld F 5 ⟨rfl, rfl, rfl⟩ rfl (by kernel_rfl) rfl rfl fun A F => ?_
    refine sw_set F M 4 ⟨rfl, rfl, rfl⟩ rfl rfl rfl (by kernel_rfl) rfl rfl rfl fun w M => ?_
    simp only [List.set_cons_zero, List.set_cons_succ] at M
    refine sw_end ?_
    show Code.wp _ _ _ _ _
    refine sw_seq ?_
    refine sw_reg ?_
    refine sw_move F ⟨rfl, rfl, rfl⟩ rfl rfl fun A F => ?_
    refine sw_call0 (rneed_m [59] text c b S31) F M ⟨rfl, rfl, rfl⟩ rfl rfl ?_
    rintro _ S38 A w ⟨_, h39⟩ F M
    replace kn := kn.step h39
    refine sw_end ?_
    show Code.wp _ _ _ _ _
    refine sw_seq ?_
    refine sw_reg ?_
    refine sw_all F M 4 ⟨rfl, rfl, rfl⟩ rfl rfl (by kernel_rfl) (by kernel_rfl) rfl fun A F => ?_
    refine sw_setAll F M 5 ⟨rfl, rfl, rfl⟩ rfl rfl rfl (by kernel_rfl) rfl rfl fun w M => ?_
    simp only [List.set_cons_zero, List.set_cons_succ] at M
    refine sw_end ?_
    show Code.wp _ _ _ _ _
    refine wp_ret ?_
    repeat (first | refine then_ret ?_ | refine block_ret ?_)
    exact sw_retbox F M 5 Tryd.results51 rfl rfl (by kernel_rfl) (by kernel_rfl) ⟨_, Sm.flds { k := 2, nm := s6, al := [], ca := [], ty := 0, ea := la36, ec := lc37, es := ([] ++ [exF op32 m32 s32 la32 lc32 es32]), ba := none, bc := 0, bs := [], la := none, lc := 0, ls := [] }, S38, rfl, M.but, M.st, lie_cons (lie_i (n := 2) (by omega)) (lie_cons (trivial) (lie_cons (trivial) (lie_cons (trivial) (lie_cons (lie_i (n := 0) (by omega)) (lie_cons (M.mem.rowlie 0 rfl) (lie_cons (lies_nil _ _) (lie_cons (lies_nil _ _) (lie_nil _ _)))))))), { k := 2, nm := s6, al := [], ca := [], ty := 0, ea := la36, ec := lc37, es := ([] ++ [exF op32 m32 s32 la32 lc32 es32]), ba := none, bc := 0, bs := [], la := none, lc := 0, ls := [] }, rfl, rfl, kn.fin⟩
set_option maxRecDepth 8000 in
set_option maxHeartbeats 3200000 in
theorem stmt_fin {m : Nat} (text : Key) (c : C4) (b : Nat) (HB : ∀ S, need S < m → Meth Tryd.prog (PdX text c b) (fun k => k = b) 35 [ptr b] S (BlP blockM S)) (σ : St) (hm : need (.ok σ) ≤ m) (hs : ∀ t, σ.now ≠ .name t) (hp : pickI stepW (.ok σ) = 0) (hk : tokK σ.now = 101) : Meth Tryd.prog (PdX text c b) (fun k => k = b) 51 [ptr b] (.ok σ) (StP stepM (.ok σ)) := by
  refine ⟨by kernel_rfl, fun wO R _ => ?_⟩
  have M := pd_begin R
  have kn := (step_here hs).ite_pos hp
  refine sw_fn Tryd.func51 rfl 167 Tryd.ntmps51 rfl fun A F => ?_
  refine sw_seq ?_
  refine sw_reg ?_
  refine sw_alloc F M [.int .i64 0, .string ⟨#[]⟩, .string ⟨#[]⟩, .string ⟨#[]⟩, .int .i64 0, .slice none 0 0, .slice none 0 0, .slice none 0 0] ⟨rfl, rfl, rfl⟩ (by kernel_rfl) rfl fun x1 A w F M => ?_
  refine sw_end ?_
  show Code.wp _ _ _ _ _
  refine sw_seq ?_
  refine sw_reg ?_
  refine sw_build F _ [.int .i64 0, .string ⟨#[]⟩, .string ⟨#[]⟩, .string ⟨#[]⟩, .int .i64 0, .slice none 0 0, .slice none 0 0, .slice none 0 0] ⟨rfl, rfl, rfl⟩ rfl (by kernel_rfl) rfl fun A F => ?_
  refine sw_alloc F M [.int .i64 0, .string ⟨#[]⟩, .string ⟨#[]⟩, .string ⟨#[]⟩, .int .i64 0, .slice none 0 0, .slice none 0 0, .slice none 0 0] ⟨rfl, rfl, rfl⟩ (by kernel_rfl) rfl fun x2 A w F M => ?_
  refine sw_setAll F M 0 ⟨rfl, rfl, rfl⟩ rfl rfl rfl (by kernel_rfl) rfl rfl fun w M => ?_
  simp only [List.set_cons_zero, List.set_cons_succ] at M
  refine sw_end ?_
  show Code.wp _ _ _ _ _
  refine sw_seq ?_
  refine sw_reg ?_
  refine sw_move F ⟨rfl, rfl, rfl⟩ rfl rfl fun A F => ?_
  refine sw_nil F ⟨rfl, rfl, rfl⟩ rfl rfl fun A F => ?_
  refine sw_fld F 2 ⟨rfl, rfl, rfl⟩ rfl (by kernel_rfl) rfl rfl fun A F => ?_
  obtain ⟨at0, kd0, tx0, n0, lv0, er0, kb0, hr0⟩ := M.st.cells
  obtain rfl : kd0 = 101 := hr0.1.trans hk
  refine sw_rng F (tok_range kb0) ⟨rfl, rfl, rfl⟩ rfl (by kernel_rfl) (by kernel_rfl) rfl fun A F => ?_
  refine sw_alloc F M [.int .u8 0, .string ⟨#[]⟩, .int .i64 0] ⟨rfl, rfl, rfl⟩ (by kernel_rfl) rfl fun x3 A w F M => ?_
  refine sw_setAll F M 0 ⟨rfl, rfl, rfl⟩ rfl rfl rfl (by kernel_rfl) rfl rfl fun w M => ?_
  simp only [List.set_cons_zero, List.set_cons_succ] at M
  refine sw_end ?_
  show Code.wp _ _ _ _ _
  refine sw_seq ?_
  refine wp_block ?_
  refine sw_seq ?_
  refine sw_reg ?_
  refine sw_fld F 0 ⟨rfl, rfl, rfl⟩ rfl (by kernel_rfl) rfl rfl fun A F => ?_
  refine sw_cell F M 0 ⟨rfl, rfl, rfl⟩ rfl rfl rfl (by kernel_rfl) rfl fun A F => ?_
  refine sw_eql F ⟨rfl, rfl, rfl⟩ rfl rfl rfl fun A F => ?_
  refine sw_asg F ⟨rfl, rfl, rfl⟩ rfl rfl fun A F => ?_
  refine sw_end ?_
  show Code.wp _ _ _ _ _
  refine sw_false F rfl ?_
  refine sw_seq ?_
  refine sw_reg ?_
  refine sw_fld F 0 ⟨rfl, rfl, rfl⟩ rfl (by kernel_rfl) rfl rfl fun A F => ?_
  refine sw_cell F M 0 ⟨rfl, rfl, rfl⟩ rfl rfl rfl (by kernel_rfl) rfl fun A F => ?_
  refine sw_eql F ⟨rfl, rfl, rfl⟩ rfl rfl rfl fun A F => ?_
  refine sw_move F ⟨rfl, rfl, rfl⟩ rfl rfl fun A F => ?_
  refine sw_off F 3 rfl rfl rfl rfl rfl rfl rfl fun A F => ?_
  refine sw_off F 3 rfl rfl rfl rfl rfl rfl rfl fun A F => ?_
  refine sw_off F 3 rfl rfl rfl rfl rfl rfl rfl fun A F => ?_
  refine sw_pickF F ⟨rfl, rfl, rfl⟩ rfl rfl rfl fun A F => ?_
  refine sw_asg F ⟨rfl, rfl, rfl⟩ rfl rfl fun A F => ?_
  refine sw_end ?_
  show Code.wp _ _ _ _ _
  refine sw_false F rfl ?_
  refine sw_seq ?_
  refine sw_reg ?_
  refine sw_fld F 0 ⟨rfl, rfl, rfl⟩ rfl (by kernel_rfl) rfl rfl fun A F => ?_
  refine sw_cell F M 0 ⟨rfl, rfl, rfl⟩ rfl rfl rfl (by kernel_rfl) rfl fun A F => ?_
  refine sw_eql F ⟨rfl, rfl, rfl⟩ rfl rfl rfl fun A F => ?_
  refine sw_move F ⟨rfl, rfl, rfl⟩ rfl rfl fun A F => ?_
  refine sw_off F 3 rfl rfl rfl rfl rfl rfl rfl fun A F => ?_
  refine sw_off F 3 rfl rfl rfl rfl rfl rfl rfl fun A F => ?_
  refine sw_off F 3 rfl rfl rfl rfl rfl rfl rfl fun A F => ?_
  refine sw_off F 3 rfl rfl rfl rfl rfl rfl rfl fun A F => ?_
  refine sw_offU F 7 rfl rfl rfl rfl rfl rfl fun A F => ?_
  refine sw_offU F 7 rfl rfl rfl rfl rfl rfl fun A F => ?_
  refine sw_offU F 7 rfl rfl rfl rfl rfl rfl fun A F => ?_
  refine sw_off F 3 rfl rfl rfl rfl rfl rfl rfl fun A F => ?_
  refine sw_pickF F ⟨rfl, rfl, rfl⟩ rfl rfl rfl fun A F => ?_
  refine sw_asg F ⟨rfl, rfl, rfl⟩ rfl rfl fun A F => ?_
  refine sw_end ?_
  show Code.wp _ _ _ _ _
  refine sw_false F rfl ?_
  refine sw_seq ?_
  refine sw_reg ?_
  refine sw_fld F 0 ⟨rfl, rfl, rfl⟩ rfl (by kernel_rfl) rfl rfl fun A F => ?_
  refine sw_cell F M 0 ⟨rfl, rfl, rfl⟩ rfl rfl rfl (by kernel_rfl) rfl fun A F => ?_
  refine sw_eql F ⟨rfl, rfl, rfl⟩ rfl rfl rfl fun A F => ?_
  refine sw_move F ⟨rfl, rfl, rfl⟩ rfl rfl fun A F => ?_
  refine sw_off F 3 rfl rfl rfl rfl rfl rfl rfl fun A F => ?_
  refine sw_off F 3 rfl rfl rfl rfl rfl rfl rfl fun A F => ?_
  refine sw_off F 3 rfl rfl rfl rfl rfl rfl rfl fun A F => ?_
  refine sw_pickF F ⟨rfl, rfl, rfl⟩ rfl rfl rfl fun A F => ?_
  refine sw_asg F ⟨rfl, rfl, rfl⟩ rfl rfl fun A F => ?_
  refine sw_end ?_
  show Code.wp _ _ _ _ _
  refine sw_false F rfl ?_
  refine sw_seq ?_
  refine sw_reg ?_
  refine sw_fld F 0 ⟨rfl, rfl, rfl⟩ rfl (by kernel_rfl) rfl rfl fun A F => ?_
  refine sw_cell F M 0 ⟨rfl, rfl, rfl⟩ rfl rfl rfl (by kernel_rfl) rfl fun A F => ?_
  refine sw_eql F ⟨rfl, rfl, rfl⟩ rfl rfl rfl fun A F => ?_
  refine sw_move F ⟨rfl, rfl, rfl⟩ rfl rfl fun A F => ?_
  refine sw_off F 3 rfl rfl rfl rfl rfl rfl rfl fun A F => ?_
  refine sw_off F 3 rfl rfl rfl rfl rfl rfl rfl fun A F => ?_
  refine sw_off F 3 rfl rfl rfl rfl rfl rfl rfl fun A F => ?_
  refine sw_pickF F ⟨rfl, rfl, rfl⟩ rfl rfl rfl fun A F => ?_
  refine sw_asg F ⟨rfl, rfl, rfl⟩ rfl rfl fun A F => ?_
  refine sw_end ?_
  show Code.wp _ _ _ _ _
  refine sw_false F rfl ?_
  refine sw_seq ?_
  refine sw_reg ?_
  refine sw_fld F 0 ⟨rfl, rfl, rfl⟩ rfl (by kernel_rfl) rfl rfl fun A F => ?_
  refine sw_cell F M 0 ⟨rfl, rfl, rfl⟩ rfl rfl rfl (by kernel_rfl) rfl fun A F => ?_
  refine sw_eql F ⟨rfl, rfl, rfl⟩ rfl rfl rfl fun A F => ?_
  refine sw_move F ⟨rfl, rfl, rfl⟩ rfl rfl fun A F => ?_
  refine sw_off F 3 rfl rfl rfl rfl rfl rfl rfl fun A F => ?_
  refine sw_off F 3 rfl rfl rfl rfl rfl rfl rfl fun A F => ?_
  refine sw_off F 3 rfl rfl rfl rfl rfl rfl rfl fun A F => ?_
  refine sw_off F 3 rfl rfl rfl rfl rfl rfl rfl fun A F => ?_
  refine sw_pickF F ⟨rfl, rfl, rfl⟩ rfl rfl rfl fun A F => ?_
  refine sw_asg F ⟨rfl, rfl, rfl⟩ rfl rfl fun A F => ?_
  refine sw_end ?_
  show Code.wp _ _ _ _ _
  refine sw_false F rfl ?_
  refine sw_seq ?_
  refine sw_reg ?_
  refine sw_move F ⟨rfl, rfl, rfl⟩ rfl rfl fun A F => ?_
  refine sw_call0 (rwrong_m text c b (.ok σ)) F M ⟨rfl, rfl, rfl⟩ rfl rfl ?_
  rintro _ S4 A w ⟨_, h5⟩ F M
  refine sw_end ?_
  show Code.wp _ _ _ _ _
  refine sw_seq ?_
  refine sw_reg ?_
  refine sw_all F M 1 ⟨rfl, rfl, rfl⟩ rfl rfl (by kernel_rfl) (by kernel_rfl) rfl fun A F => ?_
  refine sw_setAll F M 2 ⟨rfl, rfl, rfl⟩ rfl rfl rfl (by kernel_rfl) rfl rfl fun w M => ?_
  simp only [List.set_cons_zero, List.set_cons_succ] at M
  refine sw_end ?_
  show Code.wp _ _ _ _ _
  refine wp_ret ?_
  repeat (first | refine then_ret ?_ | refine block_ret ?_)
  exact sw_retbox F M 2 Tryd.results51 rfl rfl (by kernel_rfl) (by kernel_rfl) ⟨_, Sm.flds { k := 0, nm := [], al := [], ca := [], ty := 0, ea := none, ec := 0, es := [], ba := none, bc := 0, bs := [], la := none, lc := 0, ls := [] }, S4, rfl, M.but, M.st, lie_cons (lie_i (n := 0) (by omega)) (lie_cons (trivial) (lie_cons (trivial) (lie_cons (trivial) (lie_cons (lie_i (n := 0) (by omega)) (lie_cons (lies_nil _ _) (lie_cons (lies_nil _ _) (lie_cons (lies_nil _ _) (lie_nil _ _)))))))), { k := 0, nm := [], al := [], ca := [], ty := 0, ea := none, ec := 0, es := [], ba := none, bc := 0, bs := [], la := none, lc := 0, ls := [] }, rfl, rfl, kn.last (wrong_any h5)⟩
set_option maxRecDepth 8000 in
set_option maxHeartbeats 3200000 in
theorem stmt_none {m : Nat} (text : Key) (c : C4) (b : Nat) (HB : ∀ S, need S < m → Meth Tryd.prog (PdX text c b) (fun k => k = b) 35 [ptr b] S (BlP blockM S)) (σ : St) (hm : need (.ok σ) ≤ m) (hs : ∀ t, σ.now ≠ .name t) (hp : pickI stepW (.ok σ) = 0) (hk : tokK σ.now = 0) : Meth Tryd.prog (PdX text c b) (fun k => k = b) 51 [ptr b] (.ok σ) (StP stepM (.ok σ)) := by
  refine ⟨by kernel_rfl, fun wO R _ => ?_⟩
  have M := pd_begin R
  have kn := (step_here hs).ite_pos hp
  refine sw_fn Tryd.func51 rfl 167 Tryd.ntmps51 rfl fun A F => ?_
  refine sw_seq ?_
  refine sw_reg ?_
  refine sw_alloc F M [.int .i64 0, .string ⟨#[]⟩, .string ⟨#[]⟩, .string ⟨#[]⟩, .int .i64 0, .slice none 0 0, .slice none 0 0, .slice none 0 0] ⟨rfl, rfl, rfl⟩ (by kernel_rfl) rfl fun x1 A w F M => ?_
  refine sw_end ?_
  show Code.wp _ _ _ _ _
  refine sw_seq ?_
  refine sw_reg ?_
  refine sw_build F _ [.int .i64 0, .string ⟨#[]⟩, .string ⟨#[]⟩, .string ⟨#[]⟩, .int .i64 0, .slice none 0 0, .slice none 0 0, .slice none 0 0] ⟨rfl, rfl, rfl⟩ rfl (by kernel_rfl) rfl fun A F => ?_
  refine sw_alloc F M [.int .i64 0, .string ⟨#[]⟩, .string ⟨#[]⟩, .string ⟨#[]⟩, .int .i64 0, .slice none 0 0, .slice none 0 0, .slice none 0 0] ⟨rfl, rfl, rfl⟩ (by kernel_rfl) rfl fun x2 A w F M => ?_
  refine sw_setAll F M 0 ⟨rfl, rfl, rfl⟩ rfl rfl rfl (by kernel_rfl) rfl rfl fun w M => ?_
  simp only [List.set_cons_zero, List.set_cons_succ] at M
  refine sw_end ?_
  show Code.wp _ _ _ _ _
  refine sw_seq ?_
  refine sw_reg ?_
  refine sw_move F ⟨rfl, rfl, rfl⟩ rfl rfl fun A F => ?_
  refine sw_nil F ⟨rfl, rfl, rfl⟩ rfl rfl fun A F => ?_
  refine sw_fld F 2 ⟨rfl, rfl, rfl⟩ rfl (by kernel_rfl) rfl rfl fun A F => ?_
  obtain ⟨at0, kd0, tx0, n0, lv0, er0, kb0, hr0⟩ := M.st.cells
  obtain rfl : kd0 = 0 := hr0.1.trans hk
  refine sw_rng F (tok_range kb0) ⟨rfl, rfl, rfl⟩ rfl (by kernel_rfl) (by kernel_rfl) rfl fun A F => ?_
  refine sw_alloc F M [.int .u8 0, .string ⟨#[]⟩, .int .i64 0] ⟨rfl, rfl, rfl⟩ (by kernel_rfl) rfl fun x3 A w F M => ?_
  refine sw_setAll F M 0 ⟨rfl, rfl, rfl⟩ rfl rfl rfl (by kernel_rfl) rfl rfl fun w M => ?_
  simp only [List.set_cons_zero, List.set_cons_succ] at M
  refine sw_end ?_
  show Code.wp _ _ _ _ _
  refine sw_seq ?_
  refine wp_block ?_
  refine sw_seq ?_
  refine sw_reg ?_
  refine sw_fld F 0 ⟨rfl, rfl, rfl⟩ rfl (by kernel_rfl) rfl rfl fun A F => ?_
  refine sw_cell F M 0 ⟨rfl, rfl, rfl⟩ rfl rfl rfl (by kernel_rfl) rfl fun A F => ?_
  refine sw_eql F ⟨rfl, rfl, rfl⟩ rfl rfl rfl fun A F => ?_
  refine sw_asg F ⟨rfl, rfl, rfl⟩ rfl rfl fun A F => ?_
  refine sw_end ?_
  show Code.wp _ _ _ _ _
  refine sw_false F rfl ?_
  refine sw_seq ?_
  refine sw_reg ?_
  refine sw_fld F 0 ⟨rfl, rfl, rfl⟩ rfl (by kernel_rfl) rfl rfl fun A F => ?_
  refine sw_cell F M 0 ⟨rfl, rfl, rfl⟩ rfl rfl rfl (by kernel_rfl) rfl fun A F => ?_
  refine sw_eql F ⟨rfl, rfl, rfl⟩ rfl rfl rfl fun A F => ?_
  refine sw_move F ⟨rfl, rfl, rfl⟩ rfl rfl fun A F => ?_
  refine sw_off F 3 rfl rfl rfl rfl rfl rfl rfl fun A F => ?_
  refine sw_off F 3 rfl rfl rfl rfl rfl rfl rfl fun A F => ?_
  refine sw_off F 3 rfl rfl rfl rfl rfl rfl rfl fun A F => ?_
  refine sw_pickF F ⟨rfl, rfl, rfl⟩ rfl rfl rfl fun A F => ?_
  refine sw_asg F ⟨rfl, rfl, rfl⟩ rfl rfl fun A F => ?_
  refine sw_end ?_
  show Code.wp _ _ _ _ _
  refine sw_false F rfl ?_
  refine sw_seq ?_
  refine sw_reg ?_
  refine sw_fld F 0 ⟨rfl, rfl, rfl⟩ rfl (by kernel_rfl) rfl rfl fun A F => ?_
  refine sw_cell F M 0 ⟨rfl, rfl, rfl⟩ rfl rfl rfl (by kernel_rfl) rfl fun A F => ?_
  refine sw_eql F ⟨rfl, rfl, rfl⟩ rfl rfl rfl fun A F => ?_
  refine sw_move F ⟨rfl, rfl, rfl⟩ rfl rfl fun A F => ?_
  refine sw_off F 3 rfl rfl rfl rfl rfl rfl rfl fun A F => ?_
  refine sw_off F 3 rfl rfl rfl rfl rfl rfl rfl fun A F => ?_
  refine sw_off F 3 rfl rfl rfl rfl rfl rfl rfl fun A F => ?_
  refine sw_off F 3 rfl rfl rfl rfl rfl rfl rfl fun A F => ?_
  refine sw_offU F 7 rfl rfl rfl rfl rfl rfl fun A F => ?_
  refine sw_offU F 7 rfl rfl rfl rfl rfl rfl fun A F => ?_
  refine sw_offU F 7 rfl rfl rfl rfl rfl rfl fun A F => ?_
  refine sw_off F 3 rfl rfl rfl rfl rfl rfl rfl fun A F => ?_
  refine sw_pickF F ⟨rfl, rfl, rfl⟩ rfl rfl rfl fun A F => ?_
  refine sw_asg F ⟨rfl, rfl, rfl⟩ rfl rfl fun A F => ?_
  refine sw_end ?_
  show Code.wp _ _ _ _ _
  refine sw_false F rfl ?_
  refine sw_seq ?_
  refine sw_reg ?_
  refine sw_fld F 0 ⟨rfl, rfl, rfl⟩ rfl (by kernel_rfl) rfl rfl fun A F => ?_
  refine sw_cell F M 0 ⟨rfl, rfl, rfl⟩ rfl rfl rfl (by kernel_rfl) rfl fun A F => ?_
  refine sw_eql F ⟨rfl, rfl, rfl⟩ rfl rfl rfl fun A F => ?_
  refine sw_move F ⟨rfl, rfl, rfl⟩ rfl rfl fun A F => ?_
  refine sw_off F 3 rfl rfl rfl rfl rfl rfl rfl fun A F => ?_
  refine sw_off F 3 rfl rfl rfl rfl rfl rfl rfl fun A F => ?_
  refine sw_off F 3 rfl rfl rfl rfl rfl rfl rfl fun A F => ?_
  refine sw_pickF F ⟨rfl, rfl, rfl⟩ rfl rfl rfl fun A F => ?_
  refine sw_asg F ⟨rfl, rfl, rfl⟩ rfl rfl fun A F => ?_
  refine sw_end ?_
  show Code.wp _ _ _ _ _
  refine sw_false F rfl ?_
  refine sw_seq ?_
  refine sw_reg ?_
  refine sw_fld F 0 ⟨rfl, rfl, rfl⟩ rfl (by kernel_rfl) rfl rfl fun A F => ?_
  refine sw_cell F M 0 ⟨rfl, rfl, rfl⟩ rfl rfl rfl (by kernel_rfl) rfl fun A F => ?_
  refine sw_eql F ⟨rfl, rfl, rfl⟩ rfl rfl rfl fun A F => ?_
  refine sw_move F ⟨rfl, rfl, rfl⟩ rfl rfl fun A F => ?_
  refine sw_off F 3 rfl rfl rfl rfl rfl rfl rfl fun A F => ?_
  refine sw_off F 3 rfl rfl rfl rfl rfl rfl rfl fun A F => ?_
  refine sw_off F 3 rfl rfl rfl rfl rfl rfl rfl fun A F => ?_
  refine sw_pickF F ⟨rfl, rfl, rfl⟩ rfl rfl rfl fun A F => ?_
  refine sw_asg F ⟨rfl, rfl, rfl⟩ rfl rfl fun A F => ?_
  refine sw_end ?_
  show Code.wp _ _ _ _ _
  refine sw_false F rfl ?_
  refine sw_seq ?_
  refine sw_reg ?_
  refine sw_fld F 0 ⟨rfl, rfl, rfl⟩ rfl (by kernel_rfl) rfl rfl fun A F => ?_
  refine sw_cell F M 0 ⟨rfl, rfl, rfl⟩ rfl rfl rfl (by kernel_rfl) rfl fun A F => ?_
  refine sw_eql F ⟨rfl, rfl, rfl⟩ rfl rfl rfl fun A F => ?_
  refine sw_move F ⟨rfl, rfl, rfl⟩ rfl rfl fun A F => ?_
  refine sw_off F 3 rfl rfl rfl rfl rfl rfl rfl fun A F => ?_
  refine sw_off F 3 rfl rfl rfl rfl rfl rfl rfl fun A F => ?_
  refine sw_off F 3 rfl rfl rfl rfl rfl rfl rfl fun A F => ?_
  refine sw_off F 3 rfl rfl rfl rfl rfl rfl rfl fun A F => ?_
  refine sw_pickF F ⟨rfl, rfl, rfl⟩ rfl rfl rfl fun A F => ?_
  refine sw_asg F ⟨rfl, rfl, rfl⟩ rfl rfl fun A F => ?_
  refine sw_end ?_
  show Code.wp _ _ _ _ _
  refine sw_false F rfl ?_
  refine sw_seq ?_
  refine sw_reg ?_
  refine sw_move F ⟨rfl, rfl, rfl⟩ rfl rfl fun A F => ?_
  refine sw_call0 (rwrong_m text c b (.ok σ)) F M ⟨rfl, rfl, rfl⟩ rfl rfl ?_
  rintro _ S4 A w ⟨_, h5⟩ F M
  refine sw_end ?_
  show Code.wp _ _ _ _ _
  refine sw_seq ?_
  refine sw_reg ?_
  refine sw_all F M 1 ⟨rfl, rfl, rfl⟩ rfl rfl (by kernel_rfl) (by kernel_rfl) rfl fun A F => ?_
  refine sw_setAll F M 2 ⟨rfl, rfl, rfl⟩ rfl rfl rfl (by kernel_rfl) rfl rfl fun w M => ?_
  simp only [List.set_cons_zero, List.set_cons_succ] at M
  refine sw_end ?_
  show Code.wp _ _ _ _ _
  refine wp_ret ?_
  repeat (first | refine then_ret ?_ | refine block_ret ?_)
  exact sw_retbox F M 2 Tryd.results51 rfl rfl (by kernel_rfl) (by kernel_rfl) ⟨_, Sm.flds { k := 0, nm := [], al := [], ca := [], ty := 0, ea := none, ec := 0, es := [], ba := none, bc := 0, bs := [], la := none, lc := 0, ls := [] }, S4, rfl, M.but, M.st, lie_cons (lie_i (n := 0) (by omega)) (lie_cons (trivial) (lie_cons (trivial) (lie_cons (trivial) (lie_cons (lie_i (n := 0) (by omega)) (lie_cons (lies_nil _ _) (lie_cons (lies_nil _ _) (lie_cons (lies_nil _ _) (lie_nil _ _)))))))), { k := 0, nm := [], al := [], ca := [], ty := 0, ea := none, ec := 0, es := [], ba := none, bc := 0, bs := [], la := none, lc := 0, ls := [] }, rfl, rfl, kn.last (wrong_any h5)⟩
set_option maxRecDepth 8000 in
set_option maxHeartbeats 3200000 in
theorem stmt_num {m : Nat} (text : Key) (c : C4) (b : Nat) (HB : ∀ S, need S < m → Meth Tryd.prog (PdX text c b) (fun k => k = b) 35 [ptr b] S (BlP blockM S)) (σ : St) (hm : need (.ok σ) ≤ m) (hs : ∀ t, σ.now ≠ .name t) (hp : pickI stepW (.ok σ) = 0) (hk : tokK σ.now = 48) : Meth Tryd.prog (PdX text c b) (fun k => k = b) 51 [ptr b] (.ok σ) (StP stepM (.ok σ)) := by
  refine ⟨by kernel_rfl, fun wO R _ => ?_⟩
  have M := pd_begin R
  have kn := (step_here hs).ite_pos hp
  refine sw_fn Tryd.func51 rfl 167 Tryd.ntmps51 rfl fun A F => ?_
  refine sw_seq ?_
  refine sw_reg ?_
  refine sw_alloc F M [.int .i64 0, .string ⟨#[]⟩, .string ⟨#[]⟩, .string ⟨#[]⟩, .int .i64 0, .slice none 0 0, .slice none 0 0, .slice none 0 0] ⟨rfl, rfl, rfl⟩ (by kernel_rfl) rfl fun x1 A w F M => ?_
  refine sw_end ?_
  show Code.wp _ _ _ _ _
  refine sw_seq ?_
  refine sw_reg ?_
  refine sw_build F _ [.int .i64 0, .string ⟨#[]⟩, .string ⟨#[]⟩, .string ⟨#[]⟩, .int .i64 0, .slice none 0 0, .slice none 0 0, .slice none 0 0] ⟨rfl, rfl, rfl⟩ rfl (by kernel_rfl) rfl fun A F => ?_
  refine sw_alloc F M [.int .i64 0, .string ⟨#[]⟩, .string ⟨#[]⟩, .string ⟨#[]⟩, .int .i64 0, .slice none 0 0, .slice none 0 0, .slice none 0 0] ⟨rfl, rfl, rfl⟩ (by kernel_rfl) rfl fun x2 A w F M => ?_
  refine sw_setAll F M 0 ⟨rfl, rfl, rfl⟩ rfl rfl rfl (by kernel_rfl) rfl rfl fun w M => ?_
  simp only [List.set_cons_zero, List.set_cons_succ] at M
  refine sw_end ?_
  show Code.wp _ _ _ _ _
  refine sw_seq ?_
  refine sw_reg ?_
  refine sw_move F ⟨rfl, rfl, rfl⟩ rfl rfl fun A F => ?_
  refine sw_nil F ⟨rfl, rfl, rfl⟩ rfl rfl fun A F => ?_
  refine sw_fld F 2 ⟨rfl, rfl, rfl⟩ rfl (by kernel_rfl) rfl rfl fun A F => ?_
  obtain ⟨at0, kd0, tx0, n0, lv0, er0, kb0, hr0⟩ := M.st.cells
  obtain rfl : kd0 = 48 := hr0.1.trans hk
  refine sw_rng F (tok_range kb0) ⟨rfl, rfl, rfl⟩ rfl (by kernel_rfl) (by kernel_rfl) rfl fun A F => ?_
  refine sw_alloc F M [.int .u8 0, .string ⟨#[]⟩, .int .i64 0] ⟨rfl, rfl, rfl⟩ (by kernel_rfl) rfl fun x3 A w F M => ?_
  refine sw_setAll F M 0 ⟨rfl, rfl, rfl⟩ rfl rfl rfl (by kernel_rfl) rfl rfl fun w M => ?_
  simp only [List.set_cons_zero, List.set_cons_succ] at M
  refine sw_end ?_
  show Code.wp _ _ _ _ _
  refine sw_seq ?_
  refine wp_block ?_
  refine sw_seq ?_
  refine sw_reg ?_
  refine sw_fld F 0 ⟨rfl, rfl, rfl⟩ rfl (by kernel_rfl) rfl rfl fun A F => ?_
  refine sw_cell F M 0 ⟨rfl, rfl, rfl⟩ rfl rfl rfl (by kernel_rfl) rfl fun A F => ?_
  refine sw_eql F ⟨rfl, rfl, rfl⟩ rfl rfl rfl fun A F => ?_
  refine sw_asg F ⟨rfl, rfl, rfl⟩ rfl rfl fun A F => ?_
  refine sw_end ?_
  show Code.wp _ _ _ _ _
  refine sw_false F rfl ?_
  refine sw_seq ?_
  refine sw_reg ?_
  refine sw_fld F 0 ⟨rfl, rfl, rfl⟩ rfl (by kernel_rfl) rfl rfl fun A F => ?_
  refine sw_cell F M 0 ⟨rfl, rfl, rfl⟩ rfl rfl rfl (by kernel_rfl) rfl fun A F => ?_
  refine sw_eql F ⟨rfl, rfl, rfl⟩ rfl rfl rfl fun A F => ?_
  refine sw_move F ⟨rfl, rfl, rfl⟩ rfl rfl fun A F => ?_
  refine sw_off F 3 rfl rfl rfl rfl rfl rfl rfl fun A F => ?_
  refine sw_off F 3 rfl rfl rfl rfl rfl rfl rfl fun A F => ?_
  refine sw_off F 3 rfl rfl rfl rfl rfl rfl rfl fun A F => ?_
  refine sw_pickF F ⟨rfl, rfl, rfl⟩ rfl rfl rfl fun A F => ?_
  refine sw_asg F ⟨rfl, rfl, rfl⟩ rfl rfl fun A F => ?_
  refine sw_end ?_
  show Code.wp _ _ _ _ _
  refine sw_false F rfl ?_
  refine sw_seq ?_
  refine sw_reg ?_
  refine sw_fld F 0 ⟨rfl, rfl, rfl⟩ rfl (by kernel_rfl) rfl rfl fun A F => ?_
  refine sw_cell F M 0 ⟨rfl, rfl, rfl⟩ rfl rfl rfl (by kernel_rfl) rfl fun A F => ?_
  refine sw_eql F ⟨rfl, rfl, rfl⟩ rfl rfl rfl fun A F => ?_
  refine sw_move F ⟨rfl, rfl, rfl⟩ rfl rfl fun A F => ?_
  refine sw_off F 3 rfl rfl rfl rfl rfl rfl rfl fun A F => ?_
  refine sw_off F 3 rfl rfl rfl rfl rfl rfl rfl fun A F => ?_
  refine sw_off F 3 rfl rfl rfl rfl rfl rfl rfl fun A F => ?_
  refine sw_off F 3 rfl rfl rfl rfl rfl rfl rfl fun A F => ?_
  refine sw_offU F 7 rfl rfl rfl rfl rfl rfl fun A F => ?_
  refine sw_offU F 7 rfl rfl rfl rfl rfl rfl fun A F => ?_
  refine sw_offU F 7 rfl rfl rfl rfl rfl rfl fun A F => ?_
  refine sw_off F 3 rfl rfl rfl rfl rfl rfl rfl fun A F => ?_
  refine sw_pickF F ⟨rfl, rfl, rfl⟩ rfl rfl rfl fun A F => ?_
  refine sw_asg F ⟨rfl, rfl, rfl⟩ rfl rfl fun A F => ?_
  refine sw_end ?_
  show Code.wp _ _ _ _ _
  refine sw_false F rfl ?_
  refine sw_seq ?_
  refine sw_reg ?_
  refine sw_fld F 0 ⟨rfl, rfl, rfl⟩ rfl (by kernel_rfl) rfl rfl fun A F => ?_
  refine sw_cell F M 0 ⟨rfl, rfl, rfl⟩ rfl rfl rfl (by kernel_rfl) rfl fun A F => ?_
  refine sw_eql F ⟨rfl, rfl, rfl⟩ rfl rfl rfl fun A F => ?_
  refine sw_move F ⟨rfl, rfl, rfl⟩ rfl rfl fun A F => ?_
  refine sw_off F 3 rfl rfl rfl rfl rfl rfl rfl fun A F => ?_
  refine sw_off F 3 rfl rfl rfl rfl rfl rfl rfl fun A F => ?_
  refine sw_off F 3 rfl rfl rfl rfl rfl rfl rfl fun A F => ?_
  refine sw_pickF F ⟨rfl, rfl, rfl⟩ rfl rfl rfl fun A F => ?_
  refine sw_asg F ⟨rfl, rfl, rfl⟩ rfl rfl fun A F => ?_
  refine sw_end ?_
  show Code.wp _ _ _ _ _
  refine sw_false F rfl ?_
  refine sw_seq ?_
  refine sw_reg ?_
  refine sw_fld F 0 ⟨rfl, rfl, rfl⟩ rfl (by kernel_rfl) rfl rfl fun A F => ?_
  refine sw_cell F M 0 ⟨rfl, rfl, rfl⟩ rfl rfl rfl (by kernel_rfl) rfl fun A F => ?_
  refine sw_eql F ⟨rfl, rfl, rfl⟩ rfl rfl rfl fun A F => ?_
  refine sw_move F ⟨rfl, rfl, rfl⟩ rfl rfl fun A F => ?_
  refine sw_off F 3 rfl rfl rfl rfl rfl rfl rfl fun A F => ?_
  refine sw_off F 3 rfl rfl rfl rfl rfl rfl rfl fun A F => ?_
  refine sw_off F 3 rfl rfl rfl rfl rfl rfl rfl fun A F => ?_
  refine sw_pickF F ⟨rfl, rfl, rfl⟩ rfl rfl rfl fun A F => ?_
  refine sw_asg F ⟨rfl, rfl, rfl⟩ rfl rfl fun A F => ?_
  refine sw_end ?_
  show Code.wp _ _ _ _ _
  refine sw_false F rfl ?_
  refine sw_seq ?_
  refine sw_reg ?_
  refine sw_fld F 0 ⟨rfl, rfl, rfl⟩ rfl (by kernel_rfl) rfl rfl fun A F => ?_
  refine sw_cell F M 0 ⟨rfl, rfl, rfl⟩ rfl rfl rfl (by kernel_rfl) rfl fun A F => ?_
  refine sw_eql F ⟨rfl, rfl, rfl⟩ rfl rfl rfl fun A F => ?_
  refine sw_move F ⟨rfl, rfl, rfl⟩ rfl rfl fun A F => ?_
  refine sw_off F 3 rfl rfl rfl rfl rfl rfl rfl fun A F => ?_
  refine sw_off F 3 rfl rfl rfl rfl rfl rfl rfl fun A F => ?_
  refine sw_off F 3 rfl rfl rfl rfl rfl rfl rfl fun A F => ?_
  refine sw_off F 3 rfl rfl rfl rfl rfl rfl rfl fun A F => ?_
  refine sw_pickF F ⟨rfl, rfl, rfl⟩ rfl rfl rfl fun A F => ?_
  refine sw_asg F ⟨rfl, rfl, rfl⟩ rfl rfl fun A F => ?_
  refine sw_end ?_
  show Code.wp _ _ _ _ _
  refine sw_false F rfl ?_
  refine sw_seq ?_
  refine sw_reg ?_
  refine sw_move F ⟨rfl, rfl, rfl⟩ rfl rfl fun A F => ?_
  refine sw_call0 (rwrong_m text c b (.ok σ)) F M ⟨rfl, rfl, rfl⟩ rfl rfl ?_
  rintro _ S4 A w ⟨_, h5⟩ F M
  refine sw_end ?_
  show Code.wp _ _ _ _ _
  refine sw_seq ?_
  refine sw_reg ?_
  refine sw_all F M 1 ⟨rfl, rfl, rfl⟩ rfl rfl (by kernel_rfl) (by kernel_rfl) rfl fun A F => ?_
  refine sw_setAll F M 2 ⟨rfl, rfl, rfl⟩ rfl rfl rfl (by kernel_rfl) rfl rfl fun w M => ?_
  simp only [List.set_cons_zero, List.set_cons_succ] at M
  refine sw_end ?_
  show Code.wp _ _ _ _ _
  refine wp_ret ?_
  repeat (first | refine then_ret ?_ | refine block_ret ?_)
  exact sw_retbox F M 2 Tryd.results51 rfl rfl (by kernel_rfl) (by kernel_rfl) ⟨_, Sm.flds { k := 0, nm := [], al := [], ca := [], ty := 0, ea := none, ec := 0, es := [], ba := none, bc := 0, bs := [], la := none, lc := 0, ls := [] }, S4, rfl, M.but, M.st, lie_cons (lie_i (n := 0) (by omega)) (lie_cons (trivial) (lie_cons (trivial) (lie_cons (trivial) (lie_cons (lie_i (n := 0) (by omega)) (lie_cons (lies_nil _ _) (lie_cons (lies_nil _ _) (lie_cons (lies_nil _ _) (lie_nil _ _)))))))), { k := 0, nm := [], al := [], ca := [], ty := 0, ea := none, ec := 0, es := [], ba := none, bc := 0, bs := [], la := none, lc := 0, ls := [] }, rfl, rfl, kn.last (wrong_any h5)⟩
set_option maxRecDepth 8000 in
set_option maxHeartbeats 3200000 in
theorem stmt_sign {m : Nat} (text : Key) (c : C4) (b : Nat) (HB : ∀ S, need S < m → Meth Tryd.prog (PdX text c b) (fun k => k = b) 35 [ptr b] S (BlP blockM S)) (σ : St) (hm : need (.ok σ) ≤ m) (hs : ∀ t, σ.now ≠ .name t) (hp : pickI stepW (.ok σ) = 0) (hk : tokK σ.now = 115) : Meth Tryd.prog (PdX text c b) (fun k => k = b) 51 [ptr b] (.ok σ) (StP stepM (.ok σ)) := by
  refine ⟨by kernel_rfl, fun wO R _ => ?_⟩
  have M := pd_begin R
  have kn := (step_here hs).ite_pos hp
  refine sw_fn Tryd.func51 rfl 167 Tryd.ntmps51 rfl fun A F => ?_
  refine sw_seq ?_
  refine sw_reg ?_
  refine sw_alloc F M [.int .i64 0, .string ⟨#[]⟩, .string ⟨#[]⟩, .string ⟨#[]⟩, .int .i64 0, .slice none 0 0, .slice none 0 0, .slice none 0 0] ⟨rfl, rfl, rfl⟩ (by kernel_rfl) rfl fun x1 A w F M => ?_
  refine sw_end ?_
  show Code.wp _ _ _ _ _
  refine sw_seq ?_
  refine sw_reg ?_
  refine sw_build F _ [.int .i64 0, .string ⟨#[]⟩, .string ⟨#[]⟩, .string ⟨#[]⟩, .int .i64 0, .slice none 0 0, .slice none 0 0, .slice none 0 0] ⟨rfl, rfl, rfl⟩ rfl (by kernel_rfl) rfl fun A F => ?_
  refine sw_alloc F M [.int .i64 0, .string ⟨#[]⟩, .string ⟨#[]⟩, .string ⟨#[]⟩, .int .i64 0, .slice none 0 0, .slice none 0 0, .slice none 0 0] ⟨rfl, rfl, rfl⟩ (by kernel_rfl) rfl fun x2 A w F M => ?_
  refine sw_setAll F M 0 ⟨rfl, rfl, rfl⟩ rfl rfl rfl (by kernel_rfl) rfl rfl fun w M => ?_
  simp only [List.set_cons_zero, List.set_cons_succ] at M
  refine sw_end ?_
  show Code.wp _ _ _ _ _
  refine sw_seq ?_
  refine sw_reg ?_
  refine sw_move F ⟨rfl, rfl, rfl⟩ rfl rfl fun A F => ?_
  refine sw_nil F ⟨rfl, rfl, rfl⟩ rfl rfl fun A F => ?_
  refine sw_fld F 2 ⟨rfl, rfl, rfl⟩ rfl (by kernel_rfl) rfl rfl fun A F => ?_
  obtain ⟨at0, kd0, tx0, n0, lv0, er0, kb0, hr0⟩ := M.st.cells
  obtain rfl : kd0 = 115 := hr0.1.trans hk
  refine sw_rng F (tok_range kb0) ⟨rfl, rfl, rfl⟩ rfl (by kernel_rfl) (by kernel_rfl) rfl fun A F => ?_
  refine sw_alloc F M [.int .u8 0, .string ⟨#[]⟩, .int .i64 0] ⟨rfl, rfl, rfl⟩ (by kernel_rfl) rfl fun x3 A w F M => ?_
  refine sw_setAll F M 0 ⟨rfl, rfl, rfl⟩ rfl rfl rfl (by kernel_rfl) rfl rfl fun w M => ?_
  simp only [List.set_cons_zero, List.set_cons_succ] at M
  refine sw_end ?_
  show Code.wp _ _ _ _ _
  refine sw_seq ?_
  refine wp_block ?_
  refine sw_seq ?_
  refine sw_reg ?_
  refine sw_fld F 0 ⟨rfl, rfl, rfl⟩ rfl (by kernel_rfl) rfl rfl fun A F => ?_
  refine sw_cell F M 0 ⟨rfl, rfl, rfl⟩ rfl rfl rfl (by kernel_rfl) rfl fun A F => ?_
  refine sw_eql F ⟨rfl, rfl, rfl⟩ rfl rfl rfl fun A F => ?_
  refine sw_asg F ⟨rfl, rfl, rfl⟩ rfl rfl fun A F => ?_
  refine sw_end ?_
  show Code.wp _ _ _ _ _
  refine sw_false F rfl ?_
  refine sw_seq ?_
  refine sw_reg ?_
  refine sw_fld F 0 ⟨rfl, rfl, rfl⟩ rfl (by kernel_rfl) rfl rfl fun A F => ?_
  refine sw_cell F M 0 ⟨rfl, rfl, rfl⟩ rfl rfl rfl (by kernel_rfl) rfl fun A F => ?_
  refine sw_eql F ⟨rfl, rfl, rfl⟩ rfl rfl rfl fun A F => ?_
  refine sw_move F ⟨rfl, rfl, rfl⟩ rfl rfl fun A F => ?_
  refine sw_off F 3 rfl rfl rfl rfl rfl rfl rfl fun A F => ?_
  refine sw_off F 3 rfl rfl rfl rfl rfl rfl rfl fun A F => ?_
  refine sw_off F 3 rfl rfl rfl rfl rfl rfl rfl fun A F => ?_
  refine sw_pickF F ⟨rfl, rfl, rfl⟩ rfl rfl rfl fun A F => ?_
  refine sw_asg F ⟨rfl, rfl, rfl⟩ rfl rfl fun A F => ?_
  refine sw_end ?_
  show Code.wp _ _ _ _ _
  refine sw_false F rfl ?_
  refine sw_seq ?_
  refine sw_reg ?_
  refine sw_fld F 0 ⟨rfl, rfl, rfl⟩ rfl (by kernel_rfl) rfl rfl fun A F => ?_
  refine sw_cell F M 0 ⟨rfl, rfl, rfl⟩ rfl rfl rfl (by kernel_rfl) rfl fun A F => ?_
  refine sw_eql F ⟨rfl, rfl, rfl⟩ rfl rfl rfl fun A F => ?_
  refine sw_move F ⟨rfl, rfl, rfl⟩ rfl rfl fun A F => ?_
  refine sw_off F 3 rfl rfl rfl rfl rfl rfl rfl fun A F => ?_
  refine sw_off F 3 rfl rfl rfl rfl rfl rfl rfl fun A F => ?_
  refine sw_off F 3 rfl rfl rfl rfl rfl rfl rfl fun A F => ?_
  refine sw_off F 3 rfl rfl rfl rfl rfl rfl rfl fun A F => ?_
  refine sw_offU F 7 rfl rfl rfl rfl rfl rfl fun A F => ?_
  refine sw_offU F 7 rfl rfl rfl rfl rfl rfl fun A F => ?_
  refine sw_offU F 7 rfl rfl rfl rfl rfl rfl fun A F => ?_
  refine sw_off F 3 rfl rfl rfl rfl rfl rfl rfl fun A F => ?_
  refine sw_pickF F ⟨rfl, rfl, rfl⟩ rfl rfl rfl fun A F => ?_
  refine sw_asg F ⟨rfl, rfl, rfl⟩ rfl rfl fun A F => ?_
  refine sw_end ?_
  show Code.wp _ _ _ _ _
  refine sw_false F rfl ?_
  refine sw_seq ?_
  refine sw_reg ?_
  refine sw_fld F 0 ⟨rfl, rfl, rfl⟩ rfl (by kernel_rfl) rfl rfl fun A F => ?_
  refine sw_cell F M 0 ⟨rfl, rfl, rfl⟩ rfl rfl rfl (by kernel_rfl) rfl fun A F => ?_
  refine sw_eql F ⟨rfl, rfl, rfl⟩ rfl rfl rfl fun A F => ?_
  refine sw_move F ⟨rfl, rfl, rfl⟩ rfl rfl fun A F => ?_
  refine sw_off F 3 rfl rfl rfl rfl rfl rfl rfl fun A F => ?_
  refine sw_off F 3 rfl rfl rfl rfl rfl rfl rfl fun A F => ?_
  refine sw_off F 3 rfl rfl rfl rfl rfl rfl rfl fun A F => ?_
  refine sw_pickF F ⟨rfl, rfl, rfl⟩ rfl rfl rfl fun A F => ?_
  refine sw_asg F ⟨rfl, rfl, rfl⟩ rfl rfl fun A F => ?_
  refine sw_end ?_
  show Code.wp _ _ _ _ _
  refine sw_false F rfl ?_
  refine sw_seq ?_
  refine sw_reg ?_
  refine sw_fld F 0 ⟨rfl, rfl, rfl⟩ rfl (by kernel_rfl) rfl rfl fun A F => ?_
  refine sw_cell F M 0 ⟨rfl, rfl, rfl⟩ rfl rfl rfl (by kernel_rfl) rfl fun A F => ?_
  refine sw_eql F ⟨rfl, rfl, rfl⟩ rfl rfl rfl fun A F => ?_
  refine sw_move F ⟨rfl, rfl, rfl⟩ rfl rfl fun A F => ?_
  refine sw_off F 3 rfl rfl rfl rfl rfl rfl rfl fun A F => ?_
  refine sw_off F 3 rfl rfl rfl rfl rfl rfl rfl fun A F => ?_
  refine sw_off F 3 rfl rfl rfl rfl rfl rfl rfl fun A F => ?_
  refine sw_pickF F ⟨rfl, rfl, rfl⟩ rfl rfl rfl fun A F => ?_
  refine sw_asg F ⟨rfl, rfl, rfl⟩ rfl rfl fun A F => ?_
  refine sw_end ?_
  show Code.wp _ _ _ _ _
  refine sw_false F rfl ?_
  refine sw_seq ?_
  refine sw_reg ?_
  refine sw_fld F 0 ⟨rfl, rfl, rfl⟩ rfl (by kernel_rfl) rfl rfl fun A F => ?_
  refine sw_cell F M 0 ⟨rfl, rfl, rfl⟩ rfl rfl rfl (by kernel_rfl) rfl fun A F => ?_
  refine sw_eql F ⟨rfl, rfl, rfl⟩ rfl rfl rfl fun A F => ?_
  refine sw_move F ⟨rfl, rfl, rfl⟩ rfl rfl fun A F => ?_
  refine sw_off F 3 rfl rfl rfl rfl rfl rfl rfl fun A F => ?_
  refine sw_off F 3 rfl rfl rfl rfl rfl rfl rfl fun A F => ?_
  refine sw_off F 3 rfl rfl rfl rfl rfl rfl rfl fun A F => ?_
  refine sw_off F 3 rfl rfl rfl rfl rfl rfl rfl fun A F => ?_
  refine sw_pickF F ⟨rfl, rfl, rfl⟩ rfl rfl rfl fun A F => ?_
  refine sw_asg F ⟨rfl, rfl, rfl⟩ rfl rfl fun A F => ?_
  refine sw_end ?_
  show Code.wp _ _ _ _ _
  refine sw_false F rfl ?_
  refine sw_seq ?_
  refine sw_reg ?_
  refine sw_move F ⟨rfl, rfl, rfl⟩ rfl rfl fun A F => ?_
  refine sw_call0 (rwrong_m text c b (.ok σ)) F M ⟨rfl, rfl, rfl⟩ rfl rfl ?_
  rintro _ S4 A w ⟨_, h5⟩ F M
  refine sw_end ?_
  show Code.wp _ _ _ _ _
  refine sw_seq ?_
  refine sw_reg ?_
  refine sw_all F M 1 ⟨rfl, rfl, rfl⟩ rfl rfl (by kernel_rfl) (by kernel_rfl) rfl fun A F => ?_
  refine sw_setAll F M 2 ⟨rfl, rfl, rfl⟩ rfl rfl rfl (by kernel_rfl) rfl rfl fun w M => ?_
  simp only [List.set_cons_zero, List.set_cons_succ] at M
  refine sw_end ?_
  show Code.wp _ _ _ _ _
  refine wp_ret ?_
  repeat (first | refine then_ret ?_ | refine block_ret ?_)
  exact sw_retbox F M 2 Tryd.results51 rfl rfl (by kernel_rfl) (by kernel_rfl) ⟨_, Sm.flds { k := 0, nm := [], al := [], ca := [], ty := 0, ea := none, ec := 0, es := [], ba := none, bc := 0, bs := [], la := none, lc := 0, ls := [] }, S4, rfl, M.but, M.st, lie_cons (lie_i (n := 0) (by omega)) (lie_cons (trivial) (lie_cons (trivial) (lie_cons (trivial) (lie_cons (lie_i (n := 0) (by omega)) (lie_cons (lies_nil _ _) (lie_cons (lies_nil _ _) (lie_cons (lies_nil _ _) (lie_nil _ _)))))))), { k := 0, nm := [], al := [], ca := [], ty := 0, ea := none, ec := 0, es := [], ba := none, bc := 0, bs := [], la := none, lc := 0, ls := [] }, rfl, rfl, kn.last (wrong_any h5)⟩
end Go.Proofs.YtgpjlocgkdlnlaaDoor
