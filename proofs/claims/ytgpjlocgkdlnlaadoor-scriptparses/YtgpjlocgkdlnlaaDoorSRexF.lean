/- The answer's Parser: first at a word or a sign. -/
import Derived.Test.YtgpjlocgkdlnlaaDoorSRexE
namespace Go.Proofs.YtgpjlocgkdlnlaaDoor
open Go.RowKit
set_option linter.unusedVariables false
set_option linter.unusedSimpArgs false

section
variable {P : Program} {md : Region.Mode} {ops : Array Oper} {Q : Exit → Act → World → Prop} {S : World → Prop} {m fuel : Nat} {listed : Array Bool} {a : Act} {w : World} {oi oj : Oper}
theorem sm_two (i j : Nat) (hi : ops[i]? = some oi) (hj : ops[j]? = some oj) (hr : Region.ready md ops listed = [i, j]) (gi : oi.guard = none) (gj : oj.guard = none) (h1 : wpList P ops (Exit.then (fun a w => ((listed.setIfInBounds i true).getD m true = false → S w) ∧ wpAnyM P md ops Q S m fuel (listed.setIfInBounds i true) a w) Q) [oi] a w) (h2 : wpList P ops (Exit.then (fun a w => ((listed.setIfInBounds j true).getD m true = false → S w) ∧ wpAnyM P md ops Q S m fuel (listed.setIfInBounds j true) a w) Q) [oj] a w) : wpAnyM P md ops Q S m (fuel + 1) listed a w := by
  have key : ∀ (i : Nat) (o : Oper), ops[i]? = some o → o.guard = none → wpList P ops (Exit.then (fun a w => ((listed.setIfInBounds i true).getD m true = false → S w) ∧ wpAnyM P md ops Q S m fuel (listed.setIfInBounds i true) a w) Q) [o] a w → wpOp P ops Q i (fun a' w' => ((listed.setIfInBounds i true).getD m true = false → S w') ∧ wpAnyM P md ops Q S m fuel (listed.setIfInBounds i true) a' w') a w := fun i o hi hg h => by
    have hw : ∀ t, Region.wanted o t = true := fun t => by simp [Region.wanted, hg]
    unfold wpList at h
    rw [if_pos (hw _)] at h
    unfold wpOp
    simp only [hi]
    rw [if_pos (hw _)]
    rcases h with h | ⟨h1, h2⟩
    · exact .inl (oper_then h)
    · exact .inr ⟨h1, h2⟩
  refine ⟨fun h0 => ?_, fun k hk => ?_⟩
  · rw [hr] at h0; cases h0
  · rw [hr] at hk
    rcases List.mem_cons.1 hk with rfl | hk
    · exact key _ _ hi gi h1
    · rw [List.mem_singleton.1 hk]; exact key _ _ hj gj h2
end
theorem stands_eq {σ : St} {t k : Key} (hn : σ.now = .fixed t) (h : (t == k) = true) : stands k (.ok σ) = true := by
  rw [stands_fixed k t σ hn, decide_eq_true (eq_of_beq h)]
theorem stands_ne {σ : St} {t k : Key} (hn : σ.now = .fixed t) (h : (t == k) = false) : stands k (.ok σ) = false := by
  rw [stands_fixed k t σ hn]
  exact decide_eq_false (fun e => by subst e; simp at h)
theorem take_here {k : Key} {S S1 : ES} (h : stands k S = true) (g : Rv (fun _ => nextT) S () S1) : Rv (fun _ => takeT k) S () S1 := by
  obtain ⟨n, g⟩ := g
  refine Rv.of (Rel.at (F := nextT) (g n (Nat.le_refl _)) fun σ e => ?_)
  subst e
  exact (if_pos (of_decide_eq_true h)).symm
theorem word_pick {σ : St} {t : Key} (hn : σ.now = .fixed t) : pickI (operW 7) (.ok σ) = bif decide (0 < leafI t) then leafI t else ofI t := by
  have hs := fun s => stands_fixed s t σ hn
  have e : operW 7 = [(20, [115, 101, 108, 102]), (21, [99, 97, 108, 108, 101, 114]), (22, [118, 97, 108, 117, 101]), (23, [104, 101, 105, 103, 104, 116]), (24, [98, 97, 108, 97, 110, 99, 101]), (25, [119, 104, 111]), (26, [110, 117, 109])] := by decide
  rw [e]
  simp only [pickI, hs]
  by_cases h1 : t = [115, 101, 108, 102]
  · subst h1; decide
  by_cases h2 : t = [99, 97, 108, 108, 101, 114]
  · subst h2; decide
  by_cases h3 : t = [118, 97, 108, 117, 101]
  · subst h3; decide
  by_cases h4 : t = [104, 101, 105, 103, 104, 116]
  · subst h4; decide
  by_cases h5 : t = [98, 97, 108, 97, 110, 99, 101]
  · subst h5; decide
  by_cases h6 : t = [119, 104, 111]
  · subst h6; decide
  by_cases h7 : t = [110, 117, 109]
  · subst h7; decide
  · simp only [leafI, ofI, beq_eq_false_iff_ne.2 h1, beq_eq_false_iff_ne.2 h2, beq_eq_false_iff_ne.2 h3, beq_eq_false_iff_ne.2 h4, beq_eq_false_iff_ne.2 h5, beq_eq_false_iff_ne.2 h6, beq_eq_false_iff_ne.2 h7, decide_eq_false h1, decide_eq_false h2, decide_eq_false h3, decide_eq_false h4, decide_eq_false h5, decide_eq_false h6, decide_eq_false h7, cond_false]
    decide
theorem leaf_form (t : Key) : 0 < leafI t → ¬ formI (leafI t) = 1 := by
  unfold leafI
  cases t == [115, 101, 108, 102] <;> cases t == [99, 97, 108, 108, 101, 114] <;> cases t == [118, 97, 108, 117, 101] <;> cases t == [104, 101, 105, 103, 104, 116] <;> decide
theorem of_form (t : Key) : 0 < ofI t → formI (ofI t) = 1 := by
  unfold ofI
  cases t == [98, 97, 108, 97, 110, 99, 101] <;> cases t == [119, 104, 111] <;> cases t == [110, 117, 109] <;> decide
theorem word_leaf {σ : St} {t : Key} (hn : σ.now = .fixed t) (h : 0 < leafI t) : pickI (operW 7) (.ok σ) = leafI t ∧ ¬ formI (leafI t) = 1 := ⟨by rw [word_pick hn, decide_eq_true h]; rfl, leaf_form t h⟩
theorem word_of {σ : St} {t : Key} (hn : σ.now = .fixed t) (h : ¬ 0 < leafI t) (g : 0 < ofI t) : pickI (operW 7) (.ok σ) = ofI t ∧ formI (ofI t) = 1 := ⟨by rw [word_pick hn, decide_eq_false h]; rfl, of_form t g⟩
theorem of_ge (t : Key) : 0 ≤ ofI t ∧ ofI t ≤ 26 := by
  unfold ofI
  cases t == [98, 97, 108, 97, 110, 99, 101] <;> cases t == [119, 104, 111] <;> cases t == [110, 117, 109] <;> decide
theorem leaf_ge (t : Key) : 0 ≤ leafI t ∧ leafI t ≤ 23 := by
  unfold leafI
  cases t == [115, 101, 108, 102] <;> cases t == [99, 97, 108, 108, 101, 114] <;> cases t == [118, 97, 108, 117, 101] <;> cases t == [104, 101, 105, 103, 104, 116] <;> decide
theorem word_no {σ : St} {t : Key} (hn : σ.now = .fixed t) (h : ¬ 0 < leafI t) (g : ¬ 0 < ofI t) : pickI (operW 7) (.ok σ) = 0 := by
  rw [word_pick hn, decide_eq_false h]
  have := of_ge t
  show ofI t = 0
  omega
theorem kn_word {σ : St} {t : Key} (hn : σ.now = .fixed t) : Kn atomT (.ok σ) wordT (.ok σ) := fun y S' h => atom_word (fun m q => by rw [hn] at q; cases q) (fun s q => by rw [hn] at q; cases q) h
theorem kn_inner {S S1 : ES} {op : Int} (k : Kn atomT S (fun n => bnd (innerT n [40] [41]) fun y => pur (exP op 0 [] [y])) S1) : Kn atomT S (fun n => bnd (openT [40]) fun _ => bnd (exprT n ((1 : Nat) : Int)) fun x => bnd (shutT [41]) fun _ => pur (exP op 0 [] [x])) S1 := fun y S' h => (k.to fun n => rfl) y S' (Rv.succ (F := fun n => bnd (innerT n [40] [41]) fun y => pur (exP op 0 [] [y])) (h.to fun n => by rw [innerT, bnd_assoc]; congr 1; funext _; rw [bnd_assoc]; congr 1; funext x; rw [bnd_assoc]; rfl))
theorem kn_paren {S S1 : ES} (k : Kn atomT S (fun n => innerT n [40] [41]) S1) : Kn atomT S (fun n => bnd (openT [40]) fun _ => bnd (exprT n ((1 : Nat) : Int)) fun x => bnd (shutT [41]) fun _ => pur x) S1 := fun y S' h => k y S' (Rv.succ (h.to fun n => by rw [innerT]; rfl))
theorem open_lt {s : Key} {S S1 : ES} {m : Nat} (h : Rv (fun _ => openT s) S () S1) (hm : need S ≤ m) (hs : stands s S = true) : need S1 < m := by
  obtain ⟨n, h⟩ := h
  have := (need_open (h n (Nat.le_refl _))).2 hs
  omega
set_option maxRecDepth 8000 in
set_option maxHeartbeats 3200000 in
theorem first_w119 {m : Nat} (text : Key) (c : C4) (b : Nat) (IH : ∀ (S : ES) (r : Nat), need S < m → 1 ≤ r → r ≤ 7 → Meth Tryd.prog (PdX text c b) (fun k => k = b) 61 [ptr b, .int .i64 r] S (ExQ (fun n => exprT n r) S)) (σ : St) (hm : need (.ok σ) ≤ m) (s : Key) (hn : σ.now = .fixed s) (hk : tokK σ.now = 119) : Meth Tryd.prog (PdX text c b) (fun k => k = b) 69 [ptr b] (.ok σ) (ExQ atomT (.ok σ)) := by
  have hhere : Here (.ok σ) := ⟨by rw [hn]; simp, by rw [hn]; simp⟩
  refine ⟨by kernel_rfl, fun wO R _ => ?_⟩
  have M := pd_begin R
  have kn := (((kn_word hn).succ).to fun n => by rw [wordT]).step (Rv.of (rel_is [40] (.ok σ)))
  refine sw_fn Tryd.func69 rfl 115 Tryd.ntmps69 rfl fun A F => ?_
  refine sw_seq ?_
  refine sw_reg ?_
  refine sw_alloc F M [.int .i64 0, .int .i64 0, .string ⟨#[]⟩, .slice none 0 0] ⟨rfl, rfl, rfl⟩ (by kernel_rfl) rfl fun x1 A w F M => ?_
  refine sw_end ?_
  show Code.wp _ _ _ _ _
  refine sw_seq ?_
  refine sw_reg ?_
  refine sw_move F ⟨rfl, rfl, rfl⟩ rfl rfl fun A F => ?_
  refine sw_nil F ⟨rfl, rfl, rfl⟩ rfl rfl fun A F => ?_
  refine sw_fld F 2 ⟨rfl, rfl, rfl⟩ rfl (by kernel_rfl) rfl rfl fun A F => ?_
  obtain ⟨at0, kd0, tx0, n0, lv0, er0, kb0, hr0⟩ := M.st.cells
  obtain rfl : kd0 = 119 := hr0.1.trans hk
  refine sw_rng F (tok_range kb0) ⟨rfl, rfl, rfl⟩ rfl (by kernel_rfl) (by kernel_rfl) rfl fun A F => ?_
  obtain rfl : tx0 = s := by have := hr0.2.1; rw [hn] at this; exact this.1
  refine sw_alloc F M [.int .u8 0, .string ⟨#[]⟩, .int .i64 0] ⟨rfl, rfl, rfl⟩ (by kernel_rfl) rfl fun x2 A w F M => ?_
  refine sw_setAll F M 0 ⟨rfl, rfl, rfl⟩ rfl rfl rfl (by kernel_rfl) rfl rfl fun w M => ?_
  simp only [List.set_cons_zero, List.set_cons_succ] at M
  refine sw_end ?_
  show Code.wp _ _ _ _ _
  refine sw_seq ?_
  refine sw_reg ?_
  refine sw_asg F ⟨rfl, rfl, rfl⟩ rfl rfl fun A F => ?_
  refine sw_end ?_
  show Code.wp _ _ _ _ _
  refine sw_seq ?_
  refine sw_seq ?_
  refine sw_reg ?_
  refine sw_fld F 0 ⟨rfl, rfl, rfl⟩ rfl (by kernel_rfl) rfl rfl fun A F => ?_
  refine sw_cell F M 0 ⟨rfl, rfl, rfl⟩ rfl rfl rfl (by kernel_rfl) rfl fun A F => ?_
  refine sw_eql F ⟨rfl, rfl, rfl⟩ rfl rfl rfl fun A F => ?_
  refine sw_move F ⟨rfl, rfl, rfl⟩ rfl rfl fun A F => ?_
  refine sw_off F 3 rfl rfl rfl rfl rfl rfl rfl fun A F => ?_
  refine sw_off F 3 rfl rfl rfl rfl rfl rfl rfl fun A F => ?_
  refine sw_off F 3 rfl rfl rfl rfl rfl rfl rfl fun A F => ?_
  refine sw_pickT F ⟨rfl, rfl, rfl⟩ rfl rfl rfl fun A F => ?_
  refine sw_end ?_
  show Code.wp _ _ _ _ _
  refine sw_true F rfl ?_
  refine sw_reg ?_
  refine sw_fld F 1 ⟨rfl, rfl, rfl⟩ rfl (by kernel_rfl) rfl rfl fun A F => ?_
  refine sw_cell F M 0 ⟨rfl, rfl, rfl⟩ rfl rfl rfl (by kernel_rfl) rfl fun A F => ?_
  refine sw_asg F ⟨rfl, rfl, rfl⟩ rfl rfl fun A F => ?_
  refine sw_end ?_
  show Code.wp _ _ _ _ _
  refine sw_seq ?_
  refine wp_block ?_
  refine sw_seq ?_
  refine sw_reg ?_
  refine sw_fld F 0 ⟨rfl, rfl, rfl⟩ rfl (by kernel_rfl) rfl rfl fun A F => ?_
  refine sw_cell F M 0 ⟨rfl, rfl, rfl⟩ rfl rfl rfl (by kernel_rfl) rfl fun A F => ?_
  refine sw_eql F ⟨rfl, rfl, rfl⟩ rfl rfl rfl fun A F => ?_
  refine sw_asg F ⟨rfl, rfl, rfl⟩ rfl rfl fun A F => ?_
  refine sw_end ?_
  show Code.wp _ _ _ _ _
  refine sw_false F rfl ?_
  refine sw_seq ?_
  refine sw_reg ?_
  refine sw_fld F 0 ⟨rfl, rfl, rfl⟩ rfl (by kernel_rfl) rfl rfl fun A F => ?_
  refine sw_cell F M 0 ⟨rfl, rfl, rfl⟩ rfl rfl rfl (by kernel_rfl) rfl fun A F => ?_
  refine sw_eql F ⟨rfl, rfl, rfl⟩ rfl rfl rfl fun A F => ?_
  refine sw_asg F ⟨rfl, rfl, rfl⟩ rfl rfl fun A F => ?_
  refine sw_end ?_
  show Code.wp _ _ _ _ _
  refine sw_false F rfl ?_
  refine sw_seq ?_
  refine sw_reg ?_
  refine sw_move F ⟨rfl, rfl, rfl⟩ rfl rfl fun A F => ?_
  refine sw_seq2 F ⟨rfl, rfl, rfl⟩ rfl rfl rfl fun A F => ?_
  refine sw_asg F ⟨rfl, rfl, rfl⟩ rfl rfl fun A F => ?_
  refine sw_end ?_
  show Code.wp _ _ _ _ _
  refine sw_cond F rfl (fun hc3 => ?_) (fun hc3 => ?_)
  · skip
    replace kn := kn.ite_pos (stands_eq hn hc3)
    replace kn := kn_paren kn
    refine sw_seq ?_
    refine sw_reg ?_
    refine sw_move F ⟨rfl, rfl, rfl⟩ rfl rfl fun A F => ?_
    refine sw_call0 (ropen_m [40] text c b (.ok σ)) F M ⟨rfl, rfl, rfl⟩ rfl rfl ?_
    rintro _ S4 A w ⟨_, h5⟩ F M
    replace kn := kn.step h5
    refine sw_end ?_
    show Code.wp _ _ _ _ _
    refine sw_seq ?_
    refine sw_reg ?_
    refine sw_move F ⟨rfl, rfl, rfl⟩ rfl rfl fun A F => ?_
    refine sw_call (IH S4 1 (open_lt h5 hm (stands_eq hn hc3)) (by omega) (by omega)) F M ⟨rfl, rfl, rfl⟩ rfl rfl ?_
    rintro _ _ S6 A w ⟨op7, m7, s7, la7, lc7, es7, rfl, rfl, h7⟩ F M
    replace kn := kn.step h7
    refine sw_alloc F M [.int .i64 0, .int .i64 0, .string ⟨#[]⟩, .slice none 0 0] ⟨rfl, rfl, rfl⟩ (by kernel_rfl) rfl fun x9 A w F M => ?_
    refine sw_setAll F M 0 ⟨rfl, rfl, rfl⟩ rfl rfl rfl (by kernel_rfl) rfl rfl fun w M => ?_
    simp only [List.set_cons_zero, List.set_cons_succ] at M
    refine sw_end ?_
    show Code.wp _ _ _ _ _
    refine sw_seq ?_
    refine sw_reg ?_
    refine sw_move F ⟨rfl, rfl, rfl⟩ rfl rfl fun A F => ?_
    refine sw_call0 (rshut_m [41] text c b S6) F M ⟨rfl, rfl, rfl⟩ rfl rfl ?_
    rintro _ S10 A w ⟨_, h11⟩ F M
    replace kn := kn.step h11
    refine sw_end ?_
    show Code.wp _ _ _ _ _
    refine sw_seq ?_
    refine sw_reg ?_
    refine sw_all F M 0 ⟨rfl, rfl, rfl⟩ rfl rfl (by kernel_rfl) (by kernel_rfl) rfl fun A F => ?_
    refine sw_setAll F M 3 ⟨rfl, rfl, rfl⟩ rfl rfl rfl (by kernel_rfl) rfl rfl fun w M => ?_
    simp only [List.set_cons_zero, List.set_cons_succ] at M
    refine sw_end ?_
    show Code.wp _ _ _ _ _
    refine wp_ret ?_
    repeat (first | refine then_ret ?_ | refine block_ret ?_)
    exact sw_retbox F M 3 Tryd.results69 rfl rfl (by kernel_rfl) (by kernel_rfl) ⟨_, exF op7 m7 s7 la7 lc7 es7, S10, rfl, M.but, M.st, M.mem.val (k := 1) rfl, op7, m7, s7, la7, lc7, es7, rfl, rfl, kn.fin⟩
  · skip
    replace kn := kn.ite_neg (by rw [stands_ne hn hc3]; decide)
    replace kn := kn.step (Rv.of (rel_is kTrue (.ok σ)))
    refine sw_seq ?_
    refine sw_reg ?_
    refine sw_move F ⟨rfl, rfl, rfl⟩ rfl rfl fun A F => ?_
    refine sw_seq2 F ⟨rfl, rfl, rfl⟩ rfl rfl rfl fun A F => ?_
    refine sw_asg F ⟨rfl, rfl, rfl⟩ rfl rfl fun A F => ?_
    refine sw_end ?_
    show Code.wp _ _ _ _ _
    refine sw_cond F rfl (fun hc12 => ?_) (fun hc12 => ?_)
    · skip
      replace kn := kn.ite_pos (stands_eq hn hc12)
      refine sw_seq ?_
      refine sw_reg ?_
      refine sw_move F ⟨rfl, rfl, rfl⟩ rfl rfl fun A F => ?_
      refine sw_call0 (rnext_m text c b (.ok σ)) F M ⟨rfl, rfl, rfl⟩ rfl rfl ?_
      rintro _ S13 A w ⟨_, h14⟩ F M
      replace kn := kn.step (take_here (stands_eq hn hc12) h14)
      refine sw_end ?_
      show Code.wp _ _ _ _ _
      refine sw_seq ?_
      refine sw_reg ?_
      refine sw_build F _ [.int .i64 2, .int .i64 1, .string ⟨#[]⟩, .slice none 0 0] ⟨rfl, rfl, rfl⟩ rfl (by kernel_rfl) rfl fun A F => ?_
      refine sw_setAll F M 1 ⟨rfl, rfl, rfl⟩ rfl rfl rfl (by kernel_rfl) rfl rfl fun w M => ?_
      simp only [List.set_cons_zero, List.set_cons_succ] at M
      refine sw_end ?_
      show Code.wp _ _ _ _ _
      refine wp_ret ?_
      repeat (first | refine then_ret ?_ | refine block_ret ?_)
      exact sw_retbox F M 1 Tryd.results69 rfl rfl (by kernel_rfl) (by kernel_rfl) ⟨_, exF 2 1 [] none 0 [], S13, rfl, M.but, M.st, lie_cons (by constructor <;> omega) (lie_cons (by constructor <;> omega) (lie_cons trivial (lie_cons ⟨Nat.le_refl _, Nat.zero_le _, .inl rfl⟩ (lie_nil _ _)))), 2, 1, [], none, 0, [], rfl, rfl, kn.fin⟩
    · skip
      replace kn := kn.ite_neg (by rw [stands_ne hn hc12]; decide)
      replace kn := kn.step (Rv.of (rel_is kFalse (.ok σ)))
      refine sw_seq ?_
      refine sw_reg ?_
      refine sw_move F ⟨rfl, rfl, rfl⟩ rfl rfl fun A F => ?_
      refine sw_seq2 F ⟨rfl, rfl, rfl⟩ rfl rfl rfl fun A F => ?_
      refine sw_asg F ⟨rfl, rfl, rfl⟩ rfl rfl fun A F => ?_
      refine sw_end ?_
      show Code.wp _ _ _ _ _
      refine sw_cond F rfl (fun hc15 => ?_) (fun hc15 => ?_)
      · skip
        replace kn := kn.ite_pos (stands_eq hn hc15)
        refine sw_seq ?_
        refine sw_reg ?_
        refine sw_move F ⟨rfl, rfl, rfl⟩ rfl rfl fun A F => ?_
        refine sw_call0 (rnext_m text c b (.ok σ)) F M ⟨rfl, rfl, rfl⟩ rfl rfl ?_
        rintro _ S16 A w ⟨_, h17⟩ F M
        replace kn := kn.step (take_here (stands_eq hn hc15) h17)
        refine sw_end ?_
        show Code.wp _ _ _ _ _
        refine sw_seq ?_
        refine sw_reg ?_
        refine sw_build F _ [.int .i64 2, .int .i64 0, .string ⟨#[]⟩, .slice none 0 0] ⟨rfl, rfl, rfl⟩ rfl (by kernel_rfl) rfl fun A F => ?_
        refine sw_setAll F M 1 ⟨rfl, rfl, rfl⟩ rfl rfl rfl (by kernel_rfl) rfl rfl fun w M => ?_
        simp only [List.set_cons_zero, List.set_cons_succ] at M
        refine sw_end ?_
        show Code.wp _ _ _ _ _
        refine wp_ret ?_
        repeat (first | refine then_ret ?_ | refine block_ret ?_)
        exact sw_retbox F M 1 Tryd.results69 rfl rfl (by kernel_rfl) (by kernel_rfl) ⟨_, exF 2 0 [] none 0 [], S16, rfl, M.but, M.st, lie_cons (by constructor <;> omega) (lie_cons (by constructor <;> omega) (lie_cons trivial (lie_cons ⟨Nat.le_refl _, Nat.zero_le _, .inl rfl⟩ (lie_nil _ _)))), 2, 0, [], none, 0, [], rfl, rfl, kn.fin⟩
      · skip
        replace kn := kn.ite_neg (by rw [stands_ne hn hc15]; decide)
        replace kn := kn.step (Rv.of (rel_pick (operW 7) (.ok σ)))
        refine sw_seq ?_
        refine sw_reg ?_
        refine sw_move F ⟨rfl, rfl, rfl⟩ rfl rfl fun A F => ?_
        refine sw_callR (by kernel_rfl) (rpLeaf_any tx0 _) F ⟨rfl, rfl, rfl⟩ rfl rfl ?_
        rintro e _ ⟨rfl, rfl⟩
        refine ⟨_, rfl, fun A F => ?_⟩
        refine sw_gtr F ⟨rfl, rfl, rfl⟩ rfl rfl rfl fun A F => ?_
        refine sw_asg F ⟨rfl, rfl, rfl⟩ rfl rfl fun A F => ?_
        refine sw_end ?_
        show Code.wp _ _ _ _ _
        refine sw_cond F rfl (fun hc18 => ?_) (fun hc18 => ?_)
        · skip
          replace hc18 := of_decide_eq_true hc18
          have hp := word_leaf hn hc18
          replace kn := kn.ite_neg (by rw [hp.1]; omega)
          refine sw_seq ?_
          refine sw_reg ?_
          refine sw_move F ⟨rfl, rfl, rfl⟩ rfl rfl fun A F => ?_
          refine sw_call0 (rnext_m text c b (.ok σ)) F M ⟨rfl, rfl, rfl⟩ rfl rfl ?_
          rintro _ S19 A w ⟨_, h20⟩ F M
          replace kn := kn.step h20
          replace kn := kn.ite_neg (by rw [hp.1]; exact hp.2)
          refine sw_end ?_
          show Code.wp _ _ _ _ _
          refine sw_seq ?_
          refine sw_reg ?_
          refine sw_move F ⟨rfl, rfl, rfl⟩ rfl rfl fun A F => ?_
          refine sw_callR (by kernel_rfl) (rpLeaf_any tx0 _) F ⟨rfl, rfl, rfl⟩ rfl rfl ?_
          rintro e _ ⟨rfl, rfl⟩
          refine ⟨_, rfl, fun A F => ?_⟩
          refine sw_build F _ [.int .i64 (leafI tx0), .int .i64 0, .string ⟨#[]⟩, .slice none 0 0] ⟨rfl, rfl, rfl⟩ rfl (by kernel_rfl) rfl fun A F => ?_
          refine sw_setAll F M 1 ⟨rfl, rfl, rfl⟩ rfl rfl rfl (by kernel_rfl) rfl rfl fun w M => ?_
          simp only [List.set_cons_zero, List.set_cons_succ] at M
          refine sw_end ?_
          show Code.wp _ _ _ _ _
          refine wp_ret ?_
          repeat (first | refine then_ret ?_ | refine block_ret ?_)
          rw [hp.1] at kn
          have hg := leaf_ge tx0
          exact sw_retbox F M 1 Tryd.results69 rfl rfl (by kernel_rfl) (by kernel_rfl) ⟨_, exF (leafI tx0) 0 [] none 0 [], S19, rfl, M.but, M.st, lie_cons (by constructor <;> omega) (lie_cons (by constructor <;> omega) (lie_cons trivial (lie_cons ⟨Nat.le_refl _, Nat.zero_le _, .inl rfl⟩ (lie_nil _ _)))), leafI tx0, 0, [], none, 0, [], rfl, rfl, kn.fin⟩
        · skip
          replace hc18 := of_decide_eq_false hc18
          have hnl := hc18
          refine sw_seq ?_
          refine sw_reg ?_
          refine sw_move F ⟨rfl, rfl, rfl⟩ rfl rfl fun A F => ?_
          refine sw_callR (by kernel_rfl) (rpOf_any tx0 _) F ⟨rfl, rfl, rfl⟩ rfl rfl ?_
          rintro e _ ⟨rfl, rfl⟩
          refine ⟨_, rfl, fun A F => ?_⟩
          refine sw_gtr F ⟨rfl, rfl, rfl⟩ rfl rfl rfl fun A F => ?_
          refine sw_asg F ⟨rfl, rfl, rfl⟩ rfl rfl fun A F => ?_
          refine sw_end ?_
          show Code.wp _ _ _ _ _
          refine sw_cond F rfl (fun hc21 => ?_) (fun hc21 => ?_)
          · skip
            replace hc21 := of_decide_eq_true hc21
            have hp := word_of hn hnl hc21
            replace kn := kn.ite_neg (by rw [hp.1]; omega)
            refine sw_seq ?_
            refine sw_reg ?_
            refine sw_move F ⟨rfl, rfl, rfl⟩ rfl rfl fun A F => ?_
            refine sw_call0 (rnext_m text c b (.ok σ)) F M ⟨rfl, rfl, rfl⟩ rfl rfl ?_
            rintro _ S22 A w ⟨_, h23⟩ F M
            replace kn := kn.step h23
            replace kn := kn.ite_pos (by rw [hp.1]; exact hp.2)
            replace kn := (kn_inner kn)
            refine sw_end ?_
            show Code.wp _ _ _ _ _
            refine sw_seq ?_
            refine sw_reg ?_
            refine sw_move F ⟨rfl, rfl, rfl⟩ rfl rfl fun A F => ?_
            refine sw_call0 (ropen_m [40] text c b S22) F M ⟨rfl, rfl, rfl⟩ rfl rfl ?_
            rintro _ S24 A w ⟨_, h25⟩ F M
            replace kn := kn.step h25
            refine sw_end ?_
            show Code.wp _ _ _ _ _
            refine sw_seq ?_
            refine sw_reg ?_
            refine sw_move F ⟨rfl, rfl, rfl⟩ rfl rfl fun A F => ?_
            refine sw_call (IH S24 1 (by have := rv_hnext h23 hhere; have := h25.shr (fun _ => Shr.open _); omega) (by omega) (by omega)) F M ⟨rfl, rfl, rfl⟩ rfl rfl ?_
            rintro _ _ S26 A w ⟨op27, m27, s27, la27, lc27, es27, rfl, rfl, h27⟩ F M
            replace kn := kn.step h27
            refine sw_alloc F M [.int .i64 0, .int .i64 0, .string ⟨#[]⟩, .slice none 0 0] ⟨rfl, rfl, rfl⟩ (by kernel_rfl) rfl fun x29 A w F M => ?_
            refine sw_setAll F M 0 ⟨rfl, rfl, rfl⟩ rfl rfl rfl (by kernel_rfl) rfl rfl fun w M => ?_
            simp only [List.set_cons_zero, List.set_cons_succ] at M
            refine sw_end ?_
            show Code.wp _ _ _ _ _
            refine sw_seq ?_
            refine sw_reg ?_
            refine sw_move F ⟨rfl, rfl, rfl⟩ rfl rfl fun A F => ?_
            refine sw_call0 (rshut_m [41] text c b S26) F M ⟨rfl, rfl, rfl⟩ rfl rfl ?_
            rintro _ S30 A w ⟨_, h31⟩ F M
            replace kn := kn.step h31
            refine sw_end ?_
            show Code.wp _ _ _ _ _
            refine sw_seq ?_
            refine wp_region_late (fun _ => True) 5 (by kernel_rfl) ?_
            show wpAnyM _ _ _ _ _ _ _ _ _ w.drew
            replace M := M.drew
            generalize w.drew = w at M
            refine sm_two 0 2 rfl rfl (by kernel_rfl) rfl rfl ?_ ?_
            · skip
              refine sw_move F ⟨rfl, rfl, rfl⟩ rfl rfl fun A F => ?_
              refine sw_end ⟨fun _ => trivial, ?_⟩
              refine sm_two 1 2 rfl rfl (by kernel_rfl) rfl rfl ?_ ?_
              · skip
                refine sw_callR (by kernel_rfl) (rpOf_any tx0 _) F ⟨rfl, rfl, rfl⟩ rfl rfl ?_
                rintro e _ ⟨rfl, rfl⟩
                refine ⟨_, rfl, fun A F => ?_⟩
                refine sw_end ⟨fun _ => trivial, ?_⟩
                refine sm_one 2 rfl (by kernel_rfl) rfl ?_
                refine sw_all F M 0 ⟨rfl, rfl, rfl⟩ rfl rfl (by kernel_rfl) (by kernel_rfl) rfl fun A F => ?_
                refine sw_end ⟨fun _ => trivial, ?_⟩
                refine sm_one 3 rfl (by kernel_rfl) rfl ?_
                refine sw_mkrow (ety := 73) (sz := 4) (z := .agg #[.int .i64 0, .int .i64 0, .string ⟨#[]⟩, .slice none 0 0]) F M _ [exF op27 m27 s27 la27 lc27 es27] ⟨rfl, rfl, rfl⟩ rfl (by kernel_rfl) (by kernel_rfl) rfl (by kernel_rfl) rfl ?_ ?_ rfl fun x32 A w F M => ?_
                · intro g hg
                  simp only [List.mem_cons, List.not_mem_nil, or_false] at hg
                  rcases hg with rfl
                  · exact ⟨rfl, (M.mem.vals 1 rfl).1⟩
                · intro i f b hf hm g hg
                  simp only [List.mem_cons, List.not_mem_nil, or_false] at hg
                  rcases hg with rfl
                  · exact (M.mem.vals 1 rfl).2 i f b hf hm
                refine sw_end ⟨fun _ => trivial, ?_⟩
                refine sm_one 4 rfl (by kernel_rfl) rfl ?_
                refine sw_build F _ [.int .i64 (ofI tx0), .int .i64 0, .string ⟨#[]⟩, .slice (some ⟨x32, 0, none⟩) 1 1] ⟨rfl, rfl, rfl⟩ rfl (by kernel_rfl) rfl fun A F => ?_
                refine sw_end ⟨fun _ => trivial, ?_⟩
                refine sm_one 5 rfl (by kernel_rfl) rfl ?_
                refine sw_setAll F M 4 ⟨rfl, rfl, rfl⟩ rfl rfl rfl (by kernel_rfl) rfl rfl fun w M => ?_
                simp only [List.set_cons_zero, List.set_cons_succ] at M
                refine sw_end ⟨fun _ => trivial, ?_⟩
                refine wpAnyM_done (by kernel_rfl) ?_ _
                show Code.wp _ _ _ _ _
                refine wp_ret ?_
                repeat (first | refine then_ret ?_ | refine block_ret ?_)
                rw [hp.1] at kn
                have hg := of_ge tx0
                exact sw_retbox F M 4 Tryd.results69 rfl rfl (by kernel_rfl) (by kernel_rfl) ⟨_, exF (ofI tx0) 0 [] (some ⟨x32, 0, none⟩) 1 [exF op27 m27 s27 la27 lc27 es27], S30, rfl, M.but, M.st, lie_cons (by constructor <;> omega) (lie_cons (by constructor <;> omega) (lie_cons trivial (lie_cons (M.mem.rowlie 0 rfl) (lie_nil _ _)))), ofI tx0, 0, [], _, _, _, rfl, rfl, kn.fin⟩
              · skip
                refine sw_all F M 0 ⟨rfl, rfl, rfl⟩ rfl rfl (by kernel_rfl) (by kernel_rfl) rfl fun A F => ?_
                refine sw_end ⟨fun _ => trivial, ?_⟩
                refine sm_two 1 3 rfl rfl (by kernel_rfl) rfl rfl ?_ ?_
                · skip
                  refine sw_callR (by kernel_rfl) (rpOf_any tx0 _) F ⟨rfl, rfl, rfl⟩ rfl rfl ?_
                  rintro e _ ⟨rfl, rfl⟩
                  refine ⟨_, rfl, fun A F => ?_⟩
                  refine sw_end ⟨fun _ => trivial, ?_⟩
                  refine sm_one 3 rfl (by kernel_rfl) rfl ?_
                  refine sw_mkrow (ety := 73) (sz := 4) (z := .agg #[.int .i64 0, .int .i64 0, .string ⟨#[]⟩, .slice none 0 0]) F M _ [exF op27 m27 s27 la27 lc27 es27] ⟨rfl, rfl, rfl⟩ rfl (by kernel_rfl) (by kernel_rfl) rfl (by kernel_rfl) rfl ?_ ?_ rfl fun x34 A w F M => ?_
                  · intro g hg
                    simp only [List.mem_cons, List.not_mem_nil, or_false] at hg
                    rcases hg with rfl
                    · exact ⟨rfl, (M.mem.vals 1 rfl).1⟩
                  · intro i f b hf hm g hg
                    simp only [List.mem_cons, List.not_mem_nil, or_false] at hg
                    rcases hg with rfl
                    · exact (M.mem.vals 1 rfl).2 i f b hf hm
                  refine sw_end ⟨fun _ => trivial, ?_⟩
                  refine sm_one 4 rfl (by kernel_rfl) rfl ?_
                  refine sw_build F _ [.int .i64 (ofI tx0), .int .i64 0, .string ⟨#[]⟩, .slice (some ⟨x34, 0, none⟩) 1 1] ⟨rfl, rfl, rfl⟩ rfl (by kernel_rfl) rfl fun A F => ?_
                  refine sw_end ⟨fun _ => trivial, ?_⟩
                  refine sm_one 5 rfl (by kernel_rfl) rfl ?_
                  refine sw_setAll F M 4 ⟨rfl, rfl, rfl⟩ rfl rfl rfl (by kernel_rfl) rfl rfl fun w M => ?_
                  simp only [List.set_cons_zero, List.set_cons_succ] at M
                  refine sw_end ⟨fun _ => trivial, ?_⟩
                  refine wpAnyM_done (by kernel_rfl) ?_ _
                  show Code.wp _ _ _ _ _
                  refine wp_ret ?_
                  repeat (first | refine then_ret ?_ | refine block_ret ?_)
                  rw [hp.1] at kn
                  have hg := of_ge tx0
                  exact sw_retbox F M 4 Tryd.results69 rfl rfl (by kernel_rfl) (by kernel_rfl) ⟨_, exF (ofI tx0) 0 [] (some ⟨x34, 0, none⟩) 1 [exF op27 m27 s27 la27 lc27 es27], S30, rfl, M.but, M.st, lie_cons (by constructor <;> omega) (lie_cons (by constructor <;> omega) (lie_cons trivial (lie_cons (M.mem.rowlie 0 rfl) (lie_nil _ _)))), ofI tx0, 0, [], _, _, _, rfl, rfl, kn.fin⟩
                · skip
                  refine sw_mkrow (ety := 73) (sz := 4) (z := .agg #[.int .i64 0, .int .i64 0, .string ⟨#[]⟩, .slice none 0 0]) F M _ [exF op27 m27 s27 la27 lc27 es27] ⟨rfl, rfl, rfl⟩ rfl (by kernel_rfl) (by kernel_rfl) rfl (by kernel_rfl) rfl ?_ ?_ rfl fun x36 A w F M => ?_
                  · intro g hg
                    simp only [List.mem_cons, List.not_mem_nil, or_false] at hg
                    rcases hg with rfl
                    · exact ⟨rfl, (M.mem.vals 1 rfl).1⟩
                  · intro i f b hf hm g hg
                    simp only [List.mem_cons, List.not_mem_nil, or_false] at hg
                    rcases hg with rfl
                    · exact (M.mem.vals 1 rfl).2 i f b hf hm
                  refine sw_end ⟨fun _ => trivial, ?_⟩
                  refine sm_one 1 rfl (by kernel_rfl) rfl ?_
                  refine sw_callR (by kernel_rfl) (rpOf_any tx0 _) F ⟨rfl, rfl, rfl⟩ rfl rfl ?_
                  rintro e _ ⟨rfl, rfl⟩
                  refine ⟨_, rfl, fun A F => ?_⟩
                  refine sw_end ⟨fun _ => trivial, ?_⟩
                  refine sm_one 4 rfl (by kernel_rfl) rfl ?_
                  refine sw_build F _ [.int .i64 (ofI tx0), .int .i64 0, .string ⟨#[]⟩, .slice (some ⟨x36, 0, none⟩) 1 1] ⟨rfl, rfl, rfl⟩ rfl (by kernel_rfl) rfl fun A F => ?_
                  refine sw_end ⟨fun _ => trivial, ?_⟩
                  refine sm_one 5 rfl (by kernel_rfl) rfl ?_
                  refine sw_setAll F M 4 ⟨rfl, rfl, rfl⟩ rfl rfl rfl (by kernel_rfl) rfl rfl fun w M => ?_
                  simp only [List.set_cons_zero, List.set_cons_succ] at M
                  refine sw_end ⟨fun _ => trivial, ?_⟩
                  refine wpAnyM_done (by kernel_rfl) ?_ _
                  show Code.wp _ _ _ _ _
                  refine wp_ret ?_
                  repeat (first | refine then_ret ?_ | refine block_ret ?_)
                  rw [hp.1] at kn
                  have hg := of_ge tx0
                  exact sw_retbox F M 4 Tryd.results69 rfl rfl (by kernel_rfl) (by kernel_rfl) ⟨_, exF (ofI tx0) 0 [] (some ⟨x36, 0, none⟩) 1 [exF op27 m27 s27 la27 lc27 es27], S30, rfl, M.but, M.st, lie_cons (by constructor <;> omega) (lie_cons (by constructor <;> omega) (lie_cons trivial (lie_cons (M.mem.rowlie 0 rfl) (lie_nil _ _)))), ofI tx0, 0, [], _, _, _, rfl, rfl, kn.fin⟩
            · skip
              refine sw_all F M 0 ⟨rfl, rfl, rfl⟩ rfl rfl (by kernel_rfl) (by kernel_rfl) rfl fun A F => ?_
              refine sw_end ⟨fun _ => trivial, ?_⟩
              refine sm_two 0 3 rfl rfl (by kernel_rfl) rfl rfl ?_ ?_
              · skip
                refine sw_move F ⟨rfl, rfl, rfl⟩ rfl rfl fun A F => ?_
                refine sw_end ⟨fun _ => trivial, ?_⟩
                refine sm_two 1 3 rfl rfl (by kernel_rfl) rfl rfl ?_ ?_
                · skip
                  refine sw_callR (by kernel_rfl) (rpOf_any tx0 _) F ⟨rfl, rfl, rfl⟩ rfl rfl ?_
                  rintro e _ ⟨rfl, rfl⟩
                  refine ⟨_, rfl, fun A F => ?_⟩
                  refine sw_end ⟨fun _ => trivial, ?_⟩
                  refine sm_one 3 rfl (by kernel_rfl) rfl ?_
                  refine sw_mkrow (ety := 73) (sz := 4) (z := .agg #[.int .i64 0, .int .i64 0, .string ⟨#[]⟩, .slice none 0 0]) F M _ [exF op27 m27 s27 la27 lc27 es27] ⟨rfl, rfl, rfl⟩ rfl (by kernel_rfl) (by kernel_rfl) rfl (by kernel_rfl) rfl ?_ ?_ rfl fun x38 A w F M => ?_
                  · intro g hg
                    simp only [List.mem_cons, List.not_mem_nil, or_false] at hg
                    rcases hg with rfl
                    · exact ⟨rfl, (M.mem.vals 1 rfl).1⟩
                  · intro i f b hf hm g hg
                    simp only [List.mem_cons, List.not_mem_nil, or_false] at hg
                    rcases hg with rfl
                    · exact (M.mem.vals 1 rfl).2 i f b hf hm
                  refine sw_end ⟨fun _ => trivial, ?_⟩
                  refine sm_one 4 rfl (by kernel_rfl) rfl ?_
                  refine sw_build F _ [.int .i64 (ofI tx0), .int .i64 0, .string ⟨#[]⟩, .slice (some ⟨x38, 0, none⟩) 1 1] ⟨rfl, rfl, rfl⟩ rfl (by kernel_rfl) rfl fun A F => ?_
                  refine sw_end ⟨fun _ => trivial, ?_⟩
                  refine sm_one 5 rfl (by kernel_rfl) rfl ?_
                  refine sw_setAll F M 4 ⟨rfl, rfl, rfl⟩ rfl rfl rfl (by kernel_rfl) rfl rfl fun w M => ?_
                  simp only [List.set_cons_zero, List.set_cons_succ] at M
                  refine sw_end ⟨fun _ => trivial, ?_⟩
                  refine wpAnyM_done (by kernel_rfl) ?_ _
                  show Code.wp _ _ _ _ _
                  refine wp_ret ?_
                  repeat (first | refine then_ret ?_ | refine block_ret ?_)
                  rw [hp.1] at kn
                  have hg := of_ge tx0
                  exact sw_retbox F M 4 Tryd.results69 rfl rfl (by kernel_rfl) (by kernel_rfl) ⟨_, exF (ofI tx0) 0 [] (some ⟨x38, 0, none⟩) 1 [exF op27 m27 s27 la27 lc27 es27], S30, rfl, M.but, M.st, lie_cons (by constructor <;> omega) (lie_cons (by constructor <;> omega) (lie_cons trivial (lie_cons (M.mem.rowlie 0 rfl) (lie_nil _ _)))), ofI tx0, 0, [], _, _, _, rfl, rfl, kn.fin⟩
                · skip
                  refine sw_mkrow (ety := 73) (sz := 4) (z := .agg #[.int .i64 0, .int .i64 0, .string ⟨#[]⟩, .slice none 0 0]) F M _ [exF op27 m27 s27 la27 lc27 es27] ⟨rfl, rfl, rfl⟩ rfl (by kernel_rfl) (by kernel_rfl) rfl (by kernel_rfl) rfl ?_ ?_ rfl fun x40 A w F M => ?_
                  · intro g hg
                    simp only [List.mem_cons, List.not_mem_nil, or_false] at hg
                    rcases hg with rfl
                    · exact ⟨rfl, (M.mem.vals 1 rfl).1⟩
                  · intro i f b hf hm g hg
                    simp only [List.mem_cons, List.not_mem_nil, or_false] at hg
                    rcases hg with rfl
                    · exact (M.mem.vals 1 rfl).2 i f b hf hm
                  refine sw_end ⟨fun _ => trivial, ?_⟩
                  refine sm_one 1 rfl (by kernel_rfl) rfl ?_
                  refine sw_callR (by kernel_rfl) (rpOf_any tx0 _) F ⟨rfl, rfl, rfl⟩ rfl rfl ?_
                  rintro e _ ⟨rfl, rfl⟩
                  refine ⟨_, rfl, fun A F => ?_⟩
                  refine sw_end ⟨fun _ => trivial, ?_⟩
                  refine sm_one 4 rfl (by kernel_rfl) rfl ?_
                  refine sw_build F _ [.int .i64 (ofI tx0), .int .i64 0, .string ⟨#[]⟩, .slice (some ⟨x40, 0, none⟩) 1 1] ⟨rfl, rfl, rfl⟩ rfl (by kernel_rfl) rfl fun A F => ?_
                  refine sw_end ⟨fun _ => trivial, ?_⟩
                  refine sm_one 5 rfl (by kernel_rfl) rfl ?_
                  refine sw_setAll F M 4 ⟨rfl, rfl, rfl⟩ rfl rfl rfl (by kernel_rfl) rfl rfl fun w M => ?_
                  simp only [List.set_cons_zero, List.set_cons_succ] at M
                  refine sw_end ⟨fun _ => trivial, ?_⟩
                  refine wpAnyM_done (by kernel_rfl) ?_ _
                  show Code.wp _ _ _ _ _
                  refine wp_ret ?_
                  repeat (first | refine then_ret ?_ | refine block_ret ?_)
                  rw [hp.1] at kn
                  have hg := of_ge tx0
                  exact sw_retbox F M 4 Tryd.results69 rfl rfl (by kernel_rfl) (by kernel_rfl) ⟨_, exF (ofI tx0) 0 [] (some ⟨x40, 0, none⟩) 1 [exF op27 m27 s27 la27 lc27 es27], S30, rfl, M.but, M.st, lie_cons (by constructor <;> omega) (lie_cons (by constructor <;> omega) (lie_cons trivial (lie_cons (M.mem.rowlie 0 rfl) (lie_nil _ _)))), ofI tx0, 0, [], _, _, _, rfl, rfl, kn.fin⟩
              · skip
                refine sw_mkrow (ety := 73) (sz := 4) (z := .agg #[.int .i64 0, .int .i64 0, .string ⟨#[]⟩, .slice none 0 0]) F M _ [exF op27 m27 s27 la27 lc27 es27] ⟨rfl, rfl, rfl⟩ rfl (by kernel_rfl) (by kernel_rfl) rfl (by kernel_rfl) rfl ?_ ?_ rfl fun x42 A w F M => ?_
                · intro g hg
                  simp only [List.mem_cons, List.not_mem_nil, or_false] at hg
                  rcases hg with rfl
                  · exact ⟨rfl, (M.mem.vals 1 rfl).1⟩
                · intro i f b hf hm g hg
                  simp only [List.mem_cons, List.not_mem_nil, or_false] at hg
                  rcases hg with rfl
                  · exact (M.mem.vals 1 rfl).2 i f b hf hm
                refine sw_end ⟨fun _ => trivial, ?_⟩
                refine sm_one 0 rfl (by kernel_rfl) rfl ?_
                refine sw_move F ⟨rfl, rfl, rfl⟩ rfl rfl fun A F => ?_
                refine sw_end ⟨fun _ => trivial, ?_⟩
                refine sm_one 1 rfl (by kernel_rfl) rfl ?_
                refine sw_callR (by kernel_rfl) (rpOf_any tx0 _) F ⟨rfl, rfl, rfl⟩ rfl rfl ?_
                rintro e _ ⟨rfl, rfl⟩
                refine ⟨_, rfl, fun A F => ?_⟩
                refine sw_end ⟨fun _ => trivial, ?_⟩
                refine sm_one 4 rfl (by kernel_rfl) rfl ?_
                refine sw_build F _ [.int .i64 (ofI tx0), .int .i64 0, .string ⟨#[]⟩, .slice (some ⟨x42, 0, none⟩) 1 1] ⟨rfl, rfl, rfl⟩ rfl (by kernel_rfl) rfl fun A F => ?_
                refine sw_end ⟨fun _ => trivial, ?_⟩
                refine sm_one 5 rfl (by kernel_rfl) rfl ?_
                refine sw_setAll F M 4 ⟨rfl, rfl, rfl⟩ rfl rfl rfl (by kernel_rfl) rfl rfl fun w M => ?_
                simp only [List.set_cons_zero, List.set_cons_succ] at M
                refine sw_end ⟨fun _ => trivial, ?_⟩
                refine wpAnyM_done (by kernel_rfl) ?_ _
                show Code.wp _ _ _ _ _
                refine wp_ret ?_
                repeat (first | refine then_ret ?_ | refine block_ret ?_)
                rw [hp.1] at kn
                have hg := of_ge tx0
                exact sw_retbox F M 4 Tryd.results69 rfl rfl (by kernel_rfl) (by kernel_rfl) ⟨_, exF (ofI tx0) 0 [] (some ⟨x42, 0, none⟩) 1 [exF op27 m27 s27 la27 lc27 es27], S30, rfl, M.but, M.st, lie_cons (by constructor <;> omega) (lie_cons (by constructor <;> omega) (lie_cons trivial (lie_cons (M.mem.rowlie 0 rfl) (lie_nil _ _)))), ofI tx0, 0, [], _, _, _, rfl, rfl, kn.fin⟩
          · skip
            replace hc21 := of_decide_eq_false hc21
            replace kn := kn.ite_pos (word_no hn hnl hc21)
            refine wp_skip ?_
            show Code.wp _ _ _ _ _
            refine sw_seq ?_
            refine sw_reg ?_
            refine sw_move F ⟨rfl, rfl, rfl⟩ rfl rfl fun A F => ?_
            refine sw_call0 (rwrong_m text c b (.ok σ)) F M ⟨rfl, rfl, rfl⟩ rfl rfl ?_
            rintro _ S44 A w ⟨_, h45⟩ F M
            refine sw_end ?_
            show Code.wp _ _ _ _ _
            refine sw_seq ?_
            refine sw_reg ?_
            refine sw_build F _ [.int .i64 0, .int .i64 0, .string ⟨#[]⟩, .slice none 0 0] ⟨rfl, rfl, rfl⟩ rfl (by kernel_rfl) rfl fun A F => ?_
            refine sw_setAll F M 1 ⟨rfl, rfl, rfl⟩ rfl rfl rfl (by kernel_rfl) rfl rfl fun w M => ?_
            simp only [List.set_cons_zero, List.set_cons_succ] at M
            refine sw_end ?_
            show Code.wp _ _ _ _ _
            refine wp_ret ?_
            repeat (first | refine then_ret ?_ | refine block_ret ?_)
            exact sw_retbox F M 1 Tryd.results69 rfl rfl (by kernel_rfl) (by kernel_rfl) ⟨_, exF 0 0 [] none 0 [], S44, rfl, M.but, M.st, lie_zero _ _, 0, 0, [], none, 0, [], rfl, rfl, kn.last (wrong_any h45)⟩
set_option maxRecDepth 8000 in
set_option maxHeartbeats 3200000 in
theorem first_w115 {m : Nat} (text : Key) (c : C4) (b : Nat) (IH : ∀ (S : ES) (r : Nat), need S < m → 1 ≤ r → r ≤ 7 → Meth Tryd.prog (PdX text c b) (fun k => k = b) 61 [ptr b, .int .i64 r] S (ExQ (fun n => exprT n r) S)) (σ : St) (hm : need (.ok σ) ≤ m) (s : Key) (hn : σ.now = .fixed s) (hk : tokK σ.now = 115) : Meth Tryd.prog (PdX text c b) (fun k => k = b) 69 [ptr b] (.ok σ) (ExQ atomT (.ok σ)) := by
  have hhere : Here (.ok σ) := ⟨by rw [hn]; simp, by rw [hn]; simp⟩
  refine ⟨by kernel_rfl, fun wO R _ => ?_⟩
  have M := pd_begin R
  have kn := (((kn_word hn).succ).to fun n => by rw [wordT]).step (Rv.of (rel_is [40] (.ok σ)))
  refine sw_fn Tryd.func69 rfl 115 Tryd.ntmps69 rfl fun A F => ?_
  refine sw_seq ?_
  refine sw_reg ?_
  refine sw_alloc F M [.int .i64 0, .int .i64 0, .string ⟨#[]⟩, .slice none 0 0] ⟨rfl, rfl, rfl⟩ (by kernel_rfl) rfl fun x1 A w F M => ?_
  refine sw_end ?_
  show Code.wp _ _ _ _ _
  refine sw_seq ?_
  refine sw_reg ?_
  refine sw_move F ⟨rfl, rfl, rfl⟩ rfl rfl fun A F => ?_
  refine sw_nil F ⟨rfl, rfl, rfl⟩ rfl rfl fun A F => ?_
  refine sw_fld F 2 ⟨rfl, rfl, rfl⟩ rfl (by kernel_rfl) rfl rfl fun A F => ?_
  obtain ⟨at0, kd0, tx0, n0, lv0, er0, kb0, hr0⟩ := M.st.cells
  obtain rfl : kd0 = 115 := hr0.1.trans hk
  refine sw_rng F (tok_range kb0) ⟨rfl, rfl, rfl⟩ rfl (by kernel_rfl) (by kernel_rfl) rfl fun A F => ?_
  obtain rfl : tx0 = s := by have := hr0.2.1; rw [hn] at this; exact this.1
  refine sw_alloc F M [.int .u8 0, .string ⟨#[]⟩, .int .i64 0] ⟨rfl, rfl, rfl⟩ (by kernel_rfl) rfl fun x2 A w F M => ?_
  refine sw_setAll F M 0 ⟨rfl, rfl, rfl⟩ rfl rfl rfl (by kernel_rfl) rfl rfl fun w M => ?_
  simp only [List.set_cons_zero, List.set_cons_succ] at M
  refine sw_end ?_
  show Code.wp _ _ _ _ _
  refine sw_seq ?_
  refine sw_reg ?_
  refine sw_asg F ⟨rfl, rfl, rfl⟩ rfl rfl fun A F => ?_
  refine sw_end ?_
  show Code.wp _ _ _ _ _
  refine sw_seq ?_
  refine sw_seq ?_
  refine sw_reg ?_
  refine sw_fld F 0 ⟨rfl, rfl, rfl⟩ rfl (by kernel_rfl) rfl rfl fun A F => ?_
  refine sw_cell F M 0 ⟨rfl, rfl, rfl⟩ rfl rfl rfl (by kernel_rfl) rfl fun A F => ?_
  refine sw_eql F ⟨rfl, rfl, rfl⟩ rfl rfl rfl fun A F => ?_
  refine sw_move F ⟨rfl, rfl, rfl⟩ rfl rfl fun A F => ?_
  refine sw_on F 3 rfl rfl rfl rfl rfl ?_
  refine sw_fld F 0 ⟨rfl, rfl, rfl⟩ rfl (by kernel_rfl) rfl rfl fun A F => ?_
  refine sw_on F 3 rfl rfl rfl rfl rfl ?_
  refine sw_cell F M 0 ⟨rfl, rfl, rfl⟩ rfl rfl rfl (by kernel_rfl) rfl fun A F => ?_
  refine sw_on F 3 rfl rfl rfl rfl rfl ?_
  refine sw_eql F ⟨rfl, rfl, rfl⟩ rfl rfl rfl fun A F => ?_
  refine sw_pickF F ⟨rfl, rfl, rfl⟩ rfl rfl rfl fun A F => ?_
  refine sw_end ?_
  show Code.wp _ _ _ _ _
  refine sw_true F rfl ?_
  refine sw_reg ?_
  refine sw_fld F 1 ⟨rfl, rfl, rfl⟩ rfl (by kernel_rfl) rfl rfl fun A F => ?_
  refine sw_cell F M 0 ⟨rfl, rfl, rfl⟩ rfl rfl rfl (by kernel_rfl) rfl fun A F => ?_
  refine sw_asg F ⟨rfl, rfl, rfl⟩ rfl rfl fun A F => ?_
  refine sw_end ?_
  show Code.wp _ _ _ _ _
  refine sw_seq ?_
  refine wp_block ?_
  refine sw_seq ?_
  refine sw_reg ?_
  refine sw_fld F 0 ⟨rfl, rfl, rfl⟩ rfl (by kernel_rfl) rfl rfl fun A F => ?_
  refine sw_cell F M 0 ⟨rfl, rfl, rfl⟩ rfl rfl rfl (by kernel_rfl) rfl fun A F => ?_
  refine sw_eql F ⟨rfl, rfl, rfl⟩ rfl rfl rfl fun A F => ?_
  refine sw_asg F ⟨rfl, rfl, rfl⟩ rfl rfl fun A F => ?_
  refine sw_end ?_
  show Code.wp _ _ _ _ _
  refine sw_false F rfl ?_
  refine sw_seq ?_
  refine sw_reg ?_
  refine sw_fld F 0 ⟨rfl, rfl, rfl⟩ rfl (by kernel_rfl) rfl rfl fun A F => ?_
  refine sw_cell F M 0 ⟨rfl, rfl, rfl⟩ rfl rfl rfl (by kernel_rfl) rfl fun A F => ?_
  refine sw_eql F ⟨rfl, rfl, rfl⟩ rfl rfl rfl fun A F => ?_
  refine sw_asg F ⟨rfl, rfl, rfl⟩ rfl rfl fun A F => ?_
  refine sw_end ?_
  show Code.wp _ _ _ _ _
  refine sw_false F rfl ?_
  refine sw_seq ?_
  refine sw_reg ?_
  refine sw_move F ⟨rfl, rfl, rfl⟩ rfl rfl fun A F => ?_
  refine sw_seq2 F ⟨rfl, rfl, rfl⟩ rfl rfl rfl fun A F => ?_
  refine sw_asg F ⟨rfl, rfl, rfl⟩ rfl rfl fun A F => ?_
  refine sw_end ?_
  show Code.wp _ _ _ _ _
  refine sw_cond F rfl (fun hc3 => ?_) (fun hc3 => ?_)
  · skip
    replace kn := kn.ite_pos (stands_eq hn hc3)
    replace kn := kn_paren kn
    refine sw_seq ?_
    refine sw_reg ?_
    refine sw_move F ⟨rfl, rfl, rfl⟩ rfl rfl fun A F => ?_
    refine sw_call0 (ropen_m [40] text c b (.ok σ)) F M ⟨rfl, rfl, rfl⟩ rfl rfl ?_
    rintro _ S4 A w ⟨_, h5⟩ F M
    replace kn := kn.step h5
    refine sw_end ?_
    show Code.wp _ _ _ _ _
    refine sw_seq ?_
    refine sw_reg ?_
    refine sw_move F ⟨rfl, rfl, rfl⟩ rfl rfl fun A F => ?_
    refine sw_call (IH S4 1 (open_lt h5 hm (stands_eq hn hc3)) (by omega) (by omega)) F M ⟨rfl, rfl, rfl⟩ rfl rfl ?_
    rintro _ _ S6 A w ⟨op7, m7, s7, la7, lc7, es7, rfl, rfl, h7⟩ F M
    replace kn := kn.step h7
    refine sw_alloc F M [.int .i64 0, .int .i64 0, .string ⟨#[]⟩, .slice none 0 0] ⟨rfl, rfl, rfl⟩ (by kernel_rfl) rfl fun x9 A w F M => ?_
    refine sw_setAll F M 0 ⟨rfl, rfl, rfl⟩ rfl rfl rfl (by kernel_rfl) rfl rfl fun w M => ?_
    simp only [List.set_cons_zero, List.set_cons_succ] at M
    refine sw_end ?_
    show Code.wp _ _ _ _ _
    refine sw_seq ?_
    refine sw_reg ?_
    refine sw_move F ⟨rfl, rfl, rfl⟩ rfl rfl fun A F => ?_
    refine sw_call0 (rshut_m [41] text c b S6) F M ⟨rfl, rfl, rfl⟩ rfl rfl ?_
    rintro _ S10 A w ⟨_, h11⟩ F M
    replace kn := kn.step h11
    refine sw_end ?_
    show Code.wp _ _ _ _ _
    refine sw_seq ?_
    refine sw_reg ?_
    refine sw_all F M 0 ⟨rfl, rfl, rfl⟩ rfl rfl (by kernel_rfl) (by kernel_rfl) rfl fun A F => ?_
    refine sw_setAll F M 3 ⟨rfl, rfl, rfl⟩ rfl rfl rfl (by kernel_rfl) rfl rfl fun w M => ?_
    simp only [List.set_cons_zero, List.set_cons_succ] at M
    refine sw_end ?_
    show Code.wp _ _ _ _ _
    refine wp_ret ?_
    repeat (first | refine then_ret ?_ | refine block_ret ?_)
    exact sw_retbox F M 3 Tryd.results69 rfl rfl (by kernel_rfl) (by kernel_rfl) ⟨_, exF op7 m7 s7 la7 lc7 es7, S10, rfl, M.but, M.st, M.mem.val (k := 1) rfl, op7, m7, s7, la7, lc7, es7, rfl, rfl, kn.fin⟩
  · skip
    replace kn := kn.ite_neg (by rw [stands_ne hn hc3]; decide)
    replace kn := kn.step (Rv.of (rel_is kTrue (.ok σ)))
    refine sw_seq ?_
    refine sw_reg ?_
    refine sw_move F ⟨rfl, rfl, rfl⟩ rfl rfl fun A F => ?_
    refine sw_seq2 F ⟨rfl, rfl, rfl⟩ rfl rfl rfl fun A F => ?_
    refine sw_asg F ⟨rfl, rfl, rfl⟩ rfl rfl fun A F => ?_
    refine sw_end ?_
    show Code.wp _ _ _ _ _
    refine sw_cond F rfl (fun hc12 => ?_) (fun hc12 => ?_)
    · skip
      replace kn := kn.ite_pos (stands_eq hn hc12)
      refine sw_seq ?_
      refine sw_reg ?_
      refine sw_move F ⟨rfl, rfl, rfl⟩ rfl rfl fun A F => ?_
      refine sw_call0 (rnext_m text c b (.ok σ)) F M ⟨rfl, rfl, rfl⟩ rfl rfl ?_
      rintro _ S13 A w ⟨_, h14⟩ F M
      replace kn := kn.step (take_here (stands_eq hn hc12) h14)
      refine sw_end ?_
      show Code.wp _ _ _ _ _
      refine sw_seq ?_
      refine sw_reg ?_
      refine sw_build F _ [.int .i64 2, .int .i64 1, .string ⟨#[]⟩, .slice none 0 0] ⟨rfl, rfl, rfl⟩ rfl (by kernel_rfl) rfl fun A F => ?_
      refine sw_setAll F M 1 ⟨rfl, rfl, rfl⟩ rfl rfl rfl (by kernel_rfl) rfl rfl fun w M => ?_
      simp only [List.set_cons_zero, List.set_cons_succ] at M
      refine sw_end ?_
      show Code.wp _ _ _ _ _
      refine wp_ret ?_
      repeat (first | refine then_ret ?_ | refine block_ret ?_)
      exact sw_retbox F M 1 Tryd.results69 rfl rfl (by kernel_rfl) (by kernel_rfl) ⟨_, exF 2 1 [] none 0 [], S13, rfl, M.but, M.st, lie_cons (by constructor <;> omega) (lie_cons (by constructor <;> omega) (lie_cons trivial (lie_cons ⟨Nat.le_refl _, Nat.zero_le _, .inl rfl⟩ (lie_nil _ _)))), 2, 1, [], none, 0, [], rfl, rfl, kn.fin⟩
    · skip
      replace kn := kn.ite_neg (by rw [stands_ne hn hc12]; decide)
      replace kn := kn.step (Rv.of (rel_is kFalse (.ok σ)))
      refine sw_seq ?_
      refine sw_reg ?_
      refine sw_move F ⟨rfl, rfl, rfl⟩ rfl rfl fun A F => ?_
      refine sw_seq2 F ⟨rfl, rfl, rfl⟩ rfl rfl rfl fun A F => ?_
      refine sw_asg F ⟨rfl, rfl, rfl⟩ rfl rfl fun A F => ?_
      refine sw_end ?_
      show Code.wp _ _ _ _ _
      refine sw_cond F rfl (fun hc15 => ?_) (fun hc15 => ?_)
      · skip
        replace kn := kn.ite_pos (stands_eq hn hc15)
        refine sw_seq ?_
        refine sw_reg ?_
        refine sw_move F ⟨rfl, rfl, rfl⟩ rfl rfl fun A F => ?_
        refine sw_call0 (rnext_m text c b (.ok σ)) F M ⟨rfl, rfl, rfl⟩ rfl rfl ?_
        rintro _ S16 A w ⟨_, h17⟩ F M
        replace kn := kn.step (take_here (stands_eq hn hc15) h17)
        refine sw_end ?_
        show Code.wp _ _ _ _ _
        refine sw_seq ?_
        refine sw_reg ?_
        refine sw_build F _ [.int .i64 2, .int .i64 0, .string ⟨#[]⟩, .slice none 0 0] ⟨rfl, rfl, rfl⟩ rfl (by kernel_rfl) rfl fun A F => ?_
        refine sw_setAll F M 1 ⟨rfl, rfl, rfl⟩ rfl rfl rfl (by kernel_rfl) rfl rfl fun w M => ?_
        simp only [List.set_cons_zero, List.set_cons_succ] at M
        refine sw_end ?_
        show Code.wp _ _ _ _ _
        refine wp_ret ?_
        repeat (first | refine then_ret ?_ | refine block_ret ?_)
        exact sw_retbox F M 1 Tryd.results69 rfl rfl (by kernel_rfl) (by kernel_rfl) ⟨_, exF 2 0 [] none 0 [], S16, rfl, M.but, M.st, lie_cons (by constructor <;> omega) (lie_cons (by constructor <;> omega) (lie_cons trivial (lie_cons ⟨Nat.le_refl _, Nat.zero_le _, .inl rfl⟩ (lie_nil _ _)))), 2, 0, [], none, 0, [], rfl, rfl, kn.fin⟩
      · skip
        replace kn := kn.ite_neg (by rw [stands_ne hn hc15]; decide)
        replace kn := kn.step (Rv.of (rel_pick (operW 7) (.ok σ)))
        refine sw_seq ?_
        refine sw_reg ?_
        refine sw_move F ⟨rfl, rfl, rfl⟩ rfl rfl fun A F => ?_
        refine sw_callR (by kernel_rfl) (rpLeaf_any tx0 _) F ⟨rfl, rfl, rfl⟩ rfl rfl ?_
        rintro e _ ⟨rfl, rfl⟩
        refine ⟨_, rfl, fun A F => ?_⟩
        refine sw_gtr F ⟨rfl, rfl, rfl⟩ rfl rfl rfl fun A F => ?_
        refine sw_asg F ⟨rfl, rfl, rfl⟩ rfl rfl fun A F => ?_
        refine sw_end ?_
        show Code.wp _ _ _ _ _
        refine sw_cond F rfl (fun hc18 => ?_) (fun hc18 => ?_)
        · skip
          replace hc18 := of_decide_eq_true hc18
          have hp := word_leaf hn hc18
          replace kn := kn.ite_neg (by rw [hp.1]; omega)
          refine sw_seq ?_
          refine sw_reg ?_
          refine sw_move F ⟨rfl, rfl, rfl⟩ rfl rfl fun A F => ?_
          refine sw_call0 (rnext_m text c b (.ok σ)) F M ⟨rfl, rfl, rfl⟩ rfl rfl ?_
          rintro _ S19 A w ⟨_, h20⟩ F M
          replace kn := kn.step h20
          replace kn := kn.ite_neg (by rw [hp.1]; exact hp.2)
          refine sw_end ?_
          show Code.wp _ _ _ _ _
          refine sw_seq ?_
          refine sw_reg ?_
          refine sw_move F ⟨rfl, rfl, rfl⟩ rfl rfl fun A F => ?_
          refine sw_callR (by kernel_rfl) (rpLeaf_any tx0 _) F ⟨rfl, rfl, rfl⟩ rfl rfl ?_
          rintro e _ ⟨rfl, rfl⟩
          refine ⟨_, rfl, fun A F => ?_⟩
          refine sw_build F _ [.int .i64 (leafI tx0), .int .i64 0, .string ⟨#[]⟩, .slice none 0 0] ⟨rfl, rfl, rfl⟩ rfl (by kernel_rfl) rfl fun A F => ?_
          refine sw_setAll F M 1 ⟨rfl, rfl, rfl⟩ rfl rfl rfl (by kernel_rfl) rfl rfl fun w M => ?_
          simp only [List.set_cons_zero, List.set_cons_succ] at M
          refine sw_end ?_
          show Code.wp _ _ _ _ _
          refine wp_ret ?_
          repeat (first | refine then_ret ?_ | refine block_ret ?_)
          rw [hp.1] at kn
          have hg := leaf_ge tx0
          exact sw_retbox F M 1 Tryd.results69 rfl rfl (by kernel_rfl) (by kernel_rfl) ⟨_, exF (leafI tx0) 0 [] none 0 [], S19, rfl, M.but, M.st, lie_cons (by constructor <;> omega) (lie_cons (by constructor <;> omega) (lie_cons trivial (lie_cons ⟨Nat.le_refl _, Nat.zero_le _, .inl rfl⟩ (lie_nil _ _)))), leafI tx0, 0, [], none, 0, [], rfl, rfl, kn.fin⟩
        · skip
          replace hc18 := of_decide_eq_false hc18
          have hnl := hc18
          refine sw_seq ?_
          refine sw_reg ?_
          refine sw_move F ⟨rfl, rfl, rfl⟩ rfl rfl fun A F => ?_
          refine sw_callR (by kernel_rfl) (rpOf_any tx0 _) F ⟨rfl, rfl, rfl⟩ rfl rfl ?_
          rintro e _ ⟨rfl, rfl⟩
          refine ⟨_, rfl, fun A F => ?_⟩
          refine sw_gtr F ⟨rfl, rfl, rfl⟩ rfl rfl rfl fun A F => ?_
          refine sw_asg F ⟨rfl, rfl, rfl⟩ rfl rfl fun A F => ?_
          refine sw_end ?_
          show Code.wp _ _ _ _ _
          refine sw_cond F rfl (fun hc21 => ?_) (fun hc21 => ?_)
          · skip
            replace hc21 := of_decide_eq_true hc21
            have hp := word_of hn hnl hc21
            replace kn := kn.ite_neg (by rw [hp.1]; omega)
            refine sw_seq ?_
            refine sw_reg ?_
            refine sw_move F ⟨rfl, rfl, rfl⟩ rfl rfl fun A F => ?_
            refine sw_call0 (rnext_m text c b (.ok σ)) F M ⟨rfl, rfl, rfl⟩ rfl rfl ?_
            rintro _ S22 A w ⟨_, h23⟩ F M
            replace kn := kn.step h23
            replace kn := kn.ite_pos (by rw [hp.1]; exact hp.2)
            replace kn := (kn_inner kn)
            refine sw_end ?_
            show Code.wp _ _ _ _ _
            refine sw_seq ?_
            refine sw_reg ?_
            refine sw_move F ⟨rfl, rfl, rfl⟩ rfl rfl fun A F => ?_
            refine sw_call0 (ropen_m [40] text c b S22) F M ⟨rfl, rfl, rfl⟩ rfl rfl ?_
            rintro _ S24 A w ⟨_, h25⟩ F M
            replace kn := kn.step h25
            refine sw_end ?_
            show Code.wp _ _ _ _ _
            refine sw_seq ?_
            refine sw_reg ?_
            refine sw_move F ⟨rfl, rfl, rfl⟩ rfl rfl fun A F => ?_
            refine sw_call (IH S24 1 (by have := rv_hnext h23 hhere; have := h25.shr (fun _ => Shr.open _); omega) (by omega) (by omega)) F M ⟨rfl, rfl, rfl⟩ rfl rfl ?_
            rintro _ _ S26 A w ⟨op27, m27, s27, la27, lc27, es27, rfl, rfl, h27⟩ F M
            replace kn := kn.step h27
            refine sw_alloc F M [.int .i64 0, .int .i64 0, .string ⟨#[]⟩, .slice none 0 0] ⟨rfl, rfl, rfl⟩ (by kernel_rfl) rfl fun x29 A w F M => ?_
            refine sw_setAll F M 0 ⟨rfl, rfl, rfl⟩ rfl rfl rfl (by kernel_rfl) rfl rfl fun w M => ?_
            simp only [List.set_cons_zero, List.set_cons_succ] at M
            refine sw_end ?_
            show Code.wp _ _ _ _ _
            refine sw_seq ?_
            refine sw_reg ?_
            refine sw_move F ⟨rfl, rfl, rfl⟩ rfl rfl fun A F => ?_
            refine sw_call0 (rshut_m [41] text c b S26) F M ⟨rfl, rfl, rfl⟩ rfl rfl ?_
            rintro _ S30 A w ⟨_, h31⟩ F M
            replace kn := kn.step h31
            refine sw_end ?_
            show Code.wp _ _ _ _ _
            refine sw_seq ?_
            refine wp_region_late (fun _ => True) 5 (by kernel_rfl) ?_
            show wpAnyM _ _ _ _ _ _ _ _ _ w.drew
            replace M := M.drew
            generalize w.drew = w at M
            refine sm_two 0 2 rfl rfl (by kernel_rfl) rfl rfl ?_ ?_
            · skip
              refine sw_move F ⟨rfl, rfl, rfl⟩ rfl rfl fun A F => ?_
              refine sw_end ⟨fun _ => trivial, ?_⟩
              refine sm_two 1 2 rfl rfl (by kernel_rfl) rfl rfl ?_ ?_
              · skip
                refine sw_callR (by kernel_rfl) (rpOf_any tx0 _) F ⟨rfl, rfl, rfl⟩ rfl rfl ?_
                rintro e _ ⟨rfl, rfl⟩
                refine ⟨_, rfl, fun A F => ?_⟩
                refine sw_end ⟨fun _ => trivial, ?_⟩
                refine sm_one 2 rfl (by kernel_rfl) rfl ?_
                refine sw_all F M 0 ⟨rfl, rfl, rfl⟩ rfl rfl (by kernel_rfl) (by kernel_rfl) rfl fun A F => ?_
                refine sw_end ⟨fun _ => trivial, ?_⟩
                refine sm_one 3 rfl (by kernel_rfl) rfl ?_
                refine sw_mkrow (ety := 73) (sz := 4) (z := .agg #[.int .i64 0, .int .i64 0, .string ⟨#[]⟩, .slice none 0 0]) F M _ [exF op27 m27 s27 la27 lc27 es27] ⟨rfl, rfl, rfl⟩ rfl (by kernel_rfl) (by kernel_rfl) rfl (by kernel_rfl) rfl ?_ ?_ rfl fun x32 A w F M => ?_
                · intro g hg
                  simp only [List.mem_cons, List.not_mem_nil, or_false] at hg
                  rcases hg with rfl
                  · exact ⟨rfl, (M.mem.vals 1 rfl).1⟩
                · intro i f b hf hm g hg
                  simp only [List.mem_cons, List.not_mem_nil, or_false] at hg
                  rcases hg with rfl
                  · exact (M.mem.vals 1 rfl).2 i f b hf hm
                refine sw_end ⟨fun _ => trivial, ?_⟩
                refine sm_one 4 rfl (by kernel_rfl) rfl ?_
                refine sw_build F _ [.int .i64 (ofI tx0), .int .i64 0, .string ⟨#[]⟩, .slice (some ⟨x32, 0, none⟩) 1 1] ⟨rfl, rfl, rfl⟩ rfl (by kernel_rfl) rfl fun A F => ?_
                refine sw_end ⟨fun _ => trivial, ?_⟩
                refine sm_one 5 rfl (by kernel_rfl) rfl ?_
                refine sw_setAll F M 4 ⟨rfl, rfl, rfl⟩ rfl rfl rfl (by kernel_rfl) rfl rfl fun w M => ?_
                simp only [List.set_cons_zero, List.set_cons_succ] at M
                refine sw_end ⟨fun _ => trivial, ?_⟩
                refine wpAnyM_done (by kernel_rfl) ?_ _
                show Code.wp _ _ _ _ _
                refine wp_ret ?_
                repeat (first | refine then_ret ?_ | refine block_ret ?_)
                rw [hp.1] at kn
                have hg := of_ge tx0
                exact sw_retbox F M 4 Tryd.results69 rfl rfl (by kernel_rfl) (by kernel_rfl) ⟨_, exF (ofI tx0) 0 [] (some ⟨x32, 0, none⟩) 1 [exF op27 m27 s27 la27 lc27 es27], S30, rfl, M.but, M.st, lie_cons (by constructor <;> omega) (lie_cons (by constructor <;> omega) (lie_cons trivial (lie_cons (M.mem.rowlie 0 rfl) (lie_nil _ _)))), ofI tx0, 0, [], _, _, _, rfl, rfl, kn.fin⟩
              · skip
                refine sw_all F M 0 ⟨rfl, rfl, rfl⟩ rfl rfl (by kernel_rfl) (by kernel_rfl) rfl fun A F => ?_
                refine sw_end ⟨fun _ => trivial, ?_⟩
                refine sm_two 1 3 rfl rfl (by kernel_rfl) rfl rfl ?_ ?_
                · skip
                  refine sw_callR (by kernel_rfl) (rpOf_any tx0 _) F ⟨rfl, rfl, rfl⟩ rfl rfl ?_
                  rintro e _ ⟨rfl, rfl⟩
                  refine ⟨_, rfl, fun A F => ?_⟩
                  refine sw_end ⟨fun _ => trivial, ?_⟩
                  refine sm_one 3 rfl (by kernel_rfl) rfl ?_
                  refine sw_mkrow (ety := 73) (sz := 4) (z := .agg #[.int .i64 0, .int .i64 0, .string ⟨#[]⟩, .slice none 0 0]) F M _ [exF op27 m27 s27 la27 lc27 es27] ⟨rfl, rfl, rfl⟩ rfl (by kernel_rfl) (by kernel_rfl) rfl (by kernel_rfl) rfl ?_ ?_ rfl fun x34 A w F M => ?_
                  · intro g hg
                    simp only [List.mem_cons, List.not_mem_nil, or_false] at hg
                    rcases hg with rfl
                    · exact ⟨rfl, (M.mem.vals 1 rfl).1⟩
                  · intro i f b hf hm g hg
                    simp only [List.mem_cons, List.not_mem_nil, or_false] at hg
                    rcases hg with rfl
                    · exact (M.mem.vals 1 rfl).2 i f b hf hm
                  refine sw_end ⟨fun _ => trivial, ?_⟩
                  refine sm_one 4 rfl (by kernel_rfl) rfl ?_
                  refine sw_build F _ [.int .i64 (ofI tx0), .int .i64 0, .string ⟨#[]⟩, .slice (some ⟨x34, 0, none⟩) 1 1] ⟨rfl, rfl, rfl⟩ rfl (by kernel_rfl) rfl fun A F => ?_
                  refine sw_end ⟨fun _ => trivial, ?_⟩
                  refine sm_one 5 rfl (by kernel_rfl) rfl ?_
                  refine sw_setAll F M 4 ⟨rfl, rfl, rfl⟩ rfl rfl rfl (by kernel_rfl) rfl rfl fun w M => ?_
                  simp only [List.set_cons_zero, List.set_cons_succ] at M
                  refine sw_end ⟨fun _ => trivial, ?_⟩
                  refine wpAnyM_done (by kernel_rfl) ?_ _
                  show Code.wp _ _ _ _ _
                  refine wp_ret ?_
                  repeat (first | refine then_ret ?_ | refine block_ret ?_)
                  rw [hp.1] at kn
                  have hg := of_ge tx0
                  exact sw_retbox F M 4 Tryd.results69 rfl rfl (by kernel_rfl) (by kernel_rfl) ⟨_, exF (ofI tx0) 0 [] (some ⟨x34, 0, none⟩) 1 [exF op27 m27 s27 la27 lc27 es27], S30, rfl, M.but, M.st, lie_cons (by constructor <;> omega) (lie_cons (by constructor <;> omega) (lie_cons trivial (lie_cons (M.mem.rowlie 0 rfl) (lie_nil _ _)))), ofI tx0, 0, [], _, _, _, rfl, rfl, kn.fin⟩
                · skip
                  refine sw_mkrow (ety := 73) (sz := 4) (z := .agg #[.int .i64 0, .int .i64 0, .string ⟨#[]⟩, .slice none 0 0]) F M _ [exF op27 m27 s27 la27 lc27 es27] ⟨rfl, rfl, rfl⟩ rfl (by kernel_rfl) (by kernel_rfl) rfl (by kernel_rfl) rfl ?_ ?_ rfl fun x36 A w F M => ?_
                  · intro g hg
                    simp only [List.mem_cons, List.not_mem_nil, or_false] at hg
                    rcases hg with rfl
                    · exact ⟨rfl, (M.mem.vals 1 rfl).1⟩
                  · intro i f b hf hm g hg
                    simp only [List.mem_cons, List.not_mem_nil, or_false] at hg
                    rcases hg with rfl
                    · exact (M.mem.vals 1 rfl).2 i f b hf hm
                  refine sw_end ⟨fun _ => trivial, ?_⟩
                  refine sm_one 1 rfl (by kernel_rfl) rfl ?_
                  refine sw_callR (by kernel_rfl) (rpOf_any tx0 _) F ⟨rfl, rfl, rfl⟩ rfl rfl ?_
                  rintro e _ ⟨rfl, rfl⟩
                  refine ⟨_, rfl, fun A F => ?_⟩
                  refine sw_end ⟨fun _ => trivial, ?_⟩
                  refine sm_one 4 rfl (by kernel_rfl) rfl ?_
                  refine sw_build F _ [.int .i64 (ofI tx0), .int .i64 0, .string ⟨#[]⟩, .slice (some ⟨x36, 0, none⟩) 1 1] ⟨rfl, rfl, rfl⟩ rfl (by kernel_rfl) rfl fun A F => ?_
                  refine sw_end ⟨fun _ => trivial, ?_⟩
                  refine sm_one 5 rfl (by kernel_rfl) rfl ?_
                  refine sw_setAll F M 4 ⟨rfl, rfl, rfl⟩ rfl rfl rfl (by kernel_rfl) rfl rfl fun w M => ?_
                  simp only [List.set_cons_zero, List.set_cons_succ] at M
                  refine sw_end ⟨fun _ => trivial, ?_⟩
                  refine wpAnyM_done (by kernel_rfl) ?_ _
                  show Code.wp _ _ _ _ _
                  refine wp_ret ?_
                  repeat (first | refine then_ret ?_ | refine block_ret ?_)
                  rw [hp.1] at kn
                  have hg := of_ge tx0
                  exact sw_retbox F M 4 Tryd.results69 rfl rfl (by kernel_rfl) (by kernel_rfl) ⟨_, exF (ofI tx0) 0 [] (some ⟨x36, 0, none⟩) 1 [exF op27 m27 s27 la27 lc27 es27], S30, rfl, M.but, M.st, lie_cons (by constructor <;> omega) (lie_cons (by constructor <;> omega) (lie_cons trivial (lie_cons (M.mem.rowlie 0 rfl) (lie_nil _ _)))), ofI tx0, 0, [], _, _, _, rfl, rfl, kn.fin⟩
            · skip
              refine sw_all F M 0 ⟨rfl, rfl, rfl⟩ rfl rfl (by kernel_rfl) (by kernel_rfl) rfl fun A F => ?_
              refine sw_end ⟨fun _ => trivial, ?_⟩
              refine sm_two 0 3 rfl rfl (by kernel_rfl) rfl rfl ?_ ?_
              · skip
                refine sw_move F ⟨rfl, rfl, rfl⟩ rfl rfl fun A F => ?_
                refine sw_end ⟨fun _ => trivial, ?_⟩
                refine sm_two 1 3 rfl rfl (by kernel_rfl) rfl rfl ?_ ?_
                · skip
                  refine sw_callR (by kernel_rfl) (rpOf_any tx0 _) F ⟨rfl, rfl, rfl⟩ rfl rfl ?_
                  rintro e _ ⟨rfl, rfl⟩
                  refine ⟨_, rfl, fun A F => ?_⟩
                  refine sw_end ⟨fun _ => trivial, ?_⟩
                  refine sm_one 3 rfl (by kernel_rfl) rfl ?_
                  refine sw_mkrow (ety := 73) (sz := 4) (z := .agg #[.int .i64 0, .int .i64 0, .string ⟨#[]⟩, .slice none 0 0]) F M _ [exF op27 m27 s27 la27 lc27 es27] ⟨rfl, rfl, rfl⟩ rfl (by kernel_rfl) (by kernel_rfl) rfl (by kernel_rfl) rfl ?_ ?_ rfl fun x38 A w F M => ?_
                  · intro g hg
                    simp only [List.mem_cons, List.not_mem_nil, or_false] at hg
                    rcases hg with rfl
                    · exact ⟨rfl, (M.mem.vals 1 rfl).1⟩
                  · intro i f b hf hm g hg
                    simp only [List.mem_cons, List.not_mem_nil, or_false] at hg
                    rcases hg with rfl
                    · exact (M.mem.vals 1 rfl).2 i f b hf hm
                  refine sw_end ⟨fun _ => trivial, ?_⟩
                  refine sm_one 4 rfl (by kernel_rfl) rfl ?_
                  refine sw_build F _ [.int .i64 (ofI tx0), .int .i64 0, .string ⟨#[]⟩, .slice (some ⟨x38, 0, none⟩) 1 1] ⟨rfl, rfl, rfl⟩ rfl (by kernel_rfl) rfl fun A F => ?_
                  refine sw_end ⟨fun _ => trivial, ?_⟩
                  refine sm_one 5 rfl (by kernel_rfl) rfl ?_
                  refine sw_setAll F M 4 ⟨rfl, rfl, rfl⟩ rfl rfl rfl (by kernel_rfl) rfl rfl fun w M => ?_
                  simp only [List.set_cons_zero, List.set_cons_succ] at M
                  refine sw_end ⟨fun _ => trivial, ?_⟩
                  refine wpAnyM_done (by kernel_rfl) ?_ _
                  show Code.wp _ _ _ _ _
                  refine wp_ret ?_
                  repeat (first | refine then_ret ?_ | refine block_ret ?_)
                  rw [hp.1] at kn
                  have hg := of_ge tx0
                  exact sw_retbox F M 4 Tryd.results69 rfl rfl (by kernel_rfl) (by kernel_rfl) ⟨_, exF (ofI tx0) 0 [] (some ⟨x38, 0, none⟩) 1 [exF op27 m27 s27 la27 lc27 es27], S30, rfl, M.but, M.st, lie_cons (by constructor <;> omega) (lie_cons (by constructor <;> omega) (lie_cons trivial (lie_cons (M.mem.rowlie 0 rfl) (lie_nil _ _)))), ofI tx0, 0, [], _, _, _, rfl, rfl, kn.fin⟩
                · skip
                  refine sw_mkrow (ety := 73) (sz := 4) (z := .agg #[.int .i64 0, .int .i64 0, .string ⟨#[]⟩, .slice none 0 0]) F M _ [exF op27 m27 s27 la27 lc27 es27] ⟨rfl, rfl, rfl⟩ rfl (by kernel_rfl) (by kernel_rfl) rfl (by kernel_rfl) rfl ?_ ?_ rfl fun x40 A w F M => ?_
                  · intro g hg
                    simp only [List.mem_cons, List.not_mem_nil, or_false] at hg
                    rcases hg with rfl
                    · exact ⟨rfl, (M.mem.vals 1 rfl).1⟩
                  · intro i f b hf hm g hg
                    simp only [List.mem_cons, List.not_mem_nil, or_false] at hg
                    rcases hg with rfl
                    · exact (M.mem.vals 1 rfl).2 i f b hf hm
                  refine sw_end ⟨fun _ => trivial, ?_⟩
                  refine sm_one 1 rfl (by kernel_rfl) rfl ?_
                  refine sw_callR (by kernel_rfl) (rpOf_any tx0 _) F ⟨rfl, rfl, rfl⟩ rfl rfl ?_
                  rintro e _ ⟨rfl, rfl⟩
                  refine ⟨_, rfl, fun A F => ?_⟩
                  refine sw_end ⟨fun _ => trivial, ?_⟩
                  refine sm_one 4 rfl (by kernel_rfl) rfl ?_
                  refine sw_build F _ [.int .i64 (ofI tx0), .int .i64 0, .string ⟨#[]⟩, .slice (some ⟨x40, 0, none⟩) 1 1] ⟨rfl, rfl, rfl⟩ rfl (by kernel_rfl) rfl fun A F => ?_
                  refine sw_end ⟨fun _ => trivial, ?_⟩
                  refine sm_one 5 rfl (by kernel_rfl) rfl ?_
                  refine sw_setAll F M 4 ⟨rfl, rfl, rfl⟩ rfl rfl rfl (by kernel_rfl) rfl rfl fun w M => ?_
                  simp only [List.set_cons_zero, List.set_cons_succ] at M
                  refine sw_end ⟨fun _ => trivial, ?_⟩
                  refine wpAnyM_done (by kernel_rfl) ?_ _
                  show Code.wp _ _ _ _ _
                  refine wp_ret ?_
                  repeat (first | refine then_ret ?_ | refine block_ret ?_)
                  rw [hp.1] at kn
                  have hg := of_ge tx0
                  exact sw_retbox F M 4 Tryd.results69 rfl rfl (by kernel_rfl) (by kernel_rfl) ⟨_, exF (ofI tx0) 0 [] (some ⟨x40, 0, none⟩) 1 [exF op27 m27 s27 la27 lc27 es27], S30, rfl, M.but, M.st, lie_cons (by constructor <;> omega) (lie_cons (by constructor <;> omega) (lie_cons trivial (lie_cons (M.mem.rowlie 0 rfl) (lie_nil _ _)))), ofI tx0, 0, [], _, _, _, rfl, rfl, kn.fin⟩
              · skip
                refine sw_mkrow (ety := 73) (sz := 4) (z := .agg #[.int .i64 0, .int .i64 0, .string ⟨#[]⟩, .slice none 0 0]) F M _ [exF op27 m27 s27 la27 lc27 es27] ⟨rfl, rfl, rfl⟩ rfl (by kernel_rfl) (by kernel_rfl) rfl (by kernel_rfl) rfl ?_ ?_ rfl fun x42 A w F M => ?_
                · intro g hg
                  simp only [List.mem_cons, List.not_mem_nil, or_false] at hg
                  rcases hg with rfl
                  · exact ⟨rfl, (M.mem.vals 1 rfl).1⟩
                · intro i f b hf hm g hg
                  simp only [List.mem_cons, List.not_mem_nil, or_false] at hg
                  rcases hg with rfl
                  · exact (M.mem.vals 1 rfl).2 i f b hf hm
                refine sw_end ⟨fun _ => trivial, ?_⟩
                refine sm_one 0 rfl (by kernel_rfl) rfl ?_
                refine sw_move F ⟨rfl, rfl, rfl⟩ rfl rfl fun A F => ?_
                refine sw_end ⟨fun _ => trivial, ?_⟩
                refine sm_one 1 rfl (by kernel_rfl) rfl ?_
                refine sw_callR (by kernel_rfl) (rpOf_any tx0 _) F ⟨rfl, rfl, rfl⟩ rfl rfl ?_
                rintro e _ ⟨rfl, rfl⟩
                refine ⟨_, rfl, fun A F => ?_⟩
                refine sw_end ⟨fun _ => trivial, ?_⟩
                refine sm_one 4 rfl (by kernel_rfl) rfl ?_
                refine sw_build F _ [.int .i64 (ofI tx0), .int .i64 0, .string ⟨#[]⟩, .slice (some ⟨x42, 0, none⟩) 1 1] ⟨rfl, rfl, rfl⟩ rfl (by kernel_rfl) rfl fun A F => ?_
                refine sw_end ⟨fun _ => trivial, ?_⟩
                refine sm_one 5 rfl (by kernel_rfl) rfl ?_
                refine sw_setAll F M 4 ⟨rfl, rfl, rfl⟩ rfl rfl rfl (by kernel_rfl) rfl rfl fun w M => ?_
                simp only [List.set_cons_zero, List.set_cons_succ] at M
                refine sw_end ⟨fun _ => trivial, ?_⟩
                refine wpAnyM_done (by kernel_rfl) ?_ _
                show Code.wp _ _ _ _ _
                refine wp_ret ?_
                repeat (first | refine then_ret ?_ | refine block_ret ?_)
                rw [hp.1] at kn
                have hg := of_ge tx0
                exact sw_retbox F M 4 Tryd.results69 rfl rfl (by kernel_rfl) (by kernel_rfl) ⟨_, exF (ofI tx0) 0 [] (some ⟨x42, 0, none⟩) 1 [exF op27 m27 s27 la27 lc27 es27], S30, rfl, M.but, M.st, lie_cons (by constructor <;> omega) (lie_cons (by constructor <;> omega) (lie_cons trivial (lie_cons (M.mem.rowlie 0 rfl) (lie_nil _ _)))), ofI tx0, 0, [], _, _, _, rfl, rfl, kn.fin⟩
          · skip
            replace hc21 := of_decide_eq_false hc21
            replace kn := kn.ite_pos (word_no hn hnl hc21)
            refine wp_skip ?_
            show Code.wp _ _ _ _ _
            refine sw_seq ?_
            refine sw_reg ?_
            refine sw_move F ⟨rfl, rfl, rfl⟩ rfl rfl fun A F => ?_
            refine sw_call0 (rwrong_m text c b (.ok σ)) F M ⟨rfl, rfl, rfl⟩ rfl rfl ?_
            rintro _ S44 A w ⟨_, h45⟩ F M
            refine sw_end ?_
            show Code.wp _ _ _ _ _
            refine sw_seq ?_
            refine sw_reg ?_
            refine sw_build F _ [.int .i64 0, .int .i64 0, .string ⟨#[]⟩, .slice none 0 0] ⟨rfl, rfl, rfl⟩ rfl (by kernel_rfl) rfl fun A F => ?_
            refine sw_setAll F M 1 ⟨rfl, rfl, rfl⟩ rfl rfl rfl (by kernel_rfl) rfl rfl fun w M => ?_
            simp only [List.set_cons_zero, List.set_cons_succ] at M
            refine sw_end ?_
            show Code.wp _ _ _ _ _
            refine wp_ret ?_
            repeat (first | refine then_ret ?_ | refine block_ret ?_)
            exact sw_retbox F M 1 Tryd.results69 rfl rfl (by kernel_rfl) (by kernel_rfl) ⟨_, exF 0 0 [] none 0 [], S44, rfl, M.but, M.st, lie_zero _ _, 0, 0, [], none, 0, [], rfl, rfl, kn.last (wrong_any h45)⟩
end Go.Proofs.YtgpjlocgkdlnlaaDoor
