/- The answer's Parser: an expression of a rank. -/
import Derived.Test.YtgpjlocgkdlnlaaDoorSRexB
namespace Go.Proofs.YtgpjlocgkdlnlaaDoor
open Go.RowKit
set_option linter.unusedVariables false
set_option linter.unusedSimpArgs false

theorem prel_err {S : ES} {kd n e : Int} {tx : Key} (h : PRel S kd tx n e) (q : (e != 0) = true) : ∃ er, S = .error er := prel_no h (by simpa [bne] using q)
theorem prel_fine {S : ES} {kd n e : Int} {tx : Key} (h : PRel S kd tx n e) (q : (e != 0) = false) : ∃ σ, S = .ok σ := prel_yes h (by simpa [bne] using q)
theorem lie_zero (lo : Nat) (w : World) : lieAll lo w (exF 0 0 [] none 0 []) := lie_cons (by constructor <;> omega) (lie_cons (by constructor <;> omega) (lie_cons trivial (lie_cons ⟨Nat.le_refl _, Nat.zero_le _, .inl rfl⟩ (lie_nil _ _))))
theorem need_down (S : ES) : need (downS S) = need S := by
  cases S with
  | error e => rfl
  | ok σ => rfl
theorem not_here {S S1 : ES} (h : Rv (fun _ => deeperT) S () S1) (hs : stands kNot S = true) : need S1 ≤ need S ∧ ((∃ e, S1 = .error e) ∨ Here S1 ∧ stands kNot S1 = true) ∧ 16 ≤ need S := by
  obtain ⟨n, h⟩ := h
  have h := h n (Nat.le_refl _)
  have h1 := need_deeper h
  cases S with
  | error e => cases hs
  | ok σ =>
    have hn : σ.now = .fixed kNot := of_decide_eq_true hs
    have h16 : 16 ≤ need (.ok σ) := by
      show 16 ≤ 16 * mu σ
      unfold mu
      rw [hn, if_neg (by simp)]
      omega
    refine ⟨h1, ?_, h16⟩
    by_cases h32 : σ.lv = 32
    · exact .inl ⟨_, h.get_err (if_pos h32)⟩
    · have := (h.get_ok (if_neg h32)).2
      subst this
      exact .inr ⟨⟨by rw [hn]; simp, by rw [hn]; simp⟩, decide_eq_true hn⟩
theorem not_less {S S1 S2 : ES} (h : Rv (fun _ => deeperT) S () S1) (g : Rv (fun _ => nextT) S1 () S2) (hs : stands kNot S = true) : need S2 + 16 ≤ need S := by
  obtain ⟨h1, h2, h3⟩ := not_here h hs
  obtain ⟨n, g⟩ := g
  have g := g n (Nat.le_refl _)
  rcases h2 with ⟨e, rfl⟩ | ⟨h2, _⟩
  · have g : S2 = .error e := g
    subst g
    show 0 + 16 ≤ _
    omega
  · have := need_here g h2
    omega
theorem not_take {S S1 S2 : ES} (h : Rv (fun _ => deeperT) S () S1) (g : Rv (fun _ => nextT) S1 () S2) (hs : stands kNot S = true) : Rv (fun _ => takeT kNot) S1 () S2 := by
  obtain ⟨h1, h2, h3⟩ := not_here h hs
  obtain ⟨n, g⟩ := g
  have g := g n (Nat.le_refl _)
  rcases h2 with ⟨e, rfl⟩ | ⟨_, h2⟩
  · exact Rv.of g
  · refine Rv.of (Rel.at (F := nextT) g fun σ e => ?_)
    subst e
    exact (if_pos (of_decide_eq_true h2)).symm
theorem not_end {S S1 S2 S3 : ES} {x : EV} (hs : stands kNot S = true) (h : Rv (fun _ => deeperT) S () S1) (g : Rv (fun _ => nextT) S1 () S2) (k : Rv (fun n => exprT n ((3 : Nat) : Int)) S2 x S3) : Rv notT S (exP 8 0 [] [x]) (downS S3) := by
  have p := h.bind (G := fun n _ => bnd (takeT kNot) fun _ => bnd (exprT n 3) fun x => bnd upT fun _ => pur (exP 8 0 [] [x])) ((not_take h g hs).bind (G := fun n _ => bnd (exprT n 3) fun x => bnd upT fun _ => pur (exP 8 0 [] [x])) (k.bind (G := fun n x => bnd upT fun _ => pur (exP 8 0 [] [x])) ((Rv.of (rel_down S3)).bind (G := fun n _ => pur (exP 8 0 [] [x])) (Rv.pur _ _))))
  exact Rv.succ (p.to fun n => by rw [notT])
theorem up_not {text : Key} {c : C4} {w : World} {b : Nat} {S S1 S2 S3 : ES} {x : EV} (R : PBox text c w b S) (hs : stands kNot S = true) (h : Rv (fun _ => deeperT) S () S1) (g : Rv (fun _ => nextT) S1 () S2) (k : Rv (fun n => exprT n ((3 : Nat) : Int)) S2 x S3) : Up S3 := by
  have t := not_take h g hs
  obtain ⟨n1, h⟩ := h
  have h := h n1 (Nat.le_refl _)
  obtain ⟨n2, t⟩ := t
  have t := t n2 (Nat.le_refl _)
  obtain ⟨n3, k⟩ := k
  have k := k n3 (Nat.le_refl _)
  cases S3 with
  | error e => trivial
  | ok σ3 =>
    cases S with
    | error e => cases hs
    | ok σ =>
      cases S1 with
      | error e =>
        have t : S2 = .error e := t
        subst t
        cases (show Except.ok σ3 = Except.error e from k)
      | ok σ1 =>
        cases S2 with
        | error e => cases (show Except.ok σ3 = Except.error e from k)
        | ok σ2 =>
          have l0 := R.low σ rfl
          have l1 := R.high σ rfl
          have a1 := deeper_lv h l0 l1
          have a2 := take_lv t
          have a3 := (expr_lw n3).1 _ σ2 x σ3 k (by omega) (by omega)
          show (mu σ3 : Int) - 4999 ≤ σ3.lv
          omega
set_option maxRecDepth 8000 in
set_option maxHeartbeats 3200000 in
theorem rexpr_of {m : Nat} (text : Key) (c : C4) (b : Nat) (IH : ∀ (S : ES) (r : Nat), need S < m → 1 ≤ r → r ≤ 7 → Meth Tryd.prog (PdX text c b) (fun k => k = b) 61 [ptr b, .int .i64 r] S (ExQ (fun n => exprT n r) S)) (S : ES) (hm : need S ≤ m) (HF : (∃ σ, S = .ok σ) → Meth Tryd.prog (PdX text c b) (fun k => k = b) 69 [ptr b] S (ExQ atomT S)) (r : Nat) (h1 : 1 ≤ r) (h7 : r ≤ 7) : Meth Tryd.prog (PdX text c b) (fun k => k = b) 61 [ptr b, .int .i64 r] S (ExQ (fun n => exprT n r) S) := by
  refine ⟨by kernel_rfl, fun wO R _ => ?_⟩
  have M := pd_begin R
  refine sw_fn Tryd.func61 rfl 48 Tryd.ntmps61 rfl fun A F => ?_
  refine sw_seq ?_
  refine sw_reg ?_
  refine sw_alloc F M [.int .i64 0, .int .i64 0, .string ⟨#[]⟩, .slice none 0 0] ⟨rfl, rfl, rfl⟩ (by kernel_rfl) rfl fun x1 A w F M => ?_
  refine sw_end ?_
  show Code.wp _ _ _ _ _
  refine sw_seq ?_
  refine sw_seq ?_
  refine sw_reg ?_
  refine sw_move F ⟨rfl, rfl, rfl⟩ rfl rfl fun A F => ?_
  refine sw_nil F ⟨rfl, rfl, rfl⟩ rfl rfl fun A F => ?_
  refine sw_fld F 6 ⟨rfl, rfl, rfl⟩ rfl (by kernel_rfl) rfl rfl fun A F => ?_
  obtain ⟨atz2, kdz2, txz2, nz2, lvz2, erz2, kbz2, hrz2⟩ := M.st.cells
  refine sw_ext F ((kbz2.cell 6).trans rfl) ⟨rfl, rfl, rfl⟩ rfl (by kernel_rfl) rfl fun A F => ?_
  refine sw_neq F ⟨rfl, rfl, rfl⟩ rfl rfl rfl fun A F => ?_
  refine sw_end ?_
  show Code.wp _ _ _ _ _
  refine sw_cond F rfl (fun hc3 => ?_) (fun hc3 => ?_)
  · skip
    have hno := prel_err hrz2 hc3
    refine sw_seq ?_
    refine sw_reg ?_
    refine sw_build F _ [.int .i64 0, .int .i64 0, .string ⟨#[]⟩, .slice none 0 0] ⟨rfl, rfl, rfl⟩ rfl (by kernel_rfl) rfl fun A F => ?_
    refine sw_setAll F M 0 ⟨rfl, rfl, rfl⟩ rfl rfl rfl (by kernel_rfl) rfl rfl fun w M => ?_
    simp only [List.set_cons_zero, List.set_cons_succ] at M
    refine sw_end ?_
    show Code.wp _ _ _ _ _
    refine wp_ret ?_
    repeat (first | refine then_ret ?_ | refine block_ret ?_)
    exact sw_retbox F M 0 Tryd.results61 rfl rfl (by kernel_rfl) (by kernel_rfl) ⟨_, [.i 0, .i 0, .s [], .l none 0 []], S, rfl, M.but, M.st, lie_zero _ _, 0, 0, [], none, 0, [], rfl, rfl, by obtain ⟨er, rfl⟩ := hno; exact Rv.fault _ er _⟩
  · skip
    have hok := prel_fine hrz2 hc3
    refine wp_skip ?_
    show Code.wp _ _ _ _ _
    refine sw_seq ?_
    refine sw_reg ?_
    refine sw_move F ⟨rfl, rfl, rfl⟩ rfl rfl fun A F => ?_
    refine sw_call0 (ris_m [110, 111, 116] text c b S) F M ⟨rfl, rfl, rfl⟩ rfl rfl ?_
    rintro _ _ A w ⟨_, rfl, rfl⟩ F M
    refine sw_asg F ⟨rfl, rfl, rfl⟩ rfl rfl fun A F => ?_
    refine sw_end ?_
    show Code.wp _ _ _ _ _
    refine sw_seq ?_
    refine sw_seq ?_
    refine sw_reg ?_
    refine sw_move F ⟨rfl, rfl, rfl⟩ rfl rfl fun A F => ?_
    refine sw_leq F ⟨rfl, rfl, rfl⟩ rfl rfl rfl fun A F => ?_
    refine sw_move F ⟨rfl, rfl, rfl⟩ rfl rfl fun A F => ?_
    cases c4 : (decide ((r : Int) ≤ 3)) with
    | true =>
      rw [c4] at F
      replace c4 := of_decide_eq_true c4
      refine sw_on F 2 rfl rfl rfl rfl rfl ?_
      refine sw_move F ⟨rfl, rfl, rfl⟩ rfl rfl fun A F => ?_
      refine sw_pickT F ⟨rfl, rfl, rfl⟩ rfl rfl rfl fun A F => ?_
      refine sw_end ?_
      show Code.wp _ _ _ _ _
      refine sw_cond F rfl (fun hc5 => ?_) (fun hc5 => ?_)
      · skip
        have hst := hc5
        refine sw_seq ?_
        refine sw_reg ?_
        refine sw_move F ⟨rfl, rfl, rfl⟩ rfl rfl fun A F => ?_
        refine sw_call0 (rdeeper_m text c b S) F M ⟨rfl, rfl, rfl⟩ rfl rfl ?_
        rintro _ S6 A w ⟨_, h7⟩ F M
        refine sw_end ?_
        show Code.wp _ _ _ _ _
        refine sw_seq ?_
        refine sw_reg ?_
        refine sw_move F ⟨rfl, rfl, rfl⟩ rfl rfl fun A F => ?_
        refine sw_call0 (rnext_m text c b S6) F M ⟨rfl, rfl, rfl⟩ rfl rfl ?_
        rintro _ S8 A w ⟨_, h9⟩ F M
        refine sw_end ?_
        show Code.wp _ _ _ _ _
        refine sw_seq ?_
        refine sw_reg ?_
        refine sw_move F ⟨rfl, rfl, rfl⟩ rfl rfl fun A F => ?_
        refine sw_call (IH S8 3 (by have := not_less h7 h9 hst; omega) (by omega) (by omega)) F M ⟨rfl, rfl, rfl⟩ rfl rfl ?_
        rintro _ _ S10 A w ⟨op11, m11, s11, la11, lc11, es11, rfl, rfl, h11⟩ F M
        refine sw_alloc F M [.int .i64 0, .int .i64 0, .string ⟨#[]⟩, .slice none 0 0] ⟨rfl, rfl, rfl⟩ (by kernel_rfl) rfl fun x13 A w F M => ?_
        refine sw_setAll F M 0 ⟨rfl, rfl, rfl⟩ rfl rfl rfl (by kernel_rfl) rfl rfl fun w M => ?_
        simp only [List.set_cons_zero, List.set_cons_succ] at M
        refine sw_end ?_
        show Code.wp _ _ _ _ _
        refine sw_seq ?_
        refine sw_reg ?_
        refine sw_move F ⟨rfl, rfl, rfl⟩ rfl rfl fun A F => ?_
        refine sw_nil F ⟨rfl, rfl, rfl⟩ rfl rfl fun A F => ?_
        refine sw_fld F 5 ⟨rfl, rfl, rfl⟩ rfl (by kernel_rfl) rfl rfl fun A F => ?_
        have hup := up_not R hst h7 h9 h11
        obtain ⟨atq, kdq, txq, nq, lvq, eq, kb, hdn⟩ := M.st.down hup
        refine sw_ext F ((kb.cell 5).trans rfl) ⟨rfl, rfl, rfl⟩ rfl (by kernel_rfl) rfl fun A F => ?_
        refine sw_subw F ⟨rfl, rfl, rfl⟩ rfl rfl rfl fun A F => ?_
        refine sw_nil F ⟨rfl, rfl, rfl⟩ rfl rfl fun A F => ?_
        refine sw_fld F 5 ⟨rfl, rfl, rfl⟩ rfl (by kernel_rfl) rfl rfl fun A F => ?_
        refine sw_setX1 F ⟨rfl, rfl, rfl⟩ rfl rfl kb (by kernel_rfl) rfl rfl rfl fun w B kb => ?_
        replace M := M.unit B (hdn _ kb)
        refine sw_end ?_
        show Code.wp _ _ _ _ _
        refine sw_seq ?_
        refine sw_reg ?_
        refine sw_all F M 0 ⟨rfl, rfl, rfl⟩ rfl rfl (by kernel_rfl) (by kernel_rfl) rfl fun A F => ?_
        refine sw_mkrow (ety := 73) (sz := 4) (z := .agg #[.int .i64 0, .int .i64 0, .string ⟨#[]⟩, .slice none 0 0]) F M _ [exF op11 m11 s11 la11 lc11 es11] ⟨rfl, rfl, rfl⟩ rfl (by kernel_rfl) (by kernel_rfl) rfl (by kernel_rfl) rfl ?_ ?_ rfl fun x14 A w F M => ?_
        · intro g hg
          simp only [List.mem_cons, List.not_mem_nil, or_false] at hg
          rcases hg with rfl
          · exact ⟨rfl, (M.mem.vals 1 rfl).1⟩
        · intro i f b hf hm g hg
          simp only [List.mem_cons, List.not_mem_nil, or_false] at hg
          rcases hg with rfl
          · exact (M.mem.vals 1 rfl).2 i f b hf hm
        refine sw_build F _ [.int .i64 8, .int .i64 0, .string ⟨#[]⟩, .slice (some ⟨x14, 0, none⟩) 1 1] ⟨rfl, rfl, rfl⟩ rfl (by kernel_rfl) rfl fun A F => ?_
        refine sw_alloc F M [.int .i64 0, .int .i64 0, .string ⟨#[]⟩, .slice none 0 0] ⟨rfl, rfl, rfl⟩ (by kernel_rfl) rfl fun x16 A w F M => ?_
        refine sw_setAll F M 0 ⟨rfl, rfl, rfl⟩ rfl rfl rfl (by kernel_rfl) rfl rfl fun w M => ?_
        simp only [List.set_cons_zero, List.set_cons_succ] at M
        refine sw_end ?_
        show Code.wp _ _ _ _ _
        refine sw_seq ?_
        refine sw_reg ?_
        refine sw_move F ⟨rfl, rfl, rfl⟩ rfl rfl fun A F => ?_
        refine sw_all F M 0 ⟨rfl, rfl, rfl⟩ rfl rfl (by kernel_rfl) (by kernel_rfl) rfl fun A F => ?_
        refine sw_move F ⟨rfl, rfl, rfl⟩ rfl rfl fun A F => ?_
        replace M := M.over 1 rfl 8 0 [] (by omega) (by omega)
        simp only [List.set_cons_zero, List.set_cons_succ] at M
        replace M := M.swap
        have hsh : need (downS S10) ≤ m := by have := need_down S10; have := h11.shr (fun n => expr_shr1 n _); have := not_less h7 h9 hst; omega
        refine sw_callIn (rmore_of text c b IH (downS S10) hsh 8 0 [] _ _ _ r 2 h1 (by omega)) F M ⟨rfl, rfl, rfl⟩ rfl rfl ?_
        rintro _ _ S17 A w ⟨op18, m18, s18, la18, lc18, es18, rfl, rfl, h18⟩ F M
        refine sw_setAll F M 4 ⟨rfl, rfl, rfl⟩ rfl rfl rfl (by kernel_rfl) rfl rfl fun w M => ?_
        simp only [List.set_cons_zero, List.set_cons_succ] at M
        refine sw_end ?_
        show Code.wp _ _ _ _ _
        refine wp_ret ?_
        repeat (first | refine then_ret ?_ | refine block_ret ?_)
        exact sw_retbox F M 4 Tryd.results61 rfl rfl (by kernel_rfl) (by kernel_rfl) ⟨_, exF op18 m18 s18 la18 lc18 es18, S17, rfl, M.but, M.st, M.mem.val (k := 0) rfl, op18, m18, s18, la18, lc18, es18, rfl, rfl, expr_not (not_end hst h7 h9 h11) hst (3 - r) r (by omega) (by omega) _ _ (rv_perr M.st) h18⟩
      · skip
        have hst := hc5
        refine wp_skip ?_
        show Code.wp _ _ _ _ _
        refine sw_seq ?_
        refine sw_reg ?_
        refine sw_move F ⟨rfl, rfl, rfl⟩ rfl rfl fun A F => ?_
        refine sw_call (HF hok) F M ⟨rfl, rfl, rfl⟩ rfl rfl ?_
        rintro _ _ S20 A w ⟨op21, m21, s21, la21, lc21, es21, rfl, rfl, h21⟩ F M
        refine sw_alloc F M [.int .i64 0, .int .i64 0, .string ⟨#[]⟩, .slice none 0 0] ⟨rfl, rfl, rfl⟩ (by kernel_rfl) rfl fun x23 A w F M => ?_
        refine sw_setAll F M 0 ⟨rfl, rfl, rfl⟩ rfl rfl rfl (by kernel_rfl) rfl rfl fun w M => ?_
        simp only [List.set_cons_zero, List.set_cons_succ] at M
        refine sw_end ?_
        show Code.wp _ _ _ _ _
        refine sw_seq ?_
        refine sw_reg ?_
        refine sw_move F ⟨rfl, rfl, rfl⟩ rfl rfl fun A F => ?_
        refine sw_all F M 0 ⟨rfl, rfl, rfl⟩ rfl rfl (by kernel_rfl) (by kernel_rfl) rfl fun A F => ?_
        refine sw_move F ⟨rfl, rfl, rfl⟩ rfl rfl fun A F => ?_
        replace M := M.swap
        have hsh : need S20 ≤ m := by have := h21.shr (fun n => (expr_shr n).2.2.2.2.2.2.2.2.2); omega
        refine sw_callIn (rmore_of text c b IH S20 hsh op21 m21 s21 la21 lc21 es21 r 6 h1 (by omega)) F M ⟨rfl, rfl, rfl⟩ rfl rfl ?_
        rintro _ _ S24 A w ⟨op25, m25, s25, la25, lc25, es25, rfl, rfl, h25⟩ F M
        refine sw_setAll F M 2 ⟨rfl, rfl, rfl⟩ rfl rfl rfl (by kernel_rfl) rfl rfl fun w M => ?_
        simp only [List.set_cons_zero, List.set_cons_succ] at M
        refine sw_end ?_
        show Code.wp _ _ _ _ _
        refine wp_ret ?_
        repeat (first | refine then_ret ?_ | refine block_ret ?_)
        exact sw_retbox F M 2 Tryd.results61 rfl rfl (by kernel_rfl) (by kernel_rfl) ⟨_, exF op25 m25 s25 la25 lc25 es25, S24, rfl, M.but, M.st, M.mem.val (k := 0) rfl, op25, m25, s25, la25, lc25, es25, rfl, rfl, expr_atom h21 (7 - r) r (by omega) (by omega) (fun _ => hst) _ _ (rv_perr M.st) h25⟩
    | false =>
      rw [c4] at F
      replace c4 := of_decide_eq_false c4
      refine sw_off F 2 rfl rfl rfl rfl rfl rfl rfl fun A F => ?_
      refine sw_pickF F ⟨rfl, rfl, rfl⟩ rfl rfl rfl fun A F => ?_
      refine sw_end ?_
      show Code.wp _ _ _ _ _
      refine sw_false F rfl ?_
      refine wp_skip ?_
      show Code.wp _ _ _ _ _
      refine sw_seq ?_
      refine sw_reg ?_
      refine sw_move F ⟨rfl, rfl, rfl⟩ rfl rfl fun A F => ?_
      refine sw_call (HF hok) F M ⟨rfl, rfl, rfl⟩ rfl rfl ?_
      rintro _ _ S27 A w ⟨op28, m28, s28, la28, lc28, es28, rfl, rfl, h28⟩ F M
      refine sw_alloc F M [.int .i64 0, .int .i64 0, .string ⟨#[]⟩, .slice none 0 0] ⟨rfl, rfl, rfl⟩ (by kernel_rfl) rfl fun x30 A w F M => ?_
      refine sw_setAll F M 0 ⟨rfl, rfl, rfl⟩ rfl rfl rfl (by kernel_rfl) rfl rfl fun w M => ?_
      simp only [List.set_cons_zero, List.set_cons_succ] at M
      refine sw_end ?_
      show Code.wp _ _ _ _ _
      refine sw_seq ?_
      refine sw_reg ?_
      refine sw_move F ⟨rfl, rfl, rfl⟩ rfl rfl fun A F => ?_
      refine sw_all F M 0 ⟨rfl, rfl, rfl⟩ rfl rfl (by kernel_rfl) (by kernel_rfl) rfl fun A F => ?_
      refine sw_move F ⟨rfl, rfl, rfl⟩ rfl rfl fun A F => ?_
      replace M := M.swap
      have hsh : need S27 ≤ m := by have := h28.shr (fun n => (expr_shr n).2.2.2.2.2.2.2.2.2); omega
      refine sw_callIn (rmore_of text c b IH S27 hsh op28 m28 s28 la28 lc28 es28 r 6 h1 (by omega)) F M ⟨rfl, rfl, rfl⟩ rfl rfl ?_
      rintro _ _ S31 A w ⟨op32, m32, s32, la32, lc32, es32, rfl, rfl, h32⟩ F M
      refine sw_setAll F M 2 ⟨rfl, rfl, rfl⟩ rfl rfl rfl (by kernel_rfl) rfl rfl fun w M => ?_
      simp only [List.set_cons_zero, List.set_cons_succ] at M
      refine sw_end ?_
      show Code.wp _ _ _ _ _
      refine wp_ret ?_
      repeat (first | refine then_ret ?_ | refine block_ret ?_)
      exact sw_retbox F M 2 Tryd.results61 rfl rfl (by kernel_rfl) (by kernel_rfl) ⟨_, exF op32 m32 s32 la32 lc32 es32, S31, rfl, M.but, M.st, M.mem.val (k := 0) rfl, op32, m32, s32, la32, lc32, es32, rfl, rfl, expr_atom h28 (7 - r) r (by omega) (by omega) (fun q => absurd q (by omega)) _ _ (rv_perr M.st) h32⟩
end Go.Proofs.YtgpjlocgkdlnlaaDoor
