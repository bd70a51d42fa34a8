/- The answer's Parser: what stands behind an expression. -/
import Derived.Test.YtgpjlocgkdlnlaaDoorM36
namespace Go.Proofs.YtgpjlocgkdlnlaaDoor
open Go.RowKit
set_option linter.unusedVariables false
set_option linter.unusedSimpArgs false

theorem Mem.swap {base : Nat} {a c : Ent} {L : List Ent} {w : World} (M : Mem base (a :: c :: L) w) : Mem base (c :: a :: L) w := by
  have key : ∀ (j : Nat) (f : Ent), (c :: a :: L)[j]? = some f → (a :: c :: L)[if j = 0 then 1 else if j = 1 then 0 else j]? = some f := fun j f h => by
    match j, h with
    | 0, h => simpa using h
    | 1, h => simpa using h
    | j + 2, h => simpa using h
  refine ⟨M.le, fun i e h => M.at_ _ e (key i e h), fun i j e f b hij hi hj hm => M.sep _ _ e f b (fun q => hij ?_) (key i e hi) (key j f hj) hm⟩
  split at q <;> split at q <;> (try split at q) <;> (try split at q) <;> omega
theorem Mm.swap {σ : Type} {X : σ → World → Prop} {T : Nat → Prop} {w0 w : World} {a c : Ent} {E : List Ent} {s : σ} (M : Mm X T w0 (a :: c :: E) s w) : Mm X T w0 (c :: a :: E) s w := ⟨M.lt, M.stb, M.but, M.mem.swap, M.st⟩
theorem here_mem : ∀ (l : List (Key × Int × Int)) (S : ES), (hereI l S).2.1 ≠ 0 → hereI l S ∈ l ∧ Here S
  | [], S, h => absurd rfl h
  | p :: r, S, h => by
    rw [hereI] at h ⊢
    cases hs : stands p.1 S with
    | true => rw [hs] at h; exact ⟨List.mem_cons_self .., Here.of_stands hs⟩
    | false =>
      rw [hs] at h
      have := here_mem r S h
      exact ⟨List.mem_cons_of_mem _ this.1, this.2⟩
theorem here_Here {S : ES} (h : (hereI opn S).2.1 ≠ 0) : Here S := (here_mem opn S h).2
theorem opn_hold : ∀ p ∈ opn, 1 ≤ p.2.2 ∧ p.2.2 ≤ 6 ∧ p.2.2 ≠ 3 ∧ 0 ≤ p.2.1 ∧ p.2.1 ≤ 26 := by decide
theorem here_zero : ∀ (l : List (Key × Int × Int)) (S : ES), (∀ p ∈ l, p.2.1 ≠ 0) → (hereI l S).2.1 = 0 → hereI l S = ([], 0, 0)
  | [], S, _, _ => rfl
  | p :: r, S, hl, h => by
    rw [hereI] at h ⊢
    cases hs : stands p.1 S with
    | true => rw [hs] at h; exact absurd h (hl p (List.mem_cons_self ..))
    | false => rw [hs] at h; exact here_zero r S (fun q hq => hl q (List.mem_cons_of_mem _ hq)) h
theorem opn_nz : ∀ p ∈ opn, p.2.1 ≠ 0 := by decide
theorem rhereq_m (text : Key) (c : C4) (b : Nat) (S : ES) : Meth Tryd.prog (PdX text c b) (fun k => k = b) 78 [ptr b] S fun v fs S' => S = S' ∧ ∃ (t : Key) (op : Int) (h : Nat), v = .agg #[.string (str t), .int .i64 op, .int .i64 (h : Int)] ∧ (hereI opn S).2.1 = op ∧ (hereI opn S).2.2 = (h : Int) ∧ ((0 ≤ op ∧ op ≤ 26) ∧ h ≤ 6 ∧ (op ≠ 0 → 1 ≤ h ∧ h ≠ 3)) := by
  refine ⟨(rhere_m text c b S).1, fun w R hT => ((rhere_m text c b S).2 w R hT).mono ?_⟩
  rintro e w' ⟨v, fs, S', e1, e2, e3, e4, e5, e6⟩
  refine ⟨v, fs, S', e1, e2, e3, e4, e5, (hereI opn S).1, (hereI opn S).2.1, (hereI opn S).2.2.toNat, ?_⟩
  by_cases h0 : (hereI opn S).2.1 = 0
  · have := here_zero opn S opn_nz h0
    rw [e6, this]
    exact ⟨rfl, rfl, rfl, by decide, by decide, fun q => absurd rfl q⟩
  · have := opn_hold _ (here_mem opn S h0).1
    refine ⟨?_, rfl, by omega, by omega, by omega, fun _ => by omega⟩
    rw [e6, Int.toNat_of_nonneg (by omega)]
theorem rv_hnext {S S1 : ES} (h : Rv (fun _ => nextT) S () S1) (hh : Here S) : need S1 + 16 ≤ need S := by
  obtain ⟨n, h⟩ := h
  exact need_here (h n (Nat.le_refl _)) hh
theorem prel_no {S : ES} {kd n e : Int} {tx : Key} (h : PRel S kd tx n e) (q : (e == 0) = false) : ∃ er, S = .error er := by
  cases S with
  | error er => exact ⟨er, rfl⟩
  | ok σ => rw [h.2.2.2] at q; cases q
theorem prel_yes {S : ES} {kd n e : Int} {tx : Key} (h : PRel S kd tx n e) (q : (e == 0) = true) : ∃ σ, S = .ok σ := by
  cases S with
  | error er => exact absurd (h.1.symm.trans (eq_of_beq q)) h.2
  | ok σ => exact ⟨σ, rfl⟩
set_option maxRecDepth 8000 in
set_option maxHeartbeats 3200000 in
theorem rmore_of {m : Nat} (text : Key) (c : C4) (b : Nat) (IH : ∀ (S : ES) (r : Nat), need S < m → 1 ≤ r → r ≤ 7 → Meth Tryd.prog (PdX text c b) (fun k => k = b) 61 [ptr b, .int .i64 r] S (ExQ (fun n => exprT n r) S)) (S : ES) (hm : need S ≤ m) (opz mz : Int) (sz : Key) (laz : Option Addr) (lcz : Nat) (esz : List (List Fld)) (lo hi : Nat) (h1 : 1 ≤ lo) (h6 : hi ≤ 6) : MethIn Tryd.prog (PdX text c b) (fun k => k = b) 68 [ptr b, .agg ((exF opz mz sz laz lcz esz).map Fld.val).toArray, .int .i64 (lo : Int), .int .i64 (hi : Int)] (exF opz mz sz laz lcz esz) S (ExQ (fun n => chainT n hi lo (pvAll (exF opz mz sz laz lcz esz))) S) := by
  refine ⟨by kernel_rfl, fun w0 E wI M => ?_⟩
  refine sw_fn Tryd.func68 rfl 53 Tryd.ntmps68 rfl fun A F => ?_
  refine sw_seq ?_
  refine sw_reg ?_
  refine sw_box F M [.int .i64 opz, .int .i64 mz, .string (str sz), .slice laz esz.length lcz] ⟨rfl, rfl, rfl⟩ rfl rfl rfl fun xb A w F M => ?_
  replace M := M.swap
  refine sw_alloc F M [.int .i64 0, .int .i64 0, .string ⟨#[]⟩, .slice none 0 0] ⟨rfl, rfl, rfl⟩ (by kernel_rfl) rfl fun rb A w F M => ?_
  replace M := M.swap
  refine sw_end ?_
  show Code.wp _ _ _ _ _
  refine sw_seq ?_
  refine wp_block ?_
  refine wp_loop (fun A w => ∃ (S1 : ES) (op1 m1 : Int) (s1 : Key) (la1 : Option Addr) (lc1 : Nat) (es1 : List (List Fld)) (hi1 : Nat), hi1 ≤ 6 ∧ need S1 ≤ need S ∧ Fm 53 [(8, ptr rb), (5, ptr xb), (3, .int .i64 (hi1 : Int)), (2, .int .i64 (lo : Int)), (0, ptr b)] A ∧ Mm (PdX text c b) (fun k => k = b) w0 (.val (exF op1 m1 s1 la1 lc1 es1) :: .box rb [.int .i64 0, .int .i64 0, .string ⟨#[]⟩, .slice none 0 0] 73 :: .box xb [.int .i64 op1, .int .i64 m1, .string (str s1), .slice la1 es1.length lc1] 73 :: E) S1 w ∧ (∀ z S', S' ≠ .error 0 → Rv (fun n => chainT n hi1 lo (pvAll (exF op1 m1 s1 la1 lc1 es1))) S1 z S' → Rv (fun n => chainT n hi lo (pvAll (exF opz mz sz laz lcz esz))) S z S')) (fun _ w => pl text w b) ?_ ?_
  · exact ⟨S, opz, mz, sz, laz, lcz, esz, hi, h6, Nat.le_refl _, F.keep [8, 5, 3, 2, 0] rfl, M, fun _ _ _ q => q⟩
  rintro A w ⟨S1, op1, m1, s1, la1, lc1, es1, hi1, hhi, hle, F, M, hk⟩
  have hpl := M.st.pl
  refine sw_seq ?_
  refine sw_seq ?_
  refine sw_reg ?_
  refine sw_move F ⟨rfl, rfl, rfl⟩ rfl rfl fun A F => ?_
  refine sw_nil F ⟨rfl, rfl, rfl⟩ rfl rfl fun A F => ?_
  refine sw_fld F 6 ⟨rfl, rfl, rfl⟩ rfl (by kernel_rfl) rfl rfl fun A F => ?_
  obtain ⟨atz1, kdz1, txz1, nz1, lvz1, erz1, kbz1, hrz1⟩ := M.st.cells
  refine sw_ext F ((kbz1.cell 6).trans rfl) ⟨rfl, rfl, rfl⟩ rfl (by kernel_rfl) rfl fun A F => ?_
  refine sw_eql F ⟨rfl, rfl, rfl⟩ rfl rfl rfl fun A F => ?_
  refine sw_end ?_
  show Code.wp _ _ _ _ _
  refine sw_cond F rfl (fun hc2 => ?_) (fun hc2 => ?_)
  · skip
    have hok := prel_yes hrz1 hc2
    refine wp_skip ?_
    show Code.wp _ _ _ _ _
    refine wp_block ?_
    refine sw_seq ?_
    refine sw_reg ?_
    refine sw_move F ⟨rfl, rfl, rfl⟩ rfl rfl fun A F => ?_
    refine sw_call0 (rhereq_m text c b S1) F M ⟨rfl, rfl, rfl⟩ rfl rfl ?_
    rintro _ _ A w ⟨_, rfl, t2, o2, h2, rfl, ho2, hh2, hb2⟩ F M
    refine sw_alloc F M [.string ⟨#[]⟩, .int .i64 0, .int .i64 0] ⟨rfl, rfl, rfl⟩ (by kernel_rfl) rfl fun x4 A w F M => ?_
    refine sw_setAll F M 0 ⟨rfl, rfl, rfl⟩ rfl rfl rfl (by kernel_rfl) rfl rfl fun w M => ?_
    simp only [List.set_cons_zero, List.set_cons_succ] at M
    refine sw_end ?_
    show Code.wp _ _ _ _ _
    refine sw_seq ?_
    refine sw_seq ?_
    refine sw_reg ?_
    refine sw_fld F 1 ⟨rfl, rfl, rfl⟩ rfl (by kernel_rfl) rfl rfl fun A F => ?_
    refine sw_cell F M 0 ⟨rfl, rfl, rfl⟩ rfl rfl rfl (by kernel_rfl) rfl fun A F => ?_
    refine sw_eql F ⟨rfl, rfl, rfl⟩ rfl rfl rfl fun A F => ?_
    refine sw_move F ⟨rfl, rfl, rfl⟩ rfl rfl fun A F => ?_
    cases c5 : (o2 == 0) with
    | true =>
      rw [c5] at F
      refine sw_off F 3 rfl rfl rfl rfl rfl rfl rfl fun A F => ?_
      refine sw_off F 3 rfl rfl rfl rfl rfl rfl rfl fun A F => ?_
      refine sw_off F 3 rfl rfl rfl rfl rfl rfl rfl fun A F => ?_
      refine sw_off F 3 rfl rfl rfl rfl rfl rfl rfl fun A F => ?_
      refine sw_pickT F ⟨rfl, rfl, rfl⟩ rfl rfl rfl fun A F => ?_
      refine sw_move F ⟨rfl, rfl, rfl⟩ rfl rfl fun A F => ?_
      refine sw_off F 9 rfl rfl rfl rfl rfl rfl rfl fun A F => ?_
      refine sw_off F 9 rfl rfl rfl rfl rfl rfl rfl fun A F => ?_
      refine sw_off F 9 rfl rfl rfl rfl rfl rfl rfl fun A F => ?_
      refine sw_off F 9 rfl rfl rfl rfl rfl rfl rfl fun A F => ?_
      refine sw_pickT F ⟨rfl, rfl, rfl⟩ rfl rfl rfl fun A F => ?_
      refine sw_end ?_
      show Code.wp _ _ _ _ _
      refine sw_true F rfl ?_
      refine sw_seq ?_
      refine sw_reg ?_
      refine sw_all F M 3 ⟨rfl, rfl, rfl⟩ rfl rfl (by kernel_rfl) (by kernel_rfl) rfl fun A F => ?_
      refine sw_setAll F M 2 ⟨rfl, rfl, rfl⟩ rfl rfl rfl (by kernel_rfl) rfl rfl fun w M => ?_
      simp only [List.set_cons_zero, List.set_cons_succ] at M
      refine sw_end ?_
      show Code.wp _ _ _ _ _
      refine wp_ret ?_
      repeat (first | refine then_ret ?_ | refine block_ret ?_)
      have M2 := M
      replace M2 := M2.drop 3 rfl
      replace M2 := M2.drop 2 rfl
      replace M2 := M2.drop 0 rfl
      exact sw_retbox F M 2 Tryd.results68 rfl rfl (by kernel_rfl) (by kernel_rfl) ⟨_, _, S1, rfl, M2, op1, m1, s1, la1, lc1, es1, rfl, rfl, hk _ _ (rv_perr M.st) (chain_pass hhi h1 (.inl (by rw [ho2]; exact eq_of_beq c5)))⟩
    | false =>
      rw [c5] at F
      have hne : o2 ≠ 0 := by intro q; rw [q] at c5; simp at c5
      refine sw_on F 3 rfl rfl rfl rfl rfl ?_
      refine sw_fld F 2 ⟨rfl, rfl, rfl⟩ rfl (by kernel_rfl) rfl rfl fun A F => ?_
      refine sw_on F 3 rfl rfl rfl rfl rfl ?_
      refine sw_cell F M 0 ⟨rfl, rfl, rfl⟩ rfl rfl rfl (by kernel_rfl) rfl fun A F => ?_
      refine sw_on F 3 rfl rfl rfl rfl rfl ?_
      refine sw_move F ⟨rfl, rfl, rfl⟩ rfl rfl fun A F => ?_
      refine sw_on F 3 rfl rfl rfl rfl rfl ?_
      refine sw_lss F ⟨rfl, rfl, rfl⟩ rfl rfl rfl fun A F => ?_
      refine sw_pickF F ⟨rfl, rfl, rfl⟩ rfl rfl rfl fun A F => ?_
      refine sw_move F ⟨rfl, rfl, rfl⟩ rfl rfl fun A F => ?_
      cases c6 : (decide ((h2 : Int) < (lo : Int))) with
      | true =>
        rw [c6] at F
        replace c6 := of_decide_eq_true c6
        refine sw_off F 9 rfl rfl rfl rfl rfl rfl rfl fun A F => ?_
        refine sw_off F 9 rfl rfl rfl rfl rfl rfl rfl fun A F => ?_
        refine sw_off F 9 rfl rfl rfl rfl rfl rfl rfl fun A F => ?_
        refine sw_off F 9 rfl rfl rfl rfl rfl rfl rfl fun A F => ?_
        refine sw_pickT F ⟨rfl, rfl, rfl⟩ rfl rfl rfl fun A F => ?_
        refine sw_end ?_
        show Code.wp _ _ _ _ _
        refine sw_true F rfl ?_
        refine sw_seq ?_
        refine sw_reg ?_
        refine sw_all F M 3 ⟨rfl, rfl, rfl⟩ rfl rfl (by kernel_rfl) (by kernel_rfl) rfl fun A F => ?_
        refine sw_setAll F M 2 ⟨rfl, rfl, rfl⟩ rfl rfl rfl (by kernel_rfl) rfl rfl fun w M => ?_
        simp only [List.set_cons_zero, List.set_cons_succ] at M
        refine sw_end ?_
        show Code.wp _ _ _ _ _
        refine wp_ret ?_
        repeat (first | refine then_ret ?_ | refine block_ret ?_)
        have M2 := M
        replace M2 := M2.drop 3 rfl
        replace M2 := M2.drop 2 rfl
        replace M2 := M2.drop 0 rfl
        exact sw_retbox F M 2 Tryd.results68 rfl rfl (by kernel_rfl) (by kernel_rfl) ⟨_, _, S1, rfl, M2, op1, m1, s1, la1, lc1, es1, rfl, rfl, hk _ _ (rv_perr M.st) (chain_pass hhi h1 (.inr (.inl (by rw [hh2]; omega))))⟩
      | false =>
        rw [c6] at F
        replace c6 := of_decide_eq_false c6
        refine sw_on F 9 rfl rfl rfl rfl rfl ?_
        refine sw_fld F 2 ⟨rfl, rfl, rfl⟩ rfl (by kernel_rfl) rfl rfl fun A F => ?_
        refine sw_on F 9 rfl rfl rfl rfl rfl ?_
        refine sw_cell F M 0 ⟨rfl, rfl, rfl⟩ rfl rfl rfl (by kernel_rfl) rfl fun A F => ?_
        refine sw_on F 9 rfl rfl rfl rfl rfl ?_
        refine sw_move F ⟨rfl, rfl, rfl⟩ rfl rfl fun A F => ?_
        refine sw_on F 9 rfl rfl rfl rfl rfl ?_
        refine sw_gtr F ⟨rfl, rfl, rfl⟩ rfl rfl rfl fun A F => ?_
        refine sw_pickF F ⟨rfl, rfl, rfl⟩ rfl rfl rfl fun A F => ?_
        refine sw_end ?_
        show Code.wp _ _ _ _ _
        refine sw_cond F rfl (fun hc7 => ?_) (fun hc7 => ?_)
        · skip
          replace hc7 := of_decide_eq_true hc7
          refine sw_seq ?_
          refine sw_reg ?_
          refine sw_all F M 3 ⟨rfl, rfl, rfl⟩ rfl rfl (by kernel_rfl) (by kernel_rfl) rfl fun A F => ?_
          refine sw_setAll F M 2 ⟨rfl, rfl, rfl⟩ rfl rfl rfl (by kernel_rfl) rfl rfl fun w M => ?_
          simp only [List.set_cons_zero, List.set_cons_succ] at M
          refine sw_end ?_
          show Code.wp _ _ _ _ _
          refine wp_ret ?_
          repeat (first | refine then_ret ?_ | refine block_ret ?_)
          have M2 := M
          replace M2 := M2.drop 3 rfl
          replace M2 := M2.drop 2 rfl
          replace M2 := M2.drop 0 rfl
          exact sw_retbox F M 2 Tryd.results68 rfl rfl (by kernel_rfl) (by kernel_rfl) ⟨_, _, S1, rfl, M2, op1, m1, s1, la1, lc1, es1, rfl, rfl, hk _ _ (rv_perr M.st) (chain_pass hhi h1 (.inr (.inr (by rw [hh2]; omega))))⟩
        · skip
          replace hc7 := of_decide_eq_false hc7
          refine wp_skip ?_
          show Code.wp _ _ _ _ _
          refine sw_seq ?_
          refine sw_reg ?_
          refine sw_move F ⟨rfl, rfl, rfl⟩ rfl rfl fun A F => ?_
          refine sw_call0 (rnext_m text c b S1) F M ⟨rfl, rfl, rfl⟩ rfl rfl ?_
          rintro _ S8 A w ⟨_, h9⟩ F M
          refine sw_end ?_
          show Code.wp _ _ _ _ _
          refine sw_seq ?_
          refine sw_reg ?_
          refine sw_move F ⟨rfl, rfl, rfl⟩ rfl rfl fun A F => ?_
          refine sw_fld F 2 ⟨rfl, rfl, rfl⟩ rfl (by kernel_rfl) rfl rfl fun A F => ?_
          refine sw_cell F M 0 ⟨rfl, rfl, rfl⟩ rfl rfl rfl (by kernel_rfl) rfl fun A F => ?_
          refine sw_add F ⟨rfl, rfl, rfl⟩ rfl rfl (by omega) rfl fun A F => ?_
          refine sw_call (IH S8 (h2 + 1) (by have := rv_hnext h9 (here_Here (S := S1) (by rw [ho2]; exact hne)); omega) (by omega) (by omega)) F M ⟨rfl, rfl, rfl⟩ rfl rfl ?_
          rintro _ _ S10 A w ⟨op11, m11, s11, la11, lc11, es11, rfl, rfl, h11⟩ F M
          refine sw_alloc F M [.int .i64 0, .int .i64 0, .string ⟨#[]⟩, .slice none 0 0] ⟨rfl, rfl, rfl⟩ (by kernel_rfl) rfl fun x13 A w F M => ?_
          refine sw_setAll F M 0 ⟨rfl, rfl, rfl⟩ rfl rfl rfl (by kernel_rfl) rfl rfl fun w M => ?_
          simp only [List.set_cons_zero, List.set_cons_succ] at M
          refine sw_end ?_
          show Code.wp _ _ _ _ _
          refine sw_seq ?_
          refine sw_reg ?_
          refine sw_fld F 1 ⟨rfl, rfl, rfl⟩ rfl (by kernel_rfl) rfl rfl fun A F => ?_
          refine sw_cell F M 2 ⟨rfl, rfl, rfl⟩ rfl rfl rfl (by kernel_rfl) rfl fun A F => ?_
          refine sw_all F M 5 ⟨rfl, rfl, rfl⟩ rfl rfl (by kernel_rfl) (by kernel_rfl) rfl fun A F => ?_
          refine sw_all F M 0 ⟨rfl, rfl, rfl⟩ rfl rfl (by kernel_rfl) (by kernel_rfl) rfl fun A F => ?_
          refine sw_mkrow (ety := 73) (sz := 4) (z := .agg #[.int .i64 0, .int .i64 0, .string ⟨#[]⟩, .slice none 0 0]) F M _ [exF op1 m1 s1 la1 lc1 es1, exF op11 m11 s11 la11 lc11 es11] ⟨rfl, rfl, rfl⟩ rfl (by kernel_rfl) (by kernel_rfl) rfl (by kernel_rfl) rfl ?_ ?_ rfl fun x14 A w F M => ?_
          · intro g hg
            simp only [List.mem_cons, List.not_mem_nil, or_false] at hg
            rcases hg with rfl | rfl
            · exact ⟨rfl, (M.mem.vals 3 rfl).1⟩
            · exact ⟨rfl, (M.mem.vals 1 rfl).1⟩
          · intro i f b hf hm g hg
            simp only [List.mem_cons, List.not_mem_nil, or_false] at hg
            rcases hg with rfl | rfl
            · exact (M.mem.vals 3 rfl).2 i f b hf hm
            · exact (M.mem.vals 1 rfl).2 i f b hf hm
          refine sw_build F _ [.int .i64 o2, .int .i64 0, .string ⟨#[]⟩, .slice (some ⟨x14, 0, none⟩) 2 2] ⟨rfl, rfl, rfl⟩ rfl (by kernel_rfl) rfl fun A F => ?_
          refine sw_setAll F M 6 ⟨rfl, rfl, rfl⟩ rfl rfl rfl (by kernel_rfl) rfl rfl fun w M => ?_
          simp only [List.set_cons_zero, List.set_cons_succ] at M
          refine sw_end ?_
          show Code.wp _ _ _ _ _
          refine sw_seq ?_
          refine sw_reg ?_
          refine sw_fld F 2 ⟨rfl, rfl, rfl⟩ rfl (by kernel_rfl) rfl rfl fun A F => ?_
          refine sw_cell F M 3 ⟨rfl, rfl, rfl⟩ rfl rfl rfl (by kernel_rfl) rfl fun A F => ?_
          refine sw_asg F ⟨rfl, rfl, rfl⟩ rfl rfl fun A F => ?_
          refine sw_end ?_
          show Code.wp _ _ _ _ _
          refine sw_seq ?_
          refine sw_reg ?_
          refine sw_fld F 2 ⟨rfl, rfl, rfl⟩ rfl (by kernel_rfl) rfl rfl fun A F => ?_
          refine sw_cell F M 3 ⟨rfl, rfl, rfl⟩ rfl rfl rfl (by kernel_rfl) rfl fun A F => ?_
          refine sw_eql F ⟨rfl, rfl, rfl⟩ rfl rfl rfl fun A F => ?_
          refine sw_end ?_
          show Code.wp _ _ _ _ _
          refine sw_cond F rfl (fun hc16 => ?_) (fun hc16 => ?_)
          · skip
            refine sw_reg ?_
            refine sw_asg F ⟨rfl, rfl, rfl⟩ rfl rfl fun A F => ?_
            refine sw_end ?_
            show _ ∧ _
            have M2 := M.over 0 rfl o2 0 [] (by omega) (by omega)
            simp only [List.set_cons_zero, List.set_cons_succ] at M2
            replace M2 := M2.drop 4 rfl
            replace M2 := M2.drop 3 rfl
            replace M2 := M2.drop 2 rfl
            replace M2 := M2.drop 1 rfl
            have hpl2 := M2.st.pl
            have hless := rv_hnext h9 (here_Here (S := S1) (by rw [ho2]; exact hne))
            have hxs := h11.shr (fun n => expr_shr1 n _)
            have hlf := lf_le S10
            have hS1 : lf S1 = need S1 + 1 := by obtain ⟨σ, rfl⟩ := hok; rfl
            refine ⟨⟨S10, o2, 0, [], _, _, _, 3, by omega, by omega, F.keep [8, 5, 3, 2, 0] rfl, M2, fun z S' hz q => hk z S' hz (chain_step (h := h2) hhi h1 hh2 (by rw [ho2]; exact hne) (by omega) (by omega) (hb2.2.2 hne).2 h9 h11 hz (by rw [if_pos (by have := eq_of_beq hc16; omega), ho2]; exact q))⟩, by omega⟩
          · skip
            refine wp_skip ?_
            show _ ∧ _
            have M2 := M.over 0 rfl o2 0 [] (by omega) (by omega)
            simp only [List.set_cons_zero, List.set_cons_succ] at M2
            replace M2 := M2.drop 4 rfl
            replace M2 := M2.drop 3 rfl
            replace M2 := M2.drop 2 rfl
            replace M2 := M2.drop 1 rfl
            have hpl2 := M2.st.pl
            have hless := rv_hnext h9 (here_Here (S := S1) (by rw [ho2]; exact hne))
            have hxs := h11.shr (fun n => expr_shr1 n _)
            have hlf := lf_le S10
            have hS1 : lf S1 = need S1 + 1 := by obtain ⟨σ, rfl⟩ := hok; rfl
            refine ⟨⟨S10, o2, 0, [], _, _, _, h2, by omega, by omega, F.keep [8, 5, 3, 2, 0] rfl, M2, fun z S' hz q => hk z S' hz (chain_step (h := h2) hhi h1 hh2 (by rw [ho2]; exact hne) (by omega) (by omega) (hb2.2.2 hne).2 h9 h11 hz (by rw [if_neg (by intro q; subst q; simp at hc16), ho2]; exact q))⟩, by omega⟩
  · skip
    have hno := prel_no hrz1 hc2
    refine wp_exit ?_
    repeat (first | refine then_exit ?_ | refine exit_block ?_ | refine exit_pass rfl ?_)
    show Code.wp _ _ _ _ _
    refine sw_seq ?_
    refine sw_reg ?_
    refine sw_all F M 2 ⟨rfl, rfl, rfl⟩ rfl rfl (by kernel_rfl) (by kernel_rfl) rfl fun A F => ?_
    refine sw_setAll F M 1 ⟨rfl, rfl, rfl⟩ rfl rfl rfl (by kernel_rfl) rfl rfl fun w M => ?_
    simp only [List.set_cons_zero, List.set_cons_succ] at M
    refine sw_end ?_
    show Code.wp _ _ _ _ _
    refine wp_ret ?_
    repeat (first | refine then_ret ?_ | refine block_ret ?_)
    have M2 := M
    replace M2 := M2.drop 2 rfl
    replace M2 := M2.drop 1 rfl
    exact sw_retbox F M 1 Tryd.results68 rfl rfl (by kernel_rfl) (by kernel_rfl) ⟨_, _, S1, rfl, M2, op1, m1, s1, la1, lc1, es1, rfl, rfl, hk _ _ (rv_perr M.st) (chain_pass hhi h1 (by obtain ⟨er, rfl⟩ := hno; exact .inl rfl))⟩
end Go.Proofs.YtgpjlocgkdlnlaaDoor
