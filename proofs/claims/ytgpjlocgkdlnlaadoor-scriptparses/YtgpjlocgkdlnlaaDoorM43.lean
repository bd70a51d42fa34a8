/- The answer's Parser: all expressions. -/
import Derived.Test.YtgpjlocgkdlnlaaDoorSRexF

namespace Go.Proofs.YtgpjlocgkdlnlaaDoor
open Go.RowKit
set_option linter.unusedVariables false
set_option linter.unusedSimpArgs false

theorem first_word (text : Key) (c : C4) (b : Nat) : FirstW text c b := fun m IH σ s hm hn => by
  by_cases hw : wordL.contains s = true
  · exact first_w119 text c b IH σ hm s hn (by rw [hn, tokK, if_pos hw])
  · exact first_w115 text c b IH σ hm s hn (by rw [hn, tokK, if_neg hw])
/-- ALL EXPRESSIONS: the answer reads what the grammar reads. -/
theorem rexpr_m (text : Key) (c : C4) (b : Nat) (S : ES) (r : Nat) (h1 : 1 ≤ r) (h7 : r ≤ 7) : Meth Tryd.prog (PdX text c b) (fun k => k = b) 61 [ptr b, .int .i64 r] S (ExQ (fun n => exprT n r) S) := rexpr_less text c b (first_word text c b) (need S + 1) S r (Nat.lt_succ_self _) h1 h7
theorem rargs_m (text : Key) (c : C4) (b : Nat) (S : ES) : Meth Tryd.prog (PdX text c b) (fun k => k = b) 70 [ptr b] S fun v fs S' => ∃ la lc es, fs = [.l la lc es] ∧ v = .slice la es.length lc ∧ Fours es ∧ Rv argsT S (pvRows es) S' := rargs_of text c b (rexpr_less text c b (first_word text c b) (need S)) S (Nat.le_refl _)
end Go.Proofs.YtgpjlocgkdlnlaaDoor

namespace Go.Proofs.YtgpjlocgkdlnlaaDoor
open Go.RowKit
set_option linter.unusedVariables false
set_option linter.unusedSimpArgs false

set_option maxRecDepth 8000 in
set_option maxHeartbeats 3200000 in
theorem rask_m (text : Key) (c : C4) (b : Nat) (S : ES) : Meth Tryd.prog (PdX text c b) (fun k => k = b) 62 [ptr b] S (StP askM S) := by
  refine ⟨by kernel_rfl, fun wO R _ => ?_⟩
  have M := pd_begin R
  have kn := Kn.here (F := askM) (S := S)
  refine sw_fn Tryd.func62 rfl 49 Tryd.ntmps62 rfl fun A F => ?_
  refine sw_seq ?_
  refine sw_reg ?_
  refine sw_alloc F M [.int .i64 0, .string ⟨#[]⟩, .string ⟨#[]⟩, .string ⟨#[]⟩, .int .i64 0, .slice none 0 0, .slice none 0 0, .slice none 0 0] ⟨rfl, rfl, rfl⟩ (by kernel_rfl) rfl fun x1 A w F M => ?_
  refine sw_end ?_
  show Code.wp _ _ _ _ _
  refine sw_seq ?_
  refine sw_reg ?_
  refine sw_build F _ [.int .i64 10, .string ⟨#[]⟩, .string ⟨#[]⟩, .string ⟨#[]⟩, .int .i64 0, .slice none 0 0, .slice none 0 0, .slice none 0 0] ⟨rfl, rfl, rfl⟩ rfl (by kernel_rfl) rfl fun A F => ?_
  refine sw_alloc F M [.int .i64 0, .string ⟨#[]⟩, .string ⟨#[]⟩, .string ⟨#[]⟩, .int .i64 0, .slice none 0 0, .slice none 0 0, .slice none 0 0] ⟨rfl, rfl, rfl⟩ (by kernel_rfl) rfl fun x2 A w F M => ?_
  refine sw_setAll F M 0 ⟨rfl, rfl, rfl⟩ rfl rfl rfl (by kernel_rfl) rfl rfl fun w M => ?_
  simp only [List.set_cons_zero, List.set_cons_succ] at M
  refine sw_end ?_
  show Code.wp _ _ _ _ _
  refine sw_seq ?_
  refine sw_reg ?_
  refine sw_move F ⟨rfl, rfl, rfl⟩ rfl rfl fun A F => ?_
  refine sw_call0 (rname_m text c b S) F M ⟨rfl, rfl, rfl⟩ rfl rfl ?_
  rintro _ S3 A w ⟨_, s5, rfl, h4⟩ F M
  replace kn := kn.step h4
  refine sw_fld F 1 ⟨rfl, rfl, rfl⟩ rfl (by kernel_rfl) rfl rfl fun A F => ?_
  refine sw_set F M 0 ⟨rfl, rfl, rfl⟩ rfl rfl rfl (by kernel_rfl) rfl rfl rfl fun w M => ?_
  simp only [List.set_cons_zero, List.set_cons_succ] at M
  refine sw_end ?_
  show Code.wp _ _ _ _ _
  refine sw_seq ?_
  refine sw_reg ?_
  refine sw_move F ⟨rfl, rfl, rfl⟩ rfl rfl fun A F => ?_
  refine sw_call0 (rneed_m [44] text c b S3) F M ⟨rfl, rfl, rfl⟩ rfl rfl ?_
  rintro _ S6 A w ⟨_, h7⟩ F M
  replace kn := kn.step h7
  refine sw_end ?_
  show Code.wp _ _ _ _ _
  refine sw_seq ?_
  refine sw_reg ?_
  refine sw_move F ⟨rfl, rfl, rfl⟩ rfl rfl fun A F => ?_
  refine sw_call0 (rname_m text c b S6) F M ⟨rfl, rfl, rfl⟩ rfl rfl ?_
  rintro _ S8 A w ⟨_, s10, rfl, h9⟩ F M
  replace kn := kn.step h9
  refine sw_fld F 2 ⟨rfl, rfl, rfl⟩ rfl (by kernel_rfl) rfl rfl fun A F => ?_
  refine sw_set F M 0 ⟨rfl, rfl, rfl⟩ rfl rfl rfl (by kernel_rfl) rfl rfl rfl fun w M => ?_
  simp only [List.set_cons_zero, List.set_cons_succ] at M
  refine sw_end ?_
  show Code.wp _ _ _ _ _
  refine sw_seq ?_
  refine sw_reg ?_
  refine sw_move F ⟨rfl, rfl, rfl⟩ rfl rfl fun A F => ?_
  refine sw_call0 (rneed_m [61] text c b S8) F M ⟨rfl, rfl, rfl⟩ rfl rfl ?_
  rintro _ S11 A w ⟨_, h12⟩ F M
  replace kn := kn.step h12
  refine sw_end ?_
  show Code.wp _ _ _ _ _
  refine sw_seq ?_
  refine sw_reg ?_
  refine sw_move F ⟨rfl, rfl, rfl⟩ rfl rfl fun A F => ?_
  refine sw_call (rexpr_m text c b S11 1 (by decide) (by decide)) F M ⟨rfl, rfl, rfl⟩ rfl rfl ?_
  rintro _ _ S13 A w ⟨op14, m14, s14, la14, lc14, es14, rfl, rfl, h14⟩ F M
  replace kn := kn.step (show Rv (fun n => exprT n 1) _ _ _ from h14)
  refine sw_alloc F M [.int .i64 0, .int .i64 0, .string ⟨#[]⟩, .slice none 0 0] ⟨rfl, rfl, rfl⟩ (by kernel_rfl) rfl fun x16 A w F M => ?_
  refine sw_setAll F M 0 ⟨rfl, rfl, rfl⟩ rfl rfl rfl (by kernel_rfl) rfl rfl fun w M => ?_
  simp only [List.set_cons_zero, List.set_cons_succ] at M
  refine sw_end ?_
  show Code.wp _ _ _ _ _
  refine sw_seq ?_
  refine sw_reg ?_
  refine sw_move F ⟨rfl, rfl, rfl⟩ rfl rfl fun A F => ?_
  refine sw_call0 (rneed_m [46] text c b S13) F M ⟨rfl, rfl, rfl⟩ rfl rfl ?_
  rintro _ S17 A w ⟨_, h18⟩ F M
  replace kn := kn.step h18
  refine sw_end ?_
  show Code.wp _ _ _ _ _
  refine sw_seq ?_
  refine sw_reg ?_
  refine sw_move F ⟨rfl, rfl, rfl⟩ rfl rfl fun A F => ?_
  refine sw_call0 (rname_m text c b S17) F M ⟨rfl, rfl, rfl⟩ rfl rfl ?_
  rintro _ S19 A w ⟨_, s21, rfl, h20⟩ F M
  replace kn := kn.step h20
  refine sw_fld F 3 ⟨rfl, rfl, rfl⟩ rfl (by kernel_rfl) rfl rfl fun A F => ?_
  refine sw_set F M 2 ⟨rfl, rfl, rfl⟩ rfl rfl rfl (by kernel_rfl) rfl rfl rfl fun w M => ?_
  simp only [List.set_cons_zero, List.set_cons_succ] at M
  refine sw_end ?_
  show Code.wp _ _ _ _ _
  refine sw_seq ?_
  refine sw_reg ?_
  refine sw_move F ⟨rfl, rfl, rfl⟩ rfl rfl fun A F => ?_
  refine sw_call (rargs_m text c b S19) F M ⟨rfl, rfl, rfl⟩ rfl rfl ?_
  rintro _ _ S22 A w ⟨la23, lc23, es23, rfl, rfl, f423, h23⟩ F M
  replace kn := kn.step h23
  refine sw_asg F ⟨rfl, rfl, rfl⟩ rfl rfl fun A F => ?_
  refine sw_end ?_
  show Code.wp _ _ _ _ _
  refine sw_seq ?_
  refine sw_reg ?_
  refine sw_move F ⟨rfl, rfl, rfl⟩ rfl rfl fun A F => ?_
  refine sw_call0 (rneed_m [118, 97, 108, 117, 101] text c b S22) F M ⟨rfl, rfl, rfl⟩ rfl rfl ?_
  rintro _ S25 A w ⟨_, h26⟩ F M
  replace kn := kn.step h26
  refine sw_end ?_
  show Code.wp _ _ _ _ _
  refine sw_seq ?_
  refine sw_reg ?_
  refine sw_move F ⟨rfl, rfl, rfl⟩ rfl rfl fun A F => ?_
  refine sw_call (rexpr_m text c b S25 1 (by decide) (by decide)) F M ⟨rfl, rfl, rfl⟩ rfl rfl ?_
  rintro _ _ S27 A w ⟨op28, m28, s28, la28, lc28, es28, rfl, rfl, h28⟩ F M
  replace kn := kn.step (show Rv (fun n => exprT n 1) _ _ _ from h28)
  refine sw_alloc F M [.int .i64 0, .int .i64 0, .string ⟨#[]⟩, .slice none 0 0] ⟨rfl, rfl, rfl⟩ (by kernel_rfl) rfl fun x30 A w F M => ?_
  refine sw_setAll F M 0 ⟨rfl, rfl, rfl⟩ rfl rfl rfl (by kernel_rfl) rfl rfl fun w M => ?_
  simp only [List.set_cons_zero, List.set_cons_succ] at M
  refine sw_end ?_
  show Code.wp _ _ _ _ _
  refine sw_seq ?_
  refine sw_reg ?_
  refine sw_move F ⟨rfl, rfl, rfl⟩ rfl rfl fun A F => ?_
  refine sw_call0 (rneed_m [103, 97, 115] text c b S27) F M ⟨rfl, rfl, rfl⟩ rfl rfl ?_
  rintro _ S31 A w ⟨_, h32⟩ F M
  replace kn := kn.step h32
  refine sw_end ?_
  show Code.wp _ _ _ _ _
  refine sw_seq ?_
  refine sw_reg ?_
  refine sw_move F ⟨rfl, rfl, rfl⟩ rfl rfl fun A F => ?_
  refine sw_call (rexpr_m text c b S31 1 (by decide) (by decide)) F M ⟨rfl, rfl, rfl⟩ rfl rfl ?_
  rintro _ _ S33 A w ⟨op34, m34, s34, la34, lc34, es34, rfl, rfl, h34⟩ F M
  replace kn := kn.step (show Rv (fun n => exprT n 1) _ _ _ from h34)
  refine sw_alloc F M [.int .i64 0, .int .i64 0, .string ⟨#[]⟩, .slice none 0 0] ⟨rfl, rfl, rfl⟩ (by kernel_rfl) rfl fun x36 A w F M => ?_
  refine sw_setAll F M 0 ⟨rfl, rfl, rfl⟩ rfl rfl rfl (by kernel_rfl) rfl rfl fun w M => ?_
  simp only [List.set_cons_zero, List.set_cons_succ] at M
  refine sw_end ?_
  show Code.wp _ _ _ _ _
  refine sw_seq ?_
  refine sw_reg ?_
  refine sw_move F ⟨rfl, rfl, rfl⟩ rfl rfl fun A F => ?_
  refine sw_call0 (rneed_m [59] text c b S33) F M ⟨rfl, rfl, rfl⟩ rfl rfl ?_
  rintro _ S37 A w ⟨_, h38⟩ F M
  replace kn := kn.step h38
  refine sw_end ?_
  show Code.wp _ _ _ _ _
  refine sw_seq ?_
  refine sw_reg ?_
  refine sw_all F M 5 ⟨rfl, rfl, rfl⟩ rfl rfl (by kernel_rfl) (by kernel_rfl) rfl fun A F => ?_
  refine sw_all F M 2 ⟨rfl, rfl, rfl⟩ rfl rfl (by kernel_rfl) (by kernel_rfl) rfl fun A F => ?_
  refine sw_all F M 0 ⟨rfl, rfl, rfl⟩ rfl rfl (by kernel_rfl) (by kernel_rfl) rfl fun A F => ?_
  refine sw_mkrow (ety := 73) (sz := 4) (z := .agg #[.int .i64 0, .int .i64 0, .string ⟨#[]⟩, .slice none 0 0]) F M _ [exF op14 m14 s14 la14 lc14 es14, exF op28 m28 s28 la28 lc28 es28, exF op34 m34 s34 la34 lc34 es34] ⟨rfl, rfl, rfl⟩ rfl (by kernel_rfl) (by kernel_rfl) rfl (by kernel_rfl) rfl ?_ ?_ rfl fun x39 A w F M => ?_
  · intro g hg
    simp only [List.mem_cons, List.not_mem_nil, or_false] at hg
    rcases hg with rfl | rfl | rfl
    · exact ⟨rfl, (M.mem.vals 6 rfl).1⟩
    · exact ⟨rfl, (M.mem.vals 3 rfl).1⟩
    · exact ⟨rfl, (M.mem.vals 1 rfl).1⟩
  · intro i f b hf hm g hg
    simp only [List.mem_cons, List.not_mem_nil, or_false] at hg
    rcases hg with rfl | rfl | rfl
    · exact (M.mem.vals 6 rfl).2 i f b hf hm
    · exact (M.mem.vals 3 rfl).2 i f b hf hm
    · exact (M.mem.vals 1 rfl).2 i f b hf hm
  refine sw_fld F 5 ⟨rfl, rfl, rfl⟩ rfl (by kernel_rfl) rfl rfl fun A F => ?_
  refine sw_set F M 8 ⟨rfl, rfl, rfl⟩ rfl rfl rfl (by kernel_rfl) rfl rfl rfl fun w M => ?_
  simp only [List.set_cons_zero, List.set_cons_succ] at M
  refine sw_end ?_
  show Code.wp _ _ _ _ _
  refine sw_seq ?_
  refine sw_reg ?_
  refine sw_fld F 5 ⟨rfl, rfl, rfl⟩ rfl (by kernel_rfl) rfl rfl fun A F => ?_
  refine sw_cell F M 8 ⟨rfl, rfl, rfl⟩ rfl rfl rfl (by kernel_rfl) rfl fun A F => ?_
  refine sw_move F ⟨rfl, rfl, rfl⟩ rfl rfl fun A F => ?_
  refine sw_appVal (z := .agg #[.int .i64 0, .int .i64 0, .string ⟨#[]⟩, .slice none 0 0]) F M 0 5 ⟨rfl, rfl, rfl⟩ rfl rfl rfl rfl rfl rfl (by kernel_rfl) (by kernel_rfl) rfl rfl f423.1 (by have := f423.2; simp only [List.length_cons, List.length_nil]; omega) rfl fun la41 lc42 A w F M => ?_
  simp only [List.set_cons_zero, List.set_cons_succ] at M
  refine sw_fld F 5 ⟨rfl, rfl, rfl⟩ rfl (by kernel_rfl) rfl rfl fun A F => ?_
  refine sw_set F M 8 ⟨rfl, rfl, rfl⟩ rfl rfl rfl (by kernel_rfl) rfl rfl rfl fun w M => ?_
  simp only [List.set_cons_zero, List.set_cons_succ] at M
  refine sw_end ?_
  show Code.wp _ _ _ _ _
  refine sw_seq ?_
  refine sw_reg ?_
  refine sw_all F M 8 ⟨rfl, rfl, rfl⟩ rfl rfl (by kernel_rfl) (by kernel_rfl) rfl fun A F => ?_
  refine sw_setAll F M 9 ⟨rfl, rfl, rfl⟩ rfl rfl rfl (by kernel_rfl) rfl rfl fun w M => ?_
  simp only [List.set_cons_zero, List.set_cons_succ] at M
  refine sw_end ?_
  show Code.wp _ _ _ _ _
  refine wp_ret ?_
  repeat (first | refine then_ret ?_ | refine block_ret ?_)
  exact sw_retbox F M 9 Tryd.results62 rfl rfl (by kernel_rfl) (by kernel_rfl) ⟨_, Sm.flds { k := 10, nm := s5, al := s10, ca := s21, ty := 0, ea := la41, ec := lc42, es := (([exF op14 m14 s14 la14 lc14 es14, exF op28 m28 s28 la28 lc28 es28, exF op34 m34 s34 la34 lc34 es34] ++ es23)), ba := none, bc := 0, bs := [], la := none, lc := 0, ls := [] }, S37, rfl, M.but, M.st, lie_cons (lie_i (n := 10) (by omega)) (lie_cons (trivial) (lie_cons (trivial) (lie_cons (trivial) (lie_cons (lie_i (n := 0) (by omega)) (lie_cons (M.mem.rowlie 0 rfl) (lie_cons (lies_nil _ _) (lie_cons (lies_nil _ _) (lie_nil _ _)))))))), { k := 10, nm := s5, al := s10, ca := s21, ty := 0, ea := la41, ec := lc42, es := (([exF op14 m14 s14 la14 lc14 es14, exF op28 m28 s28 la28 lc28 es28, exF op34 m34 s34 la34 lc34 es34] ++ es23)), ba := none, bc := 0, bs := [], la := none, lc := 0, ls := [] }, rfl, rfl, kn.fin⟩
end Go.Proofs.YtgpjlocgkdlnlaaDoor

namespace Go.Proofs.YtgpjlocgkdlnlaaDoor
open Go.RowKit
set_option linter.unusedVariables false
set_option linter.unusedSimpArgs false

theorem PBox.most {text : Key} {c : C4} {w : World} {b : Nat} {S : ES} (R : PBox text c w b S) : need S ≤ 32800 := by
  cases S with
  | error e => exact Nat.zero_le _
  | ok σ =>
    obtain ⟨_, _, _, _, _, _, hs, _⟩ := R
    have := hs.1
    show 16 * mu σ ≤ 32800
    unfold mu
    split <;> omega
theorem steps_one {S S1 S' : ES} {x : EV} {l y : List EV} (hg : stands [125] S = false) (h : Rv stepM S x S1) (g : Rv (fun n => stepsM n (l ++ [x])) S1 y S') : Rv (fun n => stepsM n l) S y S' := by
  have p := (Rv.of (rel_is [125] S)).bind (G := fun n c => ifT c (pur l) (bnd (stepM n) fun s => stepsM n (l ++ [s]))) ((h.bind (G := fun n s => stepsM n (l ++ [s])) g).to fun n => by rw [hg]; rfl)
  exact Rv.succ (p.to fun n => by rw [stepsM])
theorem steps_stop {S : ES} {l : List EV} (hg : stands [125] S = true) : Rv (fun n => stepsM n l) S l S := by
  have p := (Rv.of (rel_is [125] S)).bind (G := fun n c => ifT c (pur l) (bnd (stepM n) fun s => stepsM n (l ++ [s]))) ((Rv.pur l S).to fun n => by rw [hg]; rfl)
  exact Rv.succ (p.to fun n => by rw [stepsM])
theorem block_end {S S1 S2 S3 : ES} {l : List EV} (h1 : Rv (fun _ => openT [123]) S () S1) (h2 : Rv (fun n => stepsM n []) S1 l S2) (h3 : Rv (fun _ => shutT [125]) S2 () S3) : Rv blockM S l S3 := by
  have p := h1.bind (G := fun n _ => bnd (stepsM n []) fun l => bnd (shutT [125]) fun _ => pur l) (h2.bind (G := fun n l => bnd (shutT [125]) fun _ => pur l) (h3.bind (G := fun n _ => pur l) (Rv.pur l S3)))
  exact Rv.succ (p.to fun n => by rw [blockM])
set_option maxRecDepth 8000 in
set_option maxHeartbeats 3200000 in
theorem rblock_of {m : Nat} (text : Key) (c : C4) (b : Nat) (HS : ∀ S, (∃ σ, S = .ok σ) → need S < m → Meth Tryd.prog (PdX text c b) (fun k => k = b) 51 [ptr b] S (StP stepM S)) (S : ES) (hm : need S ≤ m) : Meth Tryd.prog (PdX text c b) (fun k => k = b) 35 [ptr b] S (BlP blockM S) := by
  refine ⟨by kernel_rfl, fun wO R _ => ?_⟩
  have M := pd_begin R
  refine sw_fn Tryd.func35 rfl 25 Tryd.ntmps35 rfl fun A F => ?_
  refine sw_seq ?_
  refine sw_reg ?_
  refine sw_asg F ⟨rfl, rfl, rfl⟩ rfl rfl fun A F => ?_
  refine sw_end ?_
  show Code.wp _ _ _ _ _
  refine sw_seq ?_
  refine sw_reg ?_
  refine sw_asg F ⟨rfl, rfl, rfl⟩ rfl rfl fun A F => ?_
  refine sw_end ?_
  show Code.wp _ _ _ _ _
  refine sw_seq ?_
  refine sw_reg ?_
  refine sw_move F ⟨rfl, rfl, rfl⟩ rfl rfl fun A F => ?_
  refine sw_call0 (ropen_m [123] text c b S) F M ⟨rfl, rfl, rfl⟩ rfl rfl ?_
  rintro _ S1 A w ⟨_, h2⟩ F M
  refine sw_end ?_
  show Code.wp _ _ _ _ _
  refine sw_seq ?_
  refine wp_block ?_
  replace M := M.nilrow 70 8
  have hmost := R.most
  have hsh := h2.shr (fun _ => Shr.open _)
  have hl1 := lf_le S1
  refine wp_loop (fun A w => ∃ (S2 : ES) (l : List (List Fld)) (la : Option Addr) (lc : Nat), Fm 25 [(3, .slice la l.length lc), (0, ptr b)] A ∧ Mm (PdX text c b) (fun k => k = b) wO [.row (.slice la l.length lc) 70 8 l] S2 w ∧ (∀ y S', Rv (fun n => stepsM n (pvRows l)) S2 y S' → Rv (fun n => stepsM n []) S1 y S') ∧ (∀ σ, S2 = .ok σ → need (.ok σ) < m) ∧ l.length + lf S2 ≤ 40000) (fun A w => pl text w b) ?_ ?_
  · exact ⟨_, [], none, 0, F.keep [3, 0] rfl, M, fun y S' q => q, fun σ q => by have := open_less h2 q; omega, by simp; omega⟩
  rintro A w ⟨S2, l, la, lc, F, M, hk, hlt, hln⟩
  have hpl := M.st.pl
  refine sw_seq ?_
  refine sw_seq ?_
  refine sw_reg ?_
  refine sw_move F ⟨rfl, rfl, rfl⟩ rfl rfl fun A F => ?_
  refine sw_nil F ⟨rfl, rfl, rfl⟩ rfl rfl fun A F => ?_
  refine sw_fld F 6 ⟨rfl, rfl, rfl⟩ rfl (by kernel_rfl) rfl rfl fun A F => ?_
  obtain ⟨atz3, kdz3, txz3, nz3, lvz3, erz3, kbz3, hrz3⟩ := M.st.cells
  refine sw_ext F ((kbz3.cell 6).trans rfl) ⟨rfl, rfl, rfl⟩ rfl (by kernel_rfl) rfl fun A F => ?_
  refine sw_eql F ⟨rfl, rfl, rfl⟩ rfl rfl rfl fun A F => ?_
  refine sw_end ?_
  show Code.wp _ _ _ _ _
  refine sw_cond F rfl (fun hc4 => ?_) (fun hc4 => ?_)
  · skip
    have hok := prel_yes hrz3 hc4
    refine wp_skip ?_
    show Code.wp _ _ _ _ _
    refine wp_block ?_
    refine sw_seq ?_
    refine sw_reg ?_
    refine sw_move F ⟨rfl, rfl, rfl⟩ rfl rfl fun A F => ?_
    refine sw_call0 (ris_m [125] text c b S2) F M ⟨rfl, rfl, rfl⟩ rfl rfl ?_
    rintro _ _ A w ⟨_, rfl, rfl⟩ F M
    refine sw_asg F ⟨rfl, rfl, rfl⟩ rfl rfl fun A F => ?_
    refine sw_end ?_
    show Code.wp _ _ _ _ _
    refine sw_seq ?_
    refine sw_seq ?_
    refine sw_reg ?_
    refine sw_move F ⟨rfl, rfl, rfl⟩ rfl rfl fun A F => ?_
    refine sw_end ?_
    show Code.wp _ _ _ _ _
    refine sw_cond F rfl (fun hc5 => ?_) (fun hc5 => ?_)
    · skip
      have hend := hc5
      refine wp_exit ?_
      repeat (first | refine then_exit ?_ | refine exit_block ?_ | refine exit_pass rfl ?_)
      have hcm : Rv (fun n => stepsM n []) S1 (pvRows l) S2 := hk _ _ (steps_stop hend)
      show Code.wp _ _ _ _ _
      refine sw_seq ?_
      refine sw_reg ?_
      refine sw_move F ⟨rfl, rfl, rfl⟩ rfl rfl fun A F => ?_
      refine sw_call0 (rshut_m [125] text c b S2) F M ⟨rfl, rfl, rfl⟩ rfl rfl ?_
      rintro _ S6 A w ⟨_, h7⟩ F M
      refine sw_end ?_
      show Code.wp _ _ _ _ _
      refine sw_seq ?_
      refine sw_reg ?_
      refine sw_move F ⟨rfl, rfl, rfl⟩ rfl rfl fun A F => ?_
      refine sw_asg F ⟨rfl, rfl, rfl⟩ rfl rfl fun A F => ?_
      refine sw_end ?_
      show Code.wp _ _ _ _ _
      refine wp_ret ?_
      repeat (first | refine then_ret ?_ | refine block_ret ?_)
      exact sw_rettmp F Tryd.results35 rfl ⟨_, [.l la lc l], S6, rfl, M.but, M.st, lie_cons (M.mem.rowlie 0 rfl) (lie_nil _ _), la, lc, l, rfl, rfl, block_end h2 hcm h7⟩
    · skip
      have hgo := hc5
      refine wp_skip ?_
      show Code.wp _ _ _ _ _
      refine sw_seq ?_
      refine sw_reg ?_
      refine sw_move F ⟨rfl, rfl, rfl⟩ rfl rfl fun A F => ?_
      refine sw_call (HS S2 hok (by obtain ⟨σ, rfl⟩ := hok; exact hlt σ rfl)) F M ⟨rfl, rfl, rfl⟩ rfl rfl ?_
      rintro _ _ S8 A w ⟨y10, rfl, rfl, h9⟩ F M
      refine sw_alloc F M [.int .i64 0, .string ⟨#[]⟩, .string ⟨#[]⟩, .string ⟨#[]⟩, .int .i64 0, .slice none 0 0, .slice none 0 0, .slice none 0 0] ⟨rfl, rfl, rfl⟩ (by kernel_rfl) rfl fun x12 A w F M => ?_
      refine sw_setAll F M 0 ⟨rfl, rfl, rfl⟩ rfl rfl rfl (by kernel_rfl) rfl rfl fun w M => ?_
      simp only [List.set_cons_zero, List.set_cons_succ] at M
      refine sw_end ?_
      show Code.wp _ _ _ _ _
      refine sw_reg ?_
      refine sw_move F ⟨rfl, rfl, rfl⟩ rfl rfl fun A F => ?_
      refine sw_all F M 0 ⟨rfl, rfl, rfl⟩ rfl rfl (by kernel_rfl) (by kernel_rfl) rfl fun A F => ?_
      refine sw_app1 (z := .agg #[.int .i64 0, .string ⟨#[]⟩, .string ⟨#[]⟩, .string ⟨#[]⟩, .int .i64 0, .slice none 0 0, .slice none 0 0, .slice none 0 0]) F M 2 1 ⟨rfl, rfl, rfl⟩ ⟨rfl, rfl, rfl⟩ rfl rfl (fun _ => rfl) rfl rfl (by kernel_rfl) (by kernel_rfl) rfl rfl (by kernel_rfl) rfl (by omega) rfl fun la13 lc14 _ A w F M => ?_
      simp only [List.set_cons_zero, List.set_cons_succ] at M
      refine sw_asg F ⟨rfl, rfl, rfl⟩ rfl rfl fun A F => ?_
      refine sw_end ?_
      show _ ∧ _
      have M2 := M
      replace M2 := M2.drop 1 rfl
      replace M2 := M2.drop 0 rfl
      have hpl2 := M2.st.pl
      have hlf := lf_takes h9 step_takes
      have hS2 : lf S2 = need S2 + 1 := by obtain ⟨σ, rfl⟩ := hok; rfl
      have hltS : need S2 < m := by obtain ⟨σ, rfl⟩ := hok; exact hlt σ rfl
      refine ⟨⟨S8, _, _, _, F.keep [3, 0] rfl, M2, fun y S' q => hk y S' (steps_one hgo h9 (by rw [pvRows_app] at q; exact q)), fun σ q => ?_, ?_⟩, ?_⟩
      · rw [q] at hlf; have : lf (.ok σ) = need (.ok σ) + 1 := rfl; omega
      · rw [List.length_append, List.length_singleton]; omega
      · rw [hpl, hpl2]; omega
  · skip
    have hno := prel_no hrz3 hc4
    refine wp_exit ?_
    repeat (first | refine then_exit ?_ | refine exit_block ?_ | refine exit_pass rfl ?_)
    have hcm : Rv (fun n => stepsM n []) S1 (pvRows l) S2 := hk _ _ (by obtain ⟨er, rfl⟩ := hno; exact Rv.fault _ er _)
    show Code.wp _ _ _ _ _
    refine sw_seq ?_
    refine sw_reg ?_
    refine sw_move F ⟨rfl, rfl, rfl⟩ rfl rfl fun A F => ?_
    refine sw_call0 (rshut_m [125] text c b S2) F M ⟨rfl, rfl, rfl⟩ rfl rfl ?_
    rintro _ S15 A w ⟨_, h16⟩ F M
    refine sw_end ?_
    show Code.wp _ _ _ _ _
    refine sw_seq ?_
    refine sw_reg ?_
    refine sw_move F ⟨rfl, rfl, rfl⟩ rfl rfl fun A F => ?_
    refine sw_asg F ⟨rfl, rfl, rfl⟩ rfl rfl fun A F => ?_
    refine sw_end ?_
    show Code.wp _ _ _ _ _
    refine wp_ret ?_
    repeat (first | refine then_ret ?_ | refine block_ret ?_)
    exact sw_rettmp F Tryd.results35 rfl ⟨_, [.l la lc l], S15, rfl, M.but, M.st, lie_cons (M.mem.rowlie 0 rfl) (lie_nil _ _), la, lc, l, rfl, rfl, block_end h2 hcm h16⟩
end Go.Proofs.YtgpjlocgkdlnlaaDoor
