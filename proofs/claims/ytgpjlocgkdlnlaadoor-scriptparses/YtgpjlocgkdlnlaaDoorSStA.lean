/- The program's reader: let, ask, what gives something. -/
import Derived.Test.YtgpjlocgkdlnlaaDoorM18
namespace Go.Proofs.YtgpjlocgkdlnlaaDoor
open Go.RowKit
set_option linter.unusedVariables false
set_option linter.unusedSimpArgs false

theorem sw_move0 {P : Program} {ops : Array Oper} {Q : Exit → Act → World → Prop} {a : Act} {w : World} {rest : List Oper} {o : Oper} {x : Operand} (h : Is o none (.move x)) (K : wpList P ops Q rest a w) : wpList P ops Q (o :: rest) a w :=
  ol_move h.2.2 (.inl h.2.1) (by rw [h.1]; exact K)
theorem sw_eq {P : Program} {ops : Array Oper} {Q : Exit → Act → World → Prop} {a : Act} {w : World} {rest : List Oper} {o : Oper} {N : Nat} {L : List (Nat × Value)} (F : Fm N L a) {i t u : Nat} {x y : Operand} {k : IntKind} {m n : Int} (h : Is o (some i) (.binOp .eql t x y u)) (h1 : opv L x = some (.int k m)) (h2 : opv L y = some (.int k n)) (hi : Nat.blt i N = true) (K : ∀ a', Fm N ((i, .bool (m == n)) :: L) a' → wpList P ops Q rest a' w) : wpList P ops Q (o :: rest) a w :=
  sw_val F h.1 h.2.2 hi (by
    unfold execOp
    rw [h.2.1]
    simp [F.ev h1, F.ev h2, eqGuard_at_int, binOp_eql]) K
set_option maxRecDepth 8000 in
set_option maxHeartbeats 3200000 in
theorem let_m (b : Nat) (S : ES) : Meth Tryd.prog (RdX b) (fun k => k = b) 75 [ptr b] S (StP letM S) := by
  refine ⟨by kernel_rfl, fun w R _ => ?_⟩
  have M := rd_begin R
  have kn := Kn.here (F := letM) (S := S)
  refine sw_fn Tryd.func75 rfl 24 Tryd.ntmps75 rfl fun A F => ?_
  refine sw_seq ?_
  refine sw_reg ?_
  refine sw_alloc F M [.int .i64 0, .string ⟨#[]⟩, .string ⟨#[]⟩, .string ⟨#[]⟩, .int .i64 0, .slice none 0 0, .slice none 0 0, .slice none 0 0] ⟨rfl, rfl, rfl⟩ (by kernel_rfl) rfl fun x1 A w F M => ?_
  refine sw_end ?_
  show Code.wp _ _ _ _ _
  refine sw_seq ?_
  refine sw_reg ?_
  refine sw_move F ⟨rfl, rfl, rfl⟩ rfl rfl fun A F => ?_
  refine sw_call (param_m b S) F M ⟨rfl, rfl, rfl⟩ rfl rfl ?_
  rintro _ _ S2 A w ⟨s4, k5, rfl, rfl, hkk5, h3⟩ F M
  replace kn := Kn.step (F1 := fun _ => paramT) (kn.to (G' := fun n => bnd paramT fun p => giveT n fun x => stP 1 p.1 [] [] p.2 [x] [] []) fun n => by simp only [letM, paramT, bnd_assoc]; rfl) h3
  refine sw_alloc F M [.string ⟨#[]⟩, .int .i64 0] ⟨rfl, rfl, rfl⟩ (by kernel_rfl) rfl fun x7 A w F M => ?_
  refine sw_setAll F M 0 ⟨rfl, rfl, rfl⟩ rfl rfl rfl (by kernel_rfl) rfl rfl fun w M => ?_
  simp only [List.set_cons_zero, List.set_cons_succ] at M
  refine sw_end ?_
  show Code.wp _ _ _ _ _
  refine sw_seq ?_
  refine sw_reg ?_
  refine sw_fld F 0 ⟨rfl, rfl, rfl⟩ rfl (by kernel_rfl) rfl rfl fun A F => ?_
  refine sw_cell F M 0 ⟨rfl, rfl, rfl⟩ rfl rfl rfl (by kernel_rfl) rfl fun A F => ?_
  refine sw_fld F 1 ⟨rfl, rfl, rfl⟩ rfl (by kernel_rfl) rfl rfl fun A F => ?_
  refine sw_cell F M 0 ⟨rfl, rfl, rfl⟩ rfl rfl rfl (by kernel_rfl) rfl fun A F => ?_
  refine sw_build F _ [.int .i64 1, .string (str s4), .string ⟨#[]⟩, .string ⟨#[]⟩, .int .i64 k5, .slice none 0 0, .slice none 0 0, .slice none 0 0] ⟨rfl, rfl, rfl⟩ rfl (by kernel_rfl) rfl fun A F => ?_
  refine sw_alloc F M [.int .i64 0, .string ⟨#[]⟩, .string ⟨#[]⟩, .string ⟨#[]⟩, .int .i64 0, .slice none 0 0, .slice none 0 0, .slice none 0 0] ⟨rfl, rfl, rfl⟩ (by kernel_rfl) rfl fun x8 A w F M => ?_
  refine sw_setAll F M 0 ⟨rfl, rfl, rfl⟩ rfl rfl rfl (by kernel_rfl) rfl rfl fun w M => ?_
  simp only [List.set_cons_zero, List.set_cons_succ] at M
  refine sw_end ?_
  show Code.wp _ _ _ _ _
  refine sw_seq ?_
  refine sw_reg ?_
  refine sw_move F ⟨rfl, rfl, rfl⟩ rfl rfl fun A F => ?_
  refine sw_call0 (take_m [61] b S2) F M ⟨rfl, rfl, rfl⟩ rfl rfl ?_
  rintro _ S9 A w ⟨_, h10⟩ F M
  replace kn := kn.step h10
  refine sw_end ?_
  show Code.wp _ _ _ _ _
  refine sw_seq ?_
  replace M := M.nilrow 73 4
  refine wp_region_late (fun w' => w'.cell? ⟨x8, 5, none⟩ = some (.slice none 0 0)) 7 (by kernel_rfl) ?_
  show wpAnyM _ _ _ _ _ _ _ _ _ w.drew
  replace M := M.drew
  have hS : w.drew.cell? ⟨x8, 5, none⟩ = some (.slice none 0 0) := M.cell 1 rfl rfl
  refine sm_fld F 0 5 rfl ⟨rfl, rfl, rfl⟩ rfl (by kernel_rfl) rfl (by kernel_rfl) (by kernel_rfl) (by kernel_rfl) rfl (fun _ _ _ h => h) rfl hS fun A F => ?_
  refine sm_cell F 1 rfl ⟨rfl, rfl, rfl⟩ rfl (by kernel_rfl) (fun _ h => h) (by kernel_rfl) (by kernel_rfl) (by kernel_rfl) (by kernel_rfl) rfl (fun _ _ _ h => h) rfl hS fun A F => ?_
  refine sm_move F 2 rfl ⟨rfl, rfl, rfl⟩ rfl (by kernel_rfl) (by kernel_rfl) (by kernel_rfl) rfl (fun _ _ _ h => h) rfl hS fun A F => ?_
  clear hS
  refine sm_one 3 rfl (by kernel_rfl) rfl ?_
  refine sw_call (expr_m b S9) F M ⟨rfl, rfl, rfl⟩ rfl rfl ?_
  rintro _ _ S12 A w ⟨op13, m13, s13, la13, lc13, es13, rfl, rfl, h13⟩ F M
  replace kn := kn.step h13
  have hS : w.cell? ⟨x8, 5, none⟩ = some (.slice none 0 0) := M.cell 2 rfl rfl
  refine sw_end ⟨fun _ => hS, ?_⟩
  clear hS
  refine sm_one 4 rfl (by kernel_rfl) rfl ?_
  refine sw_mkrow (ety := 73) (sz := 4) (z := .agg #[.int .i64 0, .int .i64 0, .string ⟨#[]⟩, .slice none 0 0]) F M _ [exF op13 m13 s13 la13 lc13 es13] ⟨rfl, rfl, rfl⟩ rfl (by kernel_rfl) (by kernel_rfl) rfl (by kernel_rfl) rfl ?_ ?_ rfl fun x15 A w F M => ?_
  · intro g hg
    simp only [List.mem_cons, List.not_mem_nil, or_false] at hg
    rcases hg with rfl
    · exact ⟨rfl, (M.mem.vals 0 rfl).1⟩
  · intro i f b hf hm g hg
    simp only [List.mem_cons, List.not_mem_nil, or_false] at hg
    rcases hg with rfl
    · exact (M.mem.vals 0 rfl).2 i f b hf hm
  have hS : w.cell? ⟨x8, 5, none⟩ = some (.slice none 0 0) := M.cell 3 rfl rfl
  refine sw_end ⟨fun _ => hS, ?_⟩
  clear hS
  refine sm_one 5 rfl (by kernel_rfl) rfl ?_
  refine sw_appRow (z := .agg #[.int .i64 0, .int .i64 0, .string ⟨#[]⟩, .slice none 0 0]) F M 2 0 ⟨rfl, rfl, rfl⟩ rfl rfl rfl (by decide) rfl rfl rfl (by kernel_rfl) (by kernel_rfl) rfl rfl (by (try simp only [List.length_append, List.length_cons, List.length_nil]); omega) rfl fun la17 lc18 A w F M => ?_
  simp only [List.set_cons_zero, List.set_cons_succ] at M
  have hS : w.cell? ⟨x8, 5, none⟩ = some (.slice none 0 0) := M.cell 3 rfl rfl
  refine sw_end ⟨fun _ => hS, ?_⟩
  refine sm_fld F 6 5 rfl ⟨rfl, rfl, rfl⟩ rfl (by kernel_rfl) rfl (by kernel_rfl) (by kernel_rfl) (by kernel_rfl) rfl (fun _ _ _ h => h) rfl hS fun A F => ?_
  clear hS
  refine sm_one 7 rfl (by kernel_rfl) rfl ?_
  refine sw_set F M 3 ⟨rfl, rfl, rfl⟩ rfl rfl rfl (by kernel_rfl) rfl rfl rfl fun w M => ?_
  simp only [List.set_cons_zero, List.set_cons_succ] at M
  refine sw_end ⟨fun h => absurd h (by decide), ?_⟩
  refine wpAnyM_done (by kernel_rfl) ?_ _
  show Code.wp _ _ _ _ _
  refine sw_seq ?_
  refine sw_reg ?_
  refine sw_move F ⟨rfl, rfl, rfl⟩ rfl rfl fun A F => ?_
  refine sw_call0 (take_m [59] b S12) F M ⟨rfl, rfl, rfl⟩ rfl rfl ?_
  rintro _ S19 A w ⟨_, h20⟩ F M
  replace kn := kn.step h20
  refine sw_end ?_
  show Code.wp _ _ _ _ _
  refine sw_seq ?_
  refine sw_reg ?_
  refine sw_all F M 3 ⟨rfl, rfl, rfl⟩ rfl rfl (by kernel_rfl) (by kernel_rfl) rfl fun A F => ?_
  refine sw_setAll F M 6 ⟨rfl, rfl, rfl⟩ rfl rfl rfl (by kernel_rfl) rfl rfl fun w M => ?_
  simp only [List.set_cons_zero, List.set_cons_succ] at M
  refine sw_end ?_
  show Code.wp _ _ _ _ _
  refine wp_ret ?_
  repeat (first | refine then_ret ?_ | refine block_ret ?_)
  exact sw_retbox F M 6 Tryd.results75 rfl rfl (by kernel_rfl) (by kernel_rfl) ⟨_, Sm.flds { k := 1, nm := s4, al := [], ca := [], ty := k5, ea := la17, ec := lc18, es := (([] ++ [exF op13 m13 s13 la13 lc13 es13])), ba := none, bc := 0, bs := [], la := none, lc := 0, ls := [] }, S19, rfl, M.but, M.st, lie_cons (lie_i (n := 1) (by omega)) (lie_cons (trivial) (lie_cons (trivial) (lie_cons (trivial) (lie_cons (lie_i (n := k5) (by omega)) (lie_cons (M.mem.rowlie 2 rfl) (lie_cons (lies_nil _ _) (lie_cons (lies_nil _ _) (lie_nil _ _)))))))), { k := 1, nm := s4, al := [], ca := [], ty := k5, ea := la17, ec := lc18, es := (([] ++ [exF op13 m13 s13 la13 lc13 es13])), ba := none, bc := 0, bs := [], la := none, lc := 0, ls := [] }, rfl, rfl, kn.fin⟩
set_option maxRecDepth 8000 in
set_option maxHeartbeats 3200000 in
theorem ask_m (b : Nat) (S : ES) : Meth Tryd.prog (RdX b) (fun k => k = b) 76 [ptr b] S (StP askM S) := by
  refine ⟨by kernel_rfl, fun w R _ => ?_⟩
  have M := rd_begin R
  have kn := Kn.here (F := askM) (S := S)
  refine sw_fn Tryd.func76 rfl 45 Tryd.ntmps76 rfl fun A F => ?_
  refine sw_seq ?_
  refine sw_reg ?_
  refine sw_alloc F M [.int .i64 0, .string ⟨#[]⟩, .string ⟨#[]⟩, .string ⟨#[]⟩, .int .i64 0, .slice none 0 0, .slice none 0 0, .slice none 0 0] ⟨rfl, rfl, rfl⟩ (by kernel_rfl) rfl fun x1 A w F M => ?_
  refine sw_end ?_
  show Code.wp _ _ _ _ _
  refine sw_seq ?_
  refine sw_reg ?_
  refine sw_move F ⟨rfl, rfl, rfl⟩ rfl rfl fun A F => ?_
  refine sw_call0 (name_m b S) F M ⟨rfl, rfl, rfl⟩ rfl rfl ?_
  rintro _ S2 A w ⟨_, s4, rfl, h3⟩ F M
  replace kn := kn.step h3
  refine sw_build F _ [.int .i64 10, .string (str s4), .string ⟨#[]⟩, .string ⟨#[]⟩, .int .i64 0, .slice none 0 0, .slice none 0 0, .slice none 0 0] ⟨rfl, rfl, rfl⟩ rfl (by kernel_rfl) rfl fun A F => ?_
  refine sw_alloc F M [.int .i64 0, .string ⟨#[]⟩, .string ⟨#[]⟩, .string ⟨#[]⟩, .int .i64 0, .slice none 0 0, .slice none 0 0, .slice none 0 0] ⟨rfl, rfl, rfl⟩ (by kernel_rfl) rfl fun x5 A w F M => ?_
  refine sw_setAll F M 0 ⟨rfl, rfl, rfl⟩ rfl rfl rfl (by kernel_rfl) rfl rfl fun w M => ?_
  simp only [List.set_cons_zero, List.set_cons_succ] at M
  refine sw_end ?_
  show Code.wp _ _ _ _ _
  refine sw_seq ?_
  refine sw_reg ?_
  refine sw_move F ⟨rfl, rfl, rfl⟩ rfl rfl fun A F => ?_
  refine sw_call0 (take_m [44] b S2) F M ⟨rfl, rfl, rfl⟩ rfl rfl ?_
  rintro _ S6 A w ⟨_, h7⟩ F M
  replace kn := kn.step h7
  refine sw_end ?_
  show Code.wp _ _ _ _ _
  refine sw_seq ?_
  refine sw_reg ?_
  refine sw_move F ⟨rfl, rfl, rfl⟩ rfl rfl fun A F => ?_
  refine sw_call0 (name_m b S6) F M ⟨rfl, rfl, rfl⟩ rfl rfl ?_
  rintro _ S8 A w ⟨_, s10, rfl, h9⟩ F M
  replace kn := kn.step h9
  refine sw_fld F 2 ⟨rfl, rfl, rfl⟩ rfl (by kernel_rfl) rfl rfl fun A F => ?_
  refine sw_set F M 0 ⟨rfl, rfl, rfl⟩ rfl rfl rfl (by kernel_rfl) rfl rfl rfl fun w M => ?_
  simp only [List.set_cons_zero, List.set_cons_succ] at M
  refine sw_end ?_
  show Code.wp _ _ _ _ _
  refine sw_seq ?_
  refine sw_reg ?_
  refine sw_move F ⟨rfl, rfl, rfl⟩ rfl rfl fun A F => ?_
  refine sw_call0 (take_m [61] b S8) F M ⟨rfl, rfl, rfl⟩ rfl rfl ?_
  rintro _ S11 A w ⟨_, h12⟩ F M
  replace kn := kn.step h12
  refine sw_end ?_
  show Code.wp _ _ _ _ _
  refine sw_seq ?_
  refine sw_reg ?_
  refine sw_move F ⟨rfl, rfl, rfl⟩ rfl rfl fun A F => ?_
  refine sw_call (expr_m b S11) F M ⟨rfl, rfl, rfl⟩ rfl rfl ?_
  rintro _ _ S13 A w ⟨op14, m14, s14, la14, lc14, es14, rfl, rfl, h14⟩ F M
  replace kn := kn.step h14
  refine sw_alloc F M [.int .i64 0, .int .i64 0, .string ⟨#[]⟩, .slice none 0 0] ⟨rfl, rfl, rfl⟩ (by kernel_rfl) rfl fun x16 A w F M => ?_
  refine sw_setAll F M 0 ⟨rfl, rfl, rfl⟩ rfl rfl rfl (by kernel_rfl) rfl rfl fun w M => ?_
  simp only [List.set_cons_zero, List.set_cons_succ] at M
  refine sw_end ?_
  show Code.wp _ _ _ _ _
  refine sw_seq ?_
  refine sw_reg ?_
  refine sw_move F ⟨rfl, rfl, rfl⟩ rfl rfl fun A F => ?_
  refine sw_call0 (take_m [46] b S13) F M ⟨rfl, rfl, rfl⟩ rfl rfl ?_
  rintro _ S17 A w ⟨_, h18⟩ F M
  replace kn := kn.step h18
  refine sw_end ?_
  show Code.wp _ _ _ _ _
  refine sw_seq ?_
  refine sw_reg ?_
  refine sw_move F ⟨rfl, rfl, rfl⟩ rfl rfl fun A F => ?_
  refine sw_call0 (name_m b S17) F M ⟨rfl, rfl, rfl⟩ rfl rfl ?_
  rintro _ S19 A w ⟨_, s21, rfl, h20⟩ F M
  replace kn := kn.step h20
  refine sw_fld F 3 ⟨rfl, rfl, rfl⟩ rfl (by kernel_rfl) rfl rfl fun A F => ?_
  refine sw_set F M 2 ⟨rfl, rfl, rfl⟩ rfl rfl rfl (by kernel_rfl) rfl rfl rfl fun w M => ?_
  simp only [List.set_cons_zero, List.set_cons_succ] at M
  refine sw_end ?_
  show Code.wp _ _ _ _ _
  refine sw_seq ?_
  refine sw_reg ?_
  refine sw_move F ⟨rfl, rfl, rfl⟩ rfl rfl fun A F => ?_
  refine sw_call (args_m b S19) F M ⟨rfl, rfl, rfl⟩ rfl rfl ?_
  rintro _ _ S22 A w ⟨la23, lc23, es23, rfl, rfl, f423, h23⟩ F M
  replace kn := kn.step h23
  refine sw_asg F ⟨rfl, rfl, rfl⟩ rfl rfl fun A F => ?_
  refine sw_end ?_
  show Code.wp _ _ _ _ _
  refine sw_seq ?_
  refine sw_reg ?_
  refine sw_move F ⟨rfl, rfl, rfl⟩ rfl rfl fun A F => ?_
  refine sw_call0 (take_m [118, 97, 108, 117, 101] b S22) F M ⟨rfl, rfl, rfl⟩ rfl rfl ?_
  rintro _ S25 A w ⟨_, h26⟩ F M
  replace kn := kn.step h26
  refine sw_end ?_
  show Code.wp _ _ _ _ _
  refine sw_seq ?_
  refine sw_reg ?_
  refine sw_move F ⟨rfl, rfl, rfl⟩ rfl rfl fun A F => ?_
  refine sw_call (expr_m b S25) F M ⟨rfl, rfl, rfl⟩ rfl rfl ?_
  rintro _ _ S27 A w ⟨op28, m28, s28, la28, lc28, es28, rfl, rfl, h28⟩ F M
  replace kn := kn.step h28
  refine sw_alloc F M [.int .i64 0, .int .i64 0, .string ⟨#[]⟩, .slice none 0 0] ⟨rfl, rfl, rfl⟩ (by kernel_rfl) rfl fun x30 A w F M => ?_
  refine sw_setAll F M 0 ⟨rfl, rfl, rfl⟩ rfl rfl rfl (by kernel_rfl) rfl rfl fun w M => ?_
  simp only [List.set_cons_zero, List.set_cons_succ] at M
  refine sw_end ?_
  show Code.wp _ _ _ _ _
  refine sw_seq ?_
  refine sw_reg ?_
  refine sw_move F ⟨rfl, rfl, rfl⟩ rfl rfl fun A F => ?_
  refine sw_call0 (take_m [103, 97, 115] b S27) F M ⟨rfl, rfl, rfl⟩ rfl rfl ?_
  rintro _ S31 A w ⟨_, h32⟩ F M
  replace kn := kn.step h32
  refine sw_end ?_
  show Code.wp _ _ _ _ _
  refine sw_seq ?_
  refine sw_reg ?_
  refine sw_move F ⟨rfl, rfl, rfl⟩ rfl rfl fun A F => ?_
  refine sw_call (expr_m b S31) F M ⟨rfl, rfl, rfl⟩ rfl rfl ?_
  rintro _ _ S33 A w ⟨op34, m34, s34, la34, lc34, es34, rfl, rfl, h34⟩ F M
  replace kn := kn.step h34
  refine sw_alloc F M [.int .i64 0, .int .i64 0, .string ⟨#[]⟩, .slice none 0 0] ⟨rfl, rfl, rfl⟩ (by kernel_rfl) rfl fun x36 A w F M => ?_
  refine sw_setAll F M 0 ⟨rfl, rfl, rfl⟩ rfl rfl rfl (by kernel_rfl) rfl rfl fun w M => ?_
  simp only [List.set_cons_zero, List.set_cons_succ] at M
  refine sw_end ?_
  show Code.wp _ _ _ _ _
  refine sw_seq ?_
  refine sw_reg ?_
  refine sw_move F ⟨rfl, rfl, rfl⟩ rfl rfl fun A F => ?_
  refine sw_call0 (take_m [59] b S33) F M ⟨rfl, rfl, rfl⟩ rfl rfl ?_
  rintro _ S37 A w ⟨_, h38⟩ F M
  replace kn := kn.step h38
  refine sw_end ?_
  show Code.wp _ _ _ _ _
  refine sw_seq ?_
  refine sw_reg ?_
  refine sw_all F M 5 ⟨rfl, rfl, rfl⟩ rfl rfl (by kernel_rfl) (by kernel_rfl) rfl fun A F => ?_
  refine sw_all F M 2 ⟨rfl, rfl, rfl⟩ rfl rfl (by kernel_rfl) (by kernel_rfl) rfl fun A F => ?_
  refine sw_all F M 0 ⟨rfl, rfl, rfl⟩ rfl rfl (by kernel_rfl) (by kernel_rfl) rfl fun A F => ?_
  refine sw_mkrow (ety := 73) (sz := 4) (z := .agg #[.int .i64 0, .int .i64 0, .string ⟨#[]⟩, .slice none 0 0]) F M _ [exF op14 m14 s14 la14 lc14 es14, exF op28 m28 s28 la28 lc28 es28, exF op34 m34 s34 la34 lc34 es34] ⟨rfl, rfl, rfl⟩ rfl (by kernel_rfl) (by kernel_rfl) rfl (by kernel_rfl) rfl ?_ ?_ rfl fun x39 A w F M => ?_
  · intro g hg
    simp only [List.mem_cons, List.not_mem_nil, or_false] at hg
    rcases hg with rfl | rfl | rfl
    · exact ⟨rfl, (M.mem.vals 6 rfl).1⟩
    · exact ⟨rfl, (M.mem.vals 3 rfl).1⟩
    · exact ⟨rfl, (M.mem.vals 1 rfl).1⟩
  · intro i f b hf hm g hg
    simp only [List.mem_cons, List.not_mem_nil, or_false] at hg
    rcases hg with rfl | rfl | rfl
    · exact (M.mem.vals 6 rfl).2 i f b hf hm
    · exact (M.mem.vals 3 rfl).2 i f b hf hm
    · exact (M.mem.vals 1 rfl).2 i f b hf hm
  refine sw_move F ⟨rfl, rfl, rfl⟩ rfl rfl fun A F => ?_
  refine sw_appVal (z := .agg #[.int .i64 0, .int .i64 0, .string ⟨#[]⟩, .slice none 0 0]) F M 0 5 ⟨rfl, rfl, rfl⟩ rfl rfl rfl rfl rfl rfl (by kernel_rfl) (by kernel_rfl) rfl rfl f423.1 (by have := f423.2; simp only [List.length_cons, List.length_nil]; omega) rfl fun la41 lc42 A w F M => ?_
  simp only [List.set_cons_zero, List.set_cons_succ] at M
  refine sw_fld F 5 ⟨rfl, rfl, rfl⟩ rfl (by kernel_rfl) rfl rfl fun A F => ?_
  refine sw_set F M 8 ⟨rfl, rfl, rfl⟩ rfl rfl rfl (by kernel_rfl) rfl rfl rfl fun w M => ?_
  simp only [List.set_cons_zero, List.set_cons_succ] at M
  refine sw_end ?_
  show Code.wp _ _ _ _ _
  refine sw_seq ?_
  refine sw_reg ?_
  refine sw_all F M 8 ⟨rfl, rfl, rfl⟩ rfl rfl (by kernel_rfl) (by kernel_rfl) rfl fun A F => ?_
  refine sw_setAll F M 9 ⟨rfl, rfl, rfl⟩ rfl rfl rfl (by kernel_rfl) rfl rfl fun w M => ?_
  simp only [List.set_cons_zero, List.set_cons_succ] at M
  refine sw_end ?_
  show Code.wp _ _ _ _ _
  refine wp_ret ?_
  repeat (first | refine then_ret ?_ | refine block_ret ?_)
  exact sw_retbox F M 9 Tryd.results76 rfl rfl (by kernel_rfl) (by kernel_rfl) ⟨_, Sm.flds { k := 10, nm := s4, al := s10, ca := s21, ty := 0, ea := la41, ec := lc42, es := (([exF op14 m14 s14 la14 lc14 es14, exF op28 m28 s28 la28 lc28 es28, exF op34 m34 s34 la34 lc34 es34] ++ es23)), ba := none, bc := 0, bs := [], la := none, lc := 0, ls := [] }, S37, rfl, M.but, M.st, lie_cons (lie_i (n := 10) (by omega)) (lie_cons (trivial) (lie_cons (trivial) (lie_cons (trivial) (lie_cons (lie_i (n := 0) (by omega)) (lie_cons (M.mem.rowlie 0 rfl) (lie_cons (lies_nil _ _) (lie_cons (lies_nil _ _) (lie_nil _ _)))))))), { k := 10, nm := s4, al := s10, ca := s21, ty := 0, ea := la41, ec := lc42, es := (([exF op14 m14 s14 la14 lc14 es14, exF op28 m28 s28 la28 lc28 es28, exF op34 m34 s34 la34 lc34 es34] ++ es23)), ba := none, bc := 0, bs := [], la := none, lc := 0, ls := [] }, rfl, rfl, kn.fin⟩
set_option maxRecDepth 8000 in
set_option maxHeartbeats 3200000 in
theorem gift_m (b : Nat) (S : ES) : Meth Tryd.prog (RdX b) (fun k => k = b) 72 [ptr b] S (StP gift S) := by
  refine ⟨by kernel_rfl, fun w R _ => ?_⟩
  have M := rd_begin R
  have kn := Kn.here (F := gift) (S := S)
  refine sw_fn Tryd.func72 rfl 29 Tryd.ntmps72 rfl fun A F => ?_
  refine sw_seq ?_
  refine sw_reg ?_
  refine sw_alloc F M [.int .i64 0, .string ⟨#[]⟩, .string ⟨#[]⟩, .string ⟨#[]⟩, .int .i64 0, .slice none 0 0, .slice none 0 0, .slice none 0 0] ⟨rfl, rfl, rfl⟩ (by kernel_rfl) rfl fun x1 A w F M => ?_
  refine sw_end ?_
  show Code.wp _ _ _ _ _
  refine sw_seq ?_
  refine sw_reg ?_
  refine sw_move F ⟨rfl, rfl, rfl⟩ rfl rfl fun A F => ?_
  refine sw_call0 (name_m b S) F M ⟨rfl, rfl, rfl⟩ rfl rfl ?_
  rintro _ S2 A w ⟨_, s4, rfl, h3⟩ F M
  replace kn := kn.step h3
  refine sw_build F _ [.int .i64 2, .string (str s4), .string ⟨#[]⟩, .string ⟨#[]⟩, .int .i64 0, .slice none 0 0, .slice none 0 0, .slice none 0 0] ⟨rfl, rfl, rfl⟩ rfl (by kernel_rfl) rfl fun A F => ?_
  refine sw_alloc F M [.int .i64 0, .string ⟨#[]⟩, .string ⟨#[]⟩, .string ⟨#[]⟩, .int .i64 0, .slice none 0 0, .slice none 0 0, .slice none 0 0] ⟨rfl, rfl, rfl⟩ (by kernel_rfl) rfl fun x5 A w F M => ?_
  refine sw_setAll F M 0 ⟨rfl, rfl, rfl⟩ rfl rfl rfl (by kernel_rfl) rfl rfl fun w M => ?_
  simp only [List.set_cons_zero, List.set_cons_succ] at M
  refine sw_end ?_
  show Code.wp _ _ _ _ _
  refine sw_seq ?_
  refine sw_seq ?_
  refine sw_reg ?_
  refine sw_move F ⟨rfl, rfl, rfl⟩ rfl rfl fun A F => ?_
  refine sw_call0 (is_m [91] b S2) F M ⟨rfl, rfl, rfl⟩ rfl rfl ?_
  rintro _ _ A w ⟨_, rfl, rfl⟩ F M
  replace kn := kn.step (Rv.of (rel_is [91] S2))
  refine sw_end ?_
  show Code.wp _ _ _ _ _
  refine sw_cond F rfl (fun hc6 => ?_) (fun hc6 => ?_)
  · skip
    replace kn := kn.ifT_true hc6
    refine sw_seq ?_
    refine sw_reg ?_
    refine sw_fld F 0 ⟨rfl, rfl, rfl⟩ rfl (by kernel_rfl) rfl rfl fun A F => ?_
    refine sw_set F M 0 ⟨rfl, rfl, rfl⟩ rfl rfl rfl (by kernel_rfl) rfl rfl rfl fun w M => ?_
    simp only [List.set_cons_zero, List.set_cons_succ] at M
    refine sw_end ?_
    show Code.wp _ _ _ _ _
    replace M := M.nilrow 73 4
    refine wp_region_late (fun w' => w'.cell? ⟨x5, 5, none⟩ = some (.slice none 0 0)) 7 (by kernel_rfl) ?_
    show wpAnyM _ _ _ _ _ _ _ _ _ w.drew
    replace M := M.drew
    have hS : w.drew.cell? ⟨x5, 5, none⟩ = some (.slice none 0 0) := M.cell 1 rfl rfl
    refine sm_fld F 0 5 rfl ⟨rfl, rfl, rfl⟩ rfl (by kernel_rfl) rfl (by kernel_rfl) (by kernel_rfl) (by kernel_rfl) rfl (fun _ _ _ h => h) rfl hS fun A F => ?_
    refine sm_cell F 1 rfl ⟨rfl, rfl, rfl⟩ rfl (by kernel_rfl) (fun _ h => h) (by kernel_rfl) (by kernel_rfl) (by kernel_rfl) (by kernel_rfl) rfl (fun _ _ _ h => h) rfl hS fun A F => ?_
    refine sm_move F 2 rfl ⟨rfl, rfl, rfl⟩ rfl (by kernel_rfl) (by kernel_rfl) (by kernel_rfl) rfl (fun _ _ _ h => h) rfl hS fun A F => ?_
    clear hS
    refine sm_one 3 rfl (by kernel_rfl) rfl ?_
    refine sw_call (inner_m [91] [93] b S2) F M ⟨rfl, rfl, rfl⟩ rfl rfl ?_
    rintro _ _ S8 A w ⟨op9, m9, s9, la9, lc9, es9, rfl, rfl, h9⟩ F M
    replace kn := kn.step h9
    have hS : w.cell? ⟨x5, 5, none⟩ = some (.slice none 0 0) := M.cell 2 rfl rfl
    refine sw_end ⟨fun _ => hS, ?_⟩
    clear hS
    refine sm_one 4 rfl (by kernel_rfl) rfl ?_
    refine sw_mkrow (ety := 73) (sz := 4) (z := .agg #[.int .i64 0, .int .i64 0, .string ⟨#[]⟩, .slice none 0 0]) F M _ [exF op9 m9 s9 la9 lc9 es9] ⟨rfl, rfl, rfl⟩ rfl (by kernel_rfl) (by kernel_rfl) rfl (by kernel_rfl) rfl ?_ ?_ rfl fun x11 A w F M => ?_
    · intro g hg
      simp only [List.mem_cons, List.not_mem_nil, or_false] at hg
      rcases hg with rfl
      · exact ⟨rfl, (M.mem.vals 0 rfl).1⟩
    · intro i f b hf hm g hg
      simp only [List.mem_cons, List.not_mem_nil, or_false] at hg
      rcases hg with rfl
      · exact (M.mem.vals 0 rfl).2 i f b hf hm
    have hS : w.cell? ⟨x5, 5, none⟩ = some (.slice none 0 0) := M.cell 3 rfl rfl
    refine sw_end ⟨fun _ => hS, ?_⟩
    clear hS
    refine sm_one 5 rfl (by kernel_rfl) rfl ?_
    refine sw_appRow (z := .agg #[.int .i64 0, .int .i64 0, .string ⟨#[]⟩, .slice none 0 0]) F M 2 0 ⟨rfl, rfl, rfl⟩ rfl rfl rfl (by decide) rfl rfl rfl (by kernel_rfl) (by kernel_rfl) rfl rfl (by (try simp only [List.length_append, List.length_cons, List.length_nil]); omega) rfl fun la13 lc14 A w F M => ?_
    simp only [List.set_cons_zero, List.set_cons_succ] at M
    have hS : w.cell? ⟨x5, 5, none⟩ = some (.slice none 0 0) := M.cell 3 rfl rfl
    refine sw_end ⟨fun _ => hS, ?_⟩
    refine sm_fld F 6 5 rfl ⟨rfl, rfl, rfl⟩ rfl (by kernel_rfl) rfl (by kernel_rfl) (by kernel_rfl) (by kernel_rfl) rfl (fun _ _ _ h => h) rfl hS fun A F => ?_
    clear hS
    refine sm_one 7 rfl (by kernel_rfl) rfl ?_
    refine sw_set F M 3 ⟨rfl, rfl, rfl⟩ rfl rfl rfl (by kernel_rfl) rfl rfl rfl fun w M => ?_
    simp only [List.set_cons_zero, List.set_cons_succ] at M
    refine sw_end ⟨fun h => absurd h (by decide), ?_⟩
    refine wpAnyM_done (by kernel_rfl) ?_ _
    show Code.wp _ _ _ _ _
    refine sw_seq ?_
    refine sw_reg ?_
    refine sw_move F ⟨rfl, rfl, rfl⟩ rfl rfl fun A F => ?_
    refine sw_call0 (take_m [61] b S8) F M ⟨rfl, rfl, rfl⟩ rfl rfl ?_
    rintro _ S15 A w ⟨_, h16⟩ F M
    replace kn := kn.step h16
    refine sw_end ?_
    show Code.wp _ _ _ _ _
    refine sw_seq ?_
    refine wp_region_late (fun w' => w'.cell? ⟨x5, 5, none⟩ = some (.slice la13 (([] ++ [exF op9 m9 s9 la9 lc9 es9])).length lc14)) 7 (by kernel_rfl) ?_
    show wpAnyM _ _ _ _ _ _ _ _ _ w.drew
    replace M := M.drew
    have hS : w.drew.cell? ⟨x5, 5, none⟩ = some (.slice la13 (([] ++ [exF op9 m9 s9 la9 lc9 es9])).length lc14) := M.cell 3 rfl rfl
    refine sm_fld F 0 5 rfl ⟨rfl, rfl, rfl⟩ rfl (by kernel_rfl) rfl (by kernel_rfl) (by kernel_rfl) (by kernel_rfl) rfl (fun _ _ _ h => h) rfl hS fun A F => ?_
    refine sm_cell F 1 rfl ⟨rfl, rfl, rfl⟩ rfl (by kernel_rfl) (fun _ h => h) (by kernel_rfl) (by kernel_rfl) (by kernel_rfl) (by kernel_rfl) rfl (fun _ _ _ h => h) rfl hS fun A F => ?_
    refine sm_move F 2 rfl ⟨rfl, rfl, rfl⟩ rfl (by kernel_rfl) (by kernel_rfl) (by kernel_rfl) rfl (fun _ _ _ h => h) rfl hS fun A F => ?_
    clear hS
    refine sm_one 3 rfl (by kernel_rfl) rfl ?_
    refine sw_call (expr_m b S15) F M ⟨rfl, rfl, rfl⟩ rfl rfl ?_
    rintro _ _ S17 A w ⟨op18, m18, s18, la18, lc18, es18, rfl, rfl, h18⟩ F M
    replace kn := kn.step h18
    have hS : w.cell? ⟨x5, 5, none⟩ = some (.slice la13 (([] ++ [exF op9 m9 s9 la9 lc9 es9])).length lc14) := M.cell 4 rfl rfl
    refine sw_end ⟨fun _ => hS, ?_⟩
    clear hS
    refine sm_one 4 rfl (by kernel_rfl) rfl ?_
    refine sw_mkrow (ety := 73) (sz := 4) (z := .agg #[.int .i64 0, .int .i64 0, .string ⟨#[]⟩, .slice none 0 0]) F M _ [exF op18 m18 s18 la18 lc18 es18] ⟨rfl, rfl, rfl⟩ rfl (by kernel_rfl) (by kernel_rfl) rfl (by kernel_rfl) rfl ?_ ?_ rfl fun x20 A w F M => ?_
    · intro g hg
      simp only [List.mem_cons, List.not_mem_nil, or_false] at hg
      rcases hg with rfl
      · exact ⟨rfl, (M.mem.vals 0 rfl).1⟩
    · intro i f b hf hm g hg
      simp only [List.mem_cons, List.not_mem_nil, or_false] at hg
      rcases hg with rfl
      · exact (M.mem.vals 0 rfl).2 i f b hf hm
    have hS : w.cell? ⟨x5, 5, none⟩ = some (.slice la13 (([] ++ [exF op9 m9 s9 la9 lc9 es9])).length lc14) := M.cell 5 rfl rfl
    refine sw_end ⟨fun _ => hS, ?_⟩
    clear hS
    refine sm_one 5 rfl (by kernel_rfl) rfl ?_
    refine sw_appRow (z := .agg #[.int .i64 0, .int .i64 0, .string ⟨#[]⟩, .slice none 0 0]) F M 4 0 ⟨rfl, rfl, rfl⟩ rfl rfl rfl (by decide) rfl rfl rfl (by kernel_rfl) (by kernel_rfl) rfl rfl (by (try simp only [List.length_append, List.length_cons, List.length_nil]); omega) rfl fun la22 lc23 A w F M => ?_
    simp only [List.set_cons_zero, List.set_cons_succ] at M
    have hS : w.cell? ⟨x5, 5, none⟩ = some (.slice la13 (([] ++ [exF op9 m9 s9 la9 lc9 es9])).length lc14) := M.cell 5 rfl rfl
    refine sw_end ⟨fun _ => hS, ?_⟩
    refine sm_fld F 6 5 rfl ⟨rfl, rfl, rfl⟩ rfl (by kernel_rfl) rfl (by kernel_rfl) (by kernel_rfl) (by kernel_rfl) rfl (fun _ _ _ h => h) rfl hS fun A F => ?_
    clear hS
    refine sm_one 7 rfl (by kernel_rfl) rfl ?_
    refine sw_set F M 5 ⟨rfl, rfl, rfl⟩ rfl rfl rfl (by kernel_rfl) rfl rfl rfl fun w M => ?_
    simp only [List.set_cons_zero, List.set_cons_succ] at M
    refine sw_end ⟨fun h => absurd h (by decide), ?_⟩
    refine wpAnyM_done (by kernel_rfl) ?_ _
    show Code.wp _ _ _ _ _
    refine sw_seq ?_
    refine sw_reg ?_
    refine sw_move F ⟨rfl, rfl, rfl⟩ rfl rfl fun A F => ?_
    refine sw_call0 (take_m [59] b S17) F M ⟨rfl, rfl, rfl⟩ rfl rfl ?_
    rintro _ S24 A w ⟨_, h25⟩ F M
    replace kn := kn.step h25
    refine sw_end ?_
    show Code.wp _ _ _ _ _
    refine sw_seq ?_
    refine sw_reg ?_
    refine sw_all F M 5 ⟨rfl, rfl, rfl⟩ rfl rfl (by kernel_rfl) (by kernel_rfl) rfl fun A F => ?_
    refine sw_setAll F M 6 ⟨rfl, rfl, rfl⟩ rfl rfl rfl (by kernel_rfl) rfl rfl fun w M => ?_
    simp only [List.set_cons_zero, List.set_cons_succ] at M
    refine sw_end ?_
    show Code.wp _ _ _ _ _
    refine wp_ret ?_
    repeat (first | refine then_ret ?_ | refine block_ret ?_)
    exact sw_retbox F M 6 Tryd.results72 rfl rfl (by kernel_rfl) (by kernel_rfl) ⟨_, Sm.flds { k := 3, nm := s4, al := [], ca := [], ty := 0, ea := la22, ec := lc23, es := ((([] ++ [exF op9 m9 s9 la9 lc9 es9]) ++ [exF op18 m18 s18 la18 lc18 es18])), ba := none, bc := 0, bs := [], la := none, lc := 0, ls := [] }, S24, rfl, M.but, M.st, lie_cons (lie_i (n := 3) (by omega)) (lie_cons (trivial) (lie_cons (trivial) (lie_cons (trivial) (lie_cons (lie_i (n := 0) (by omega)) (lie_cons (M.mem.rowlie 4 rfl) (lie_cons (lies_nil _ _) (lie_cons (lies_nil _ _) (lie_nil _ _)))))))), { k := 3, nm := s4, al := [], ca := [], ty := 0, ea := la22, ec := lc23, es := ((([] ++ [exF op9 m9 s9 la9 lc9 es9]) ++ [exF op18 m18 s18 la18 lc18 es18])), ba := none, bc := 0, bs := [], la := none, lc := 0, ls := [] }, rfl, rfl, kn.fin⟩
  · skip
    replace kn := kn.ifT_false hc6
    refine wp_skip ?_
    show Code.wp _ _ _ _ _
    refine sw_seq ?_
    refine sw_reg ?_
    refine sw_move F ⟨rfl, rfl, rfl⟩ rfl rfl fun A F => ?_
    refine sw_call0 (take_m [61] b S2) F M ⟨rfl, rfl, rfl⟩ rfl rfl ?_
    rintro _ S26 A w ⟨_, h27⟩ F M
    replace kn := kn.step h27
    refine sw_end ?_
    show Code.wp _ _ _ _ _
    refine sw_seq ?_
    replace M := M.nilrow 73 4
    refine wp_region_late (fun w' => w'.cell? ⟨x5, 5, none⟩ = some (.slice none 0 0)) 7 (by kernel_rfl) ?_
    show wpAnyM _ _ _ _ _ _ _ _ _ w.drew
    replace M := M.drew
    have hS : w.drew.cell? ⟨x5, 5, none⟩ = some (.slice none 0 0) := M.cell 1 rfl rfl
    refine sm_fld F 0 5 rfl ⟨rfl, rfl, rfl⟩ rfl (by kernel_rfl) rfl (by kernel_rfl) (by kernel_rfl) (by kernel_rfl) rfl (fun _ _ _ h => h) rfl hS fun A F => ?_
    refine sm_cell F 1 rfl ⟨rfl, rfl, rfl⟩ rfl (by kernel_rfl) (fun _ h => h) (by kernel_rfl) (by kernel_rfl) (by kernel_rfl) (by kernel_rfl) rfl (fun _ _ _ h => h) rfl hS fun A F => ?_
    refine sm_move F 2 rfl ⟨rfl, rfl, rfl⟩ rfl (by kernel_rfl) (by kernel_rfl) (by kernel_rfl) rfl (fun _ _ _ h => h) rfl hS fun A F => ?_
    clear hS
    refine sm_one 3 rfl (by kernel_rfl) rfl ?_
    refine sw_call (expr_m b S26) F M ⟨rfl, rfl, rfl⟩ rfl rfl ?_
    rintro _ _ S29 A w ⟨op30, m30, s30, la30, lc30, es30, rfl, rfl, h30⟩ F M
    replace kn := kn.step h30
    have hS : w.cell? ⟨x5, 5, none⟩ = some (.slice none 0 0) := M.cell 2 rfl rfl
    refine sw_end ⟨fun _ => hS, ?_⟩
    clear hS
    refine sm_one 4 rfl (by kernel_rfl) rfl ?_
    refine sw_mkrow (ety := 73) (sz := 4) (z := .agg #[.int .i64 0, .int .i64 0, .string ⟨#[]⟩, .slice none 0 0]) F M _ [exF op30 m30 s30 la30 lc30 es30] ⟨rfl, rfl, rfl⟩ rfl (by kernel_rfl) (by kernel_rfl) rfl (by kernel_rfl) rfl ?_ ?_ rfl fun x32 A w F M => ?_
    · intro g hg
      simp only [List.mem_cons, List.not_mem_nil, or_false] at hg
      rcases hg with rfl
      · exact ⟨rfl, (M.mem.vals 0 rfl).1⟩
    · intro i f b hf hm g hg
      simp only [List.mem_cons, List.not_mem_nil, or_false] at hg
      rcases hg with rfl
      · exact (M.mem.vals 0 rfl).2 i f b hf hm
    have hS : w.cell? ⟨x5, 5, none⟩ = some (.slice none 0 0) := M.cell 3 rfl rfl
    refine sw_end ⟨fun _ => hS, ?_⟩
    clear hS
    refine sm_one 5 rfl (by kernel_rfl) rfl ?_
    refine sw_appRow (z := .agg #[.int .i64 0, .int .i64 0, .string ⟨#[]⟩, .slice none 0 0]) F M 2 0 ⟨rfl, rfl, rfl⟩ rfl rfl rfl (by decide) rfl rfl rfl (by kernel_rfl) (by kernel_rfl) rfl rfl (by (try simp only [List.length_append, List.length_cons, List.length_nil]); omega) rfl fun la34 lc35 A w F M => ?_
    simp only [List.set_cons_zero, List.set_cons_succ] at M
    have hS : w.cell? ⟨x5, 5, none⟩ = some (.slice none 0 0) := M.cell 3 rfl rfl
    refine sw_end ⟨fun _ => hS, ?_⟩
    refine sm_fld F 6 5 rfl ⟨rfl, rfl, rfl⟩ rfl (by kernel_rfl) rfl (by kernel_rfl) (by kernel_rfl) (by kernel_rfl) rfl (fun _ _ _ h => h) rfl hS fun A F => ?_
    clear hS
    refine sm_one 7 rfl (by kernel_rfl) rfl ?_
    refine sw_set F M 3 ⟨rfl, rfl, rfl⟩ rfl rfl rfl (by kernel_rfl) rfl rfl rfl fun w M => ?_
    simp only [List.set_cons_zero, List.set_cons_succ] at M
    refine sw_end ⟨fun h => absurd h (by decide), ?_⟩
    refine wpAnyM_done (by kernel_rfl) ?_ _
    show Code.wp _ _ _ _ _
    refine sw_seq ?_
    refine sw_reg ?_
    refine sw_move F ⟨rfl, rfl, rfl⟩ rfl rfl fun A F => ?_
    refine sw_call0 (take_m [59] b S29) F M ⟨rfl, rfl, rfl⟩ rfl rfl ?_
    rintro _ S36 A w ⟨_, h37⟩ F M
    replace kn := kn.step h37
    refine sw_end ?_
    show Code.wp _ _ _ _ _
    refine sw_seq ?_
    refine sw_reg ?_
    refine sw_all F M 3 ⟨rfl, rfl, rfl⟩ rfl rfl (by kernel_rfl) (by kernel_rfl) rfl fun A F => ?_
    refine sw_setAll F M 4 ⟨rfl, rfl, rfl⟩ rfl rfl rfl (by kernel_rfl) rfl rfl fun w M => ?_
    simp only [List.set_cons_zero, List.set_cons_succ] at M
    refine sw_end ?_
    show Code.wp _ _ _ _ _
    refine wp_ret ?_
    repeat (first | refine then_ret ?_ | refine block_ret ?_)
    exact sw_retbox F M 4 Tryd.results72 rfl rfl (by kernel_rfl) (by kernel_rfl) ⟨_, Sm.flds { k := 2, nm := s4, al := [], ca := [], ty := 0, ea := la34, ec := lc35, es := (([] ++ [exF op30 m30 s30 la30 lc30 es30])), ba := none, bc := 0, bs := [], la := none, lc := 0, ls := [] }, S36, rfl, M.but, M.st, lie_cons (lie_i (n := 2) (by omega)) (lie_cons (trivial) (lie_cons (trivial) (lie_cons (trivial) (lie_cons (lie_i (n := 0) (by omega)) (lie_cons (M.mem.rowlie 2 rfl) (lie_cons (lies_nil _ _) (lie_cons (lies_nil _ _) (lie_nil _ _)))))))), { k := 2, nm := s4, al := [], ca := [], ty := 0, ea := la34, ec := lc35, es := (([] ++ [exF op30 m30 s30 la30 lc30 es30])), ba := none, bc := 0, bs := [], la := none, lc := 0, ls := [] }, rfl, rfl, kn.fin⟩
end Go.Proofs.YtgpjlocgkdlnlaaDoor
