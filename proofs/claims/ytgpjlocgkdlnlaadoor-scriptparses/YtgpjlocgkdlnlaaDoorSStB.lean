/- The program's reader: blocks, branches. -/
import Derived.Test.YtgpjlocgkdlnlaaDoorSStA
namespace Go.Proofs.YtgpjlocgkdlnlaaDoor
open Go.RowKit
set_option linter.unusedVariables false
set_option linter.unusedSimpArgs false

set_option maxRecDepth 8000 in
set_option maxHeartbeats 3200000 in
theorem block_of {m : Nat} (HS : ∀ b S, need S < m → Meth Tryd.prog (RdX b) (fun k => k = b) 66 [ptr b] S (StP stepM S)) (b : Nat) (S : ES) (hm : need S ≤ m) : Meth Tryd.prog (RdX b) (fun k => k = b) 59 [ptr b] S (BlP blockM S) := by
  refine ⟨by kernel_rfl, fun wO R _ => ?_⟩
  have M := rd_begin R
  have kn := (Kn.here (F := blockM) (S := S)).succ
  refine sw_fn Tryd.func59 rfl 16 Tryd.ntmps59 rfl fun A F => ?_
  refine sw_seq ?_
  refine sw_reg ?_
  refine sw_asg F ⟨rfl, rfl, rfl⟩ rfl rfl fun A F => ?_
  refine sw_end ?_
  show Code.wp _ _ _ _ _
  refine sw_seq ?_
  refine sw_reg ?_
  refine sw_asg F ⟨rfl, rfl, rfl⟩ rfl rfl fun A F => ?_
  refine sw_end ?_
  show Code.wp _ _ _ _ _
  refine sw_seq ?_
  refine sw_reg ?_
  refine sw_move F ⟨rfl, rfl, rfl⟩ rfl rfl fun A F => ?_
  refine sw_call0 (open_m [123] b S) F M ⟨rfl, rfl, rfl⟩ rfl rfl ?_
  rintro _ S1 A w ⟨_, h2⟩ F M
  replace kn := kn.step h2
  refine sw_end ?_
  show Code.wp _ _ _ _ _
  refine sw_seq ?_
  refine wp_block ?_
  replace M := M.nilrow 70 8
  have hlf := lf_takes (F := fun _ => openT [123]) h2 fun _ => Takes.open _
  have hmost := M.st.most
  refine wp_loop (fun A wv => ∃ la lc es Sv, Fm 16 [(3, .slice la es.length lc), (0, ptr b)] A ∧ Mm (RdX b) (fun k => k = b) wO [.row (.slice la es.length lc) 70 8 es] Sv wv ∧ Kn (fun n => stepsM n []) S1 (fun n => stepsM n (pvRows es)) Sv ∧ es.length + lf Sv ≤ lf S1) (fun _ wv => wl wv b) ?_ ?_
  · exact ⟨none, 0, [], S1, F.keep [3, 0] rfl, M, Kn.here, by simp⟩
  rintro A wr ⟨la, lc, es, Sv, F, M, kl, hlen⟩
  have hwl := M.st.wl
  refine sw_seq ?_
  refine sw_seq ?_
  refine sw_reg ?_
  refine sw_move F ⟨rfl, rfl, rfl⟩ rfl rfl fun A F => ?_
  refine sw_call0 (ahead_m [125] b Sv) F M ⟨rfl, rfl, rfl⟩ rfl rfl ?_
  rintro _ _ A w ⟨_, rfl, rfl⟩ F M
  refine sw_end ?_
  show Code.wp _ _ _ _ _
  refine sw_cond F rfl (fun hc => ?_) (fun hc => ?_)
  · skip
    obtain ⟨hok, hst⟩ := going_ok hc
    replace kl := (kl.succ.step (Rv.of (rel_is [125] Sv))).ifT_false hst
    have hneed : need Sv < m := by omega
    refine wp_skip ?_
    show Code.wp _ _ _ _ _
    refine wp_block ?_
    refine sw_reg ?_
    refine sw_move F ⟨rfl, rfl, rfl⟩ rfl rfl fun A F => ?_
    refine sw_move F ⟨rfl, rfl, rfl⟩ rfl rfl fun A F => ?_
    refine sw_call (HS b Sv hneed) F M ⟨rfl, rfl, rfl⟩ rfl rfl ?_
    rintro _ _ S3 A w ⟨y5, rfl, rfl, h4⟩ F M
    refine sw_app1 (z := .agg #[.int .i64 0, .string ⟨#[]⟩, .string ⟨#[]⟩, .string ⟨#[]⟩, .int .i64 0, .slice none 0 0, .slice none 0 0, .slice none 0 0]) F M 1 0 ⟨rfl, rfl, rfl⟩ ⟨rfl, rfl, rfl⟩ rfl rfl (fun _ => rfl) rfl rfl (by kernel_rfl) (by kernel_rfl) rfl rfl (by kernel_rfl) rfl (by have := lf_le S1; omega) rfl fun la7 lc8 _ A w F M => ?_
    simp only [List.set_cons_zero, List.set_cons_succ] at M
    refine sw_asg F ⟨rfl, rfl, rfl⟩ rfl rfl fun A F => ?_
    refine sw_end ?_
    replace M := M.drop 0 rfl
    have hlt := lf_takes (F := stepM) h4 step_takes
    show _ ∧ _
    refine ⟨⟨_, _, es ++ [y5.flds], S3, F.keep [3, 0] rfl, M, (kl.step h4).to fun n => by rw [pvRows_app]; rfl, by rw [List.length_append, List.length_singleton]; omega⟩, ?_⟩
    rw [M.st.wl, hwl]
    omega
  · skip
    replace kn := kn.step (steps_end kl hc)
    refine wp_exit ?_
    show Code.wp _ _ _ _ _
    refine sw_seq ?_
    refine sw_reg ?_
    refine sw_move F ⟨rfl, rfl, rfl⟩ rfl rfl fun A F => ?_
    refine sw_call0 (shut_m [125] b Sv) F M ⟨rfl, rfl, rfl⟩ rfl rfl ?_
    rintro _ S9 A w ⟨_, h10⟩ F M
    replace kn := kn.step h10
    refine sw_end ?_
    show Code.wp _ _ _ _ _
    refine sw_seq ?_
    refine sw_reg ?_
    refine sw_move F ⟨rfl, rfl, rfl⟩ rfl rfl fun A F => ?_
    refine sw_asg F ⟨rfl, rfl, rfl⟩ rfl rfl fun A F => ?_
    refine sw_end ?_
    show Code.wp _ _ _ _ _
    refine wp_ret ?_
    repeat (first | refine then_ret ?_ | refine block_ret ?_)
    exact sw_rettmp F Tryd.results59 rfl ⟨_, [.l la lc es], S9, rfl, M.but, M.st, lie_cons (M.mem.rowlie 0 rfl) (lie_nil _ _), la, lc, es, rfl, rfl, kn.fin⟩
set_option maxRecDepth 8000 in
set_option maxHeartbeats 3200000 in
theorem branch4 {m : Nat} (HB : ∀ b S, need S ≤ m → Meth Tryd.prog (RdX b) (fun k => k = b) 59 [ptr b] S (BlP blockM S)) (b : Nat) (S : ES) (hm : need S ≤ m) : Meth Tryd.prog (RdX b) (fun k => k = b) 74 [ptr b, .int .i64 4] S (StP ifM S) := by
  refine ⟨by kernel_rfl, fun wO R _ => ?_⟩
  have M := rd_begin R
  have kn := (Kn.here (F := ifM) (S := S)).succ
  refine sw_fn Tryd.func74 rfl 26 Tryd.ntmps74 rfl fun A F => ?_
  refine sw_seq ?_
  refine sw_reg ?_
  refine sw_alloc F M [.int .i64 0, .string ⟨#[]⟩, .string ⟨#[]⟩, .string ⟨#[]⟩, .int .i64 0, .slice none 0 0, .slice none 0 0, .slice none 0 0] ⟨rfl, rfl, rfl⟩ (by kernel_rfl) rfl fun x1 A w F M => ?_
  refine sw_end ?_
  show Code.wp _ _ _ _ _
  refine sw_seq ?_
  refine sw_reg ?_
  refine sw_move F ⟨rfl, rfl, rfl⟩ rfl rfl fun A F => ?_
  refine sw_move F ⟨rfl, rfl, rfl⟩ rfl rfl fun A F => ?_
  refine sw_call (expr_m b S) F M ⟨rfl, rfl, rfl⟩ rfl rfl ?_
  rintro _ _ S2 A w ⟨op3, m3, s3, la3, lc3, es3, rfl, rfl, h3⟩ F M
  replace kn := kn.step h3
  refine sw_mkrow (ety := 73) (sz := 4) (z := .agg #[.int .i64 0, .int .i64 0, .string ⟨#[]⟩, .slice none 0 0]) F M _ [exF op3 m3 s3 la3 lc3 es3] ⟨rfl, rfl, rfl⟩ rfl (by kernel_rfl) (by kernel_rfl) rfl (by kernel_rfl) rfl ?_ ?_ rfl fun x5 A w F M => ?_
  · intro g hg
    simp only [List.mem_cons, List.not_mem_nil, or_false] at hg
    rcases hg with rfl
    · exact ⟨rfl, (M.mem.vals 0 rfl).1⟩
  · intro i f b hf hm g hg
    simp only [List.mem_cons, List.not_mem_nil, or_false] at hg
    rcases hg with rfl
    · exact (M.mem.vals 0 rfl).2 i f b hf hm
  refine sw_build F _ [.int .i64 4, .string ⟨#[]⟩, .string ⟨#[]⟩, .string ⟨#[]⟩, .int .i64 0, .slice (some ⟨x5, 0, none⟩) 1 1, .slice none 0 0, .slice none 0 0] ⟨rfl, rfl, rfl⟩ rfl (by kernel_rfl) rfl fun A F => ?_
  refine sw_alloc F M [.int .i64 0, .string ⟨#[]⟩, .string ⟨#[]⟩, .string ⟨#[]⟩, .int .i64 0, .slice none 0 0, .slice none 0 0, .slice none 0 0] ⟨rfl, rfl, rfl⟩ (by kernel_rfl) rfl fun x7 A w F M => ?_
  refine sw_setAll F M 0 ⟨rfl, rfl, rfl⟩ rfl rfl rfl (by kernel_rfl) rfl rfl fun w M => ?_
  simp only [List.set_cons_zero, List.set_cons_succ] at M
  refine sw_end ?_
  show Code.wp _ _ _ _ _
  refine sw_seq ?_
  refine sw_reg ?_
  refine sw_move F ⟨rfl, rfl, rfl⟩ rfl rfl fun A F => ?_
  refine sw_call (HB b S2 (Nat.le_trans (h3.shr fun n => expr_shr1 n 1) hm)) F M ⟨rfl, rfl, rfl⟩ rfl rfl ?_
  rintro _ _ S8 A w ⟨la9, lc9, es9, rfl, rfl, h9⟩ F M
  replace kn := kn.step h9
  refine sw_fld F 6 ⟨rfl, rfl, rfl⟩ rfl (by kernel_rfl) rfl rfl fun A F => ?_
  refine sw_set F M 1 ⟨rfl, rfl, rfl⟩ rfl rfl rfl (by kernel_rfl) rfl rfl rfl fun w M => ?_
  simp only [List.set_cons_zero, List.set_cons_succ] at M
  refine sw_end ?_
  show Code.wp _ _ _ _ _
  refine sw_seq ?_
  refine sw_seq ?_
  refine sw_reg ?_
  refine sw_move F ⟨rfl, rfl, rfl⟩ rfl rfl fun A F => ?_
  refine sw_eq F ⟨rfl, rfl, rfl⟩ rfl rfl rfl fun A F => ?_
  refine sw_move F ⟨rfl, rfl, rfl⟩ rfl rfl fun A F => ?_
  refine sw_on F 2 rfl rfl rfl rfl rfl ?_
  refine sw_move F ⟨rfl, rfl, rfl⟩ rfl rfl fun A F => ?_
  refine sw_on F 2 rfl rfl rfl rfl rfl ?_
  refine sw_call0 (is_m [101, 108, 115, 101] b S8) F M ⟨rfl, rfl, rfl⟩ rfl rfl ?_
  rintro _ _ A w ⟨_, rfl, rfl⟩ F M
  replace kn := kn.step (Rv.of (rel_is [101, 108, 115, 101] S8))
  refine sw_pickT F ⟨rfl, rfl, rfl⟩ rfl rfl rfl fun A F => ?_
  refine sw_end ?_
  show Code.wp _ _ _ _ _
  refine sw_cond F rfl (fun hc12 => ?_) (fun hc12 => ?_)
  · skip
    replace kn := kn.ifT_true hc12
    rw [hc12] at F
    refine sw_seq ?_
    refine sw_reg ?_
    refine sw_move F ⟨rfl, rfl, rfl⟩ rfl rfl fun A F => ?_
    refine sw_call0 (take_m [101, 108, 115, 101] b S8) F M ⟨rfl, rfl, rfl⟩ rfl rfl ?_
    rintro _ S13 A w ⟨_, h14⟩ F M
    replace kn := kn.step h14
    refine sw_end ?_
    show Code.wp _ _ _ _ _
    refine sw_reg ?_
    refine sw_move F ⟨rfl, rfl, rfl⟩ rfl rfl fun A F => ?_
    refine sw_call (HB b S13 (Nat.le_trans (h14.shr fun n => Shr.take _) (Nat.le_trans (h9.shr fun n => (step_shr n).2.2.2.2.1) (Nat.le_trans (h3.shr fun n => expr_shr1 n 1) hm)))) F M ⟨rfl, rfl, rfl⟩ rfl rfl ?_
    rintro _ _ S15 A w ⟨la16, lc16, es16, rfl, rfl, h16⟩ F M
    replace kn := kn.step h16
    refine sw_fld F 7 ⟨rfl, rfl, rfl⟩ rfl (by kernel_rfl) rfl rfl fun A F => ?_
    refine sw_set F M 2 ⟨rfl, rfl, rfl⟩ rfl rfl rfl (by kernel_rfl) rfl rfl rfl fun w M => ?_
    simp only [List.set_cons_zero, List.set_cons_succ] at M
    refine sw_end ?_
    show Code.wp _ _ _ _ _
    refine sw_seq ?_
    refine sw_reg ?_
    refine sw_all F M 2 ⟨rfl, rfl, rfl⟩ rfl rfl (by kernel_rfl) (by kernel_rfl) rfl fun A F => ?_
    refine sw_setAll F M 5 ⟨rfl, rfl, rfl⟩ rfl rfl rfl (by kernel_rfl) rfl rfl fun w M => ?_
    simp only [List.set_cons_zero, List.set_cons_succ] at M
    refine sw_end ?_
    show Code.wp _ _ _ _ _
    refine wp_ret ?_
    repeat (first | refine then_ret ?_ | refine block_ret ?_)
    exact sw_retbox F M 5 Tryd.results74 rfl rfl (by kernel_rfl) (by kernel_rfl) ⟨_, Sm.flds { k := 4, nm := [], al := [], ca := [], ty := 0, ea := (some ⟨x5, 0, none⟩), ec := 1, es := ([exF op3 m3 s3 la3 lc3 es3]), ba := la9, bc := lc9, bs := es9, la := la16, lc := lc16, ls := es16 }, S15, rfl, M.but, M.st, lie_cons (lie_i (n := 4) (by omega)) (lie_cons (trivial) (lie_cons (trivial) (lie_cons (trivial) (lie_cons (lie_i (n := 0) (by omega)) (lie_cons (M.mem.rowlie 3 rfl) (lie_cons (M.mem.vallie 1 rfl) (lie_cons (M.mem.vallie 0 rfl) (lie_nil _ _)))))))), { k := 4, nm := [], al := [], ca := [], ty := 0, ea := (some ⟨x5, 0, none⟩), ec := 1, es := ([exF op3 m3 s3 la3 lc3 es3]), ba := la9, bc := lc9, bs := es9, la := la16, lc := lc16, ls := es16 }, rfl, rfl, kn.fin⟩
  · skip
    replace kn := kn.ifT_false hc12
    rw [hc12] at F
    refine wp_skip ?_
    show Code.wp _ _ _ _ _
    refine sw_seq ?_
    refine sw_reg ?_
    refine sw_all F M 1 ⟨rfl, rfl, rfl⟩ rfl rfl (by kernel_rfl) (by kernel_rfl) rfl fun A F => ?_
    refine sw_setAll F M 4 ⟨rfl, rfl, rfl⟩ rfl rfl rfl (by kernel_rfl) rfl rfl fun w M => ?_
    simp only [List.set_cons_zero, List.set_cons_succ] at M
    refine sw_end ?_
    show Code.wp _ _ _ _ _
    refine wp_ret ?_
    repeat (first | refine then_ret ?_ | refine block_ret ?_)
    exact sw_retbox F M 4 Tryd.results74 rfl rfl (by kernel_rfl) (by kernel_rfl) ⟨_, Sm.flds { k := 4, nm := [], al := [], ca := [], ty := 0, ea := (some ⟨x5, 0, none⟩), ec := 1, es := ([exF op3 m3 s3 la3 lc3 es3]), ba := la9, bc := lc9, bs := es9, la := none, lc := 0, ls := [] }, S8, rfl, M.but, M.st, lie_cons (lie_i (n := 4) (by omega)) (lie_cons (trivial) (lie_cons (trivial) (lie_cons (trivial) (lie_cons (lie_i (n := 0) (by omega)) (lie_cons (M.mem.rowlie 2 rfl) (lie_cons (M.mem.vallie 0 rfl) (lie_cons (lies_nil _ _) (lie_nil _ _)))))))), { k := 4, nm := [], al := [], ca := [], ty := 0, ea := (some ⟨x5, 0, none⟩), ec := 1, es := ([exF op3 m3 s3 la3 lc3 es3]), ba := la9, bc := lc9, bs := es9, la := none, lc := 0, ls := [] }, rfl, rfl, kn.fin⟩
set_option maxRecDepth 8000 in
set_option maxHeartbeats 3200000 in
theorem branch5 {m : Nat} (HB : ∀ b S, need S ≤ m → Meth Tryd.prog (RdX b) (fun k => k = b) 59 [ptr b] S (BlP blockM S)) (b : Nat) (S : ES) (hm : need S ≤ m) : Meth Tryd.prog (RdX b) (fun k => k = b) 74 [ptr b, .int .i64 5] S (StP whileM S) := by
  refine ⟨by kernel_rfl, fun wO R _ => ?_⟩
  have M := rd_begin R
  have kn := (Kn.here (F := whileM) (S := S)).succ
  refine sw_fn Tryd.func74 rfl 26 Tryd.ntmps74 rfl fun A F => ?_
  refine sw_seq ?_
  refine sw_reg ?_
  refine sw_alloc F M [.int .i64 0, .string ⟨#[]⟩, .string ⟨#[]⟩, .string ⟨#[]⟩, .int .i64 0, .slice none 0 0, .slice none 0 0, .slice none 0 0] ⟨rfl, rfl, rfl⟩ (by kernel_rfl) rfl fun x1 A w F M => ?_
  refine sw_end ?_
  show Code.wp _ _ _ _ _
  refine sw_seq ?_
  refine sw_reg ?_
  refine sw_move F ⟨rfl, rfl, rfl⟩ rfl rfl fun A F => ?_
  refine sw_move F ⟨rfl, rfl, rfl⟩ rfl rfl fun A F => ?_
  refine sw_call (expr_m b S) F M ⟨rfl, rfl, rfl⟩ rfl rfl ?_
  rintro _ _ S2 A w ⟨op3, m3, s3, la3, lc3, es3, rfl, rfl, h3⟩ F M
  replace kn := kn.step h3
  refine sw_mkrow (ety := 73) (sz := 4) (z := .agg #[.int .i64 0, .int .i64 0, .string ⟨#[]⟩, .slice none 0 0]) F M _ [exF op3 m3 s3 la3 lc3 es3] ⟨rfl, rfl, rfl⟩ rfl (by kernel_rfl) (by kernel_rfl) rfl (by kernel_rfl) rfl ?_ ?_ rfl fun x5 A w F M => ?_
  · intro g hg
    simp only [List.mem_cons, List.not_mem_nil, or_false] at hg
    rcases hg with rfl
    · exact ⟨rfl, (M.mem.vals 0 rfl).1⟩
  · intro i f b hf hm g hg
    simp only [List.mem_cons, List.not_mem_nil, or_false] at hg
    rcases hg with rfl
    · exact (M.mem.vals 0 rfl).2 i f b hf hm
  refine sw_build F _ [.int .i64 5, .string ⟨#[]⟩, .string ⟨#[]⟩, .string ⟨#[]⟩, .int .i64 0, .slice (some ⟨x5, 0, none⟩) 1 1, .slice none 0 0, .slice none 0 0] ⟨rfl, rfl, rfl⟩ rfl (by kernel_rfl) rfl fun A F => ?_
  refine sw_alloc F M [.int .i64 0, .string ⟨#[]⟩, .string ⟨#[]⟩, .string ⟨#[]⟩, .int .i64 0, .slice none 0 0, .slice none 0 0, .slice none 0 0] ⟨rfl, rfl, rfl⟩ (by kernel_rfl) rfl fun x7 A w F M => ?_
  refine sw_setAll F M 0 ⟨rfl, rfl, rfl⟩ rfl rfl rfl (by kernel_rfl) rfl rfl fun w M => ?_
  simp only [List.set_cons_zero, List.set_cons_succ] at M
  refine sw_end ?_
  show Code.wp _ _ _ _ _
  refine sw_seq ?_
  refine sw_reg ?_
  refine sw_move F ⟨rfl, rfl, rfl⟩ rfl rfl fun A F => ?_
  refine sw_call (HB b S2 (Nat.le_trans (h3.shr fun n => expr_shr1 n 1) hm)) F M ⟨rfl, rfl, rfl⟩ rfl rfl ?_
  rintro _ _ S8 A w ⟨la9, lc9, es9, rfl, rfl, h9⟩ F M
  replace kn := kn.step h9
  refine sw_fld F 6 ⟨rfl, rfl, rfl⟩ rfl (by kernel_rfl) rfl rfl fun A F => ?_
  refine sw_set F M 1 ⟨rfl, rfl, rfl⟩ rfl rfl rfl (by kernel_rfl) rfl rfl rfl fun w M => ?_
  simp only [List.set_cons_zero, List.set_cons_succ] at M
  refine sw_end ?_
  show Code.wp _ _ _ _ _
  refine sw_seq ?_
  refine sw_seq ?_
  refine sw_reg ?_
  refine sw_move F ⟨rfl, rfl, rfl⟩ rfl rfl fun A F => ?_
  refine sw_eq F ⟨rfl, rfl, rfl⟩ rfl rfl rfl fun A F => ?_
  refine sw_move F ⟨rfl, rfl, rfl⟩ rfl rfl fun A F => ?_
  refine sw_off F 2 rfl rfl rfl rfl rfl rfl rfl fun A F => ?_
  refine sw_off F 2 rfl rfl rfl rfl rfl rfl rfl fun A F => ?_
  refine sw_pickF F ⟨rfl, rfl, rfl⟩ rfl rfl rfl fun A F => ?_
  refine sw_end ?_
  show Code.wp _ _ _ _ _
  refine sw_false F rfl ?_
  refine wp_skip ?_
  show Code.wp _ _ _ _ _
  refine sw_seq ?_
  refine sw_reg ?_
  refine sw_all F M 1 ⟨rfl, rfl, rfl⟩ rfl rfl (by kernel_rfl) (by kernel_rfl) rfl fun A F => ?_
  refine sw_setAll F M 4 ⟨rfl, rfl, rfl⟩ rfl rfl rfl (by kernel_rfl) rfl rfl fun w M => ?_
  simp only [List.set_cons_zero, List.set_cons_succ] at M
  refine sw_end ?_
  show Code.wp _ _ _ _ _
  refine wp_ret ?_
  repeat (first | refine then_ret ?_ | refine block_ret ?_)
  exact sw_retbox F M 4 Tryd.results74 rfl rfl (by kernel_rfl) (by kernel_rfl) ⟨_, Sm.flds { k := 5, nm := [], al := [], ca := [], ty := 0, ea := (some ⟨x5, 0, none⟩), ec := 1, es := ([exF op3 m3 s3 la3 lc3 es3]), ba := la9, bc := lc9, bs := es9, la := none, lc := 0, ls := [] }, S8, rfl, M.but, M.st, lie_cons (lie_i (n := 5) (by omega)) (lie_cons (trivial) (lie_cons (trivial) (lie_cons (trivial) (lie_cons (lie_i (n := 0) (by omega)) (lie_cons (M.mem.rowlie 2 rfl) (lie_cons (M.mem.vallie 0 rfl) (lie_cons (lies_nil _ _) (lie_nil _ _)))))))), { k := 5, nm := [], al := [], ca := [], ty := 0, ea := (some ⟨x5, 0, none⟩), ec := 1, es := ([exF op3 m3 s3 la3 lc3 es3]), ba := la9, bc := lc9, bs := es9, la := none, lc := 0, ls := [] }, rfl, rfl, kn.fin⟩
end Go.Proofs.YtgpjlocgkdlnlaaDoor
