/- The program's reader: steps; all of them. -/
import Derived.Test.YtgpjlocgkdlnlaaDoorSStB
namespace Go.Proofs.YtgpjlocgkdlnlaaDoor
open Go.RowKit
set_option linter.unusedVariables false
set_option linter.unusedSimpArgs false

set_option maxRecDepth 8000 in
set_option maxHeartbeats 3200000 in
theorem step_of {m : Nat} (HB : ∀ b S, need S < m → Meth Tryd.prog (RdX b) (fun k => k = b) 59 [ptr b] S (BlP blockM S)) (b : Nat) (S : ES) (hm : need S ≤ m) : Meth Tryd.prog (RdX b) (fun k => k = b) 66 [ptr b] S (StP stepM S) := by
  refine ⟨by kernel_rfl, fun wO R _ => ?_⟩
  have M := rd_begin R
  have kn := Kn.here (F := stepM) (S := S)
  refine sw_fn Tryd.func66 rfl 56 Tryd.ntmps66 rfl fun A F => ?_
  refine sw_seq ?_
  refine sw_reg ?_
  refine sw_alloc F M [.int .i64 0, .string ⟨#[]⟩, .string ⟨#[]⟩, .string ⟨#[]⟩, .int .i64 0, .slice none 0 0, .slice none 0 0, .slice none 0 0] ⟨rfl, rfl, rfl⟩ (by kernel_rfl) rfl fun x1 A w F M => ?_
  refine sw_end ?_
  show Code.wp _ _ _ _ _
  refine sw_seq ?_
  refine sw_seq ?_
  refine sw_reg ?_
  refine sw_move F ⟨rfl, rfl, rfl⟩ rfl rfl fun A F => ?_
  refine sw_nil F ⟨rfl, rfl, rfl⟩ rfl rfl fun A F => ?_
  refine sw_fld F 1 ⟨rfl, rfl, rfl⟩ rfl (by kernel_rfl) rfl rfl fun A F => ?_
  refine sw_fld F 0 ⟨rfl, rfl, rfl⟩ rfl (by kernel_rfl) rfl rfl fun A F => ?_
  refine sw_ext F M.st.now.1 ⟨rfl, rfl, rfl⟩ rfl (by kernel_rfl) rfl fun A F => ?_
  refine sw_eq F ⟨rfl, rfl, rfl⟩ rfl rfl rfl fun A F => ?_
  refine sw_end ?_
  show Code.wp _ _ _ _ _
  refine sw_cond F rfl (fun hc3 => ?_) (fun hc3 => ?_)
  · skip
    obtain ⟨σ, t, rfl, hn⟩ := now_name hc3
    replace kn := kn.succ.at (G' := gift) fun n σ' e => by injection e with e; subst e; simp only [stepM, hn]
    refine sw_seq ?_
    refine sw_reg ?_
    refine sw_move F ⟨rfl, rfl, rfl⟩ rfl rfl fun A F => ?_
    refine sw_call (gift_m b (.ok σ)) F M ⟨rfl, rfl, rfl⟩ rfl rfl ?_
    rintro _ _ S4 A w ⟨y6, rfl, rfl, h5⟩ F M
    refine sw_setAll F M 1 ⟨rfl, rfl, rfl⟩ rfl rfl rfl (by kernel_rfl) rfl rfl fun w M => ?_
    simp only [List.set_cons_zero, List.set_cons_succ] at M
    refine sw_end ?_
    show Code.wp _ _ _ _ _
    refine wp_ret ?_
    repeat (first | refine then_ret ?_ | refine block_ret ?_)
    exact sw_retbox F M 1 Tryd.results66 rfl rfl (by kernel_rfl) (by kernel_rfl) ⟨_, y6.flds, S4, rfl, M.but, M.st, M.mem.val (k := 0) rfl, y6, rfl, rfl, kn.last h5⟩
  · skip
    replace kn := (kn.succ.at (G' := wordM) fun n σ e => now_other hc3 n σ e).succ.to wordM_succ
    refine wp_skip ?_
    show Code.wp _ _ _ _ _
    refine sw_seq ?_
    refine sw_reg ?_
    refine sw_move F ⟨rfl, rfl, rfl⟩ rfl rfl fun A F => ?_
    refine sw_call0 (stepKind_m b S) F M ⟨rfl, rfl, rfl⟩ rfl rfl ?_
    rintro _ _ A w ⟨_, rfl, rfl⟩ F M
    replace kn := kn.step (Rv.of (rel_pick stepW S))
    obtain ⟨kk, hk⟩ : ∃ k, k = pickI stepW S := ⟨_, rfl⟩
    have hkb := stepW_le S
    rw [← hk] at F kn hkb
    refine sw_asg F ⟨rfl, rfl, rfl⟩ rfl rfl fun A F => ?_
    refine sw_end ?_
    show Code.wp _ _ _ _ _
    refine sw_seq ?_
    refine sw_seq ?_
    refine sw_reg ?_
    refine sw_move F ⟨rfl, rfl, rfl⟩ rfl rfl fun A F => ?_
    refine sw_eq F ⟨rfl, rfl, rfl⟩ rfl rfl rfl fun A F => ?_
    refine sw_end ?_
    show Code.wp _ _ _ _ _
    refine sw_cond F rfl (fun hc9 => ?_) (fun hc9 => ?_)
    · skip
      replace kn := kn.ite_pos (by simpa using hc9)
      refine sw_seq ?_
      refine sw_reg ?_
      refine sw_move F ⟨rfl, rfl, rfl⟩ rfl rfl fun A F => ?_
      refine sw_call0 (wrong_m (b := b) (S := S)) F M ⟨rfl, rfl, rfl⟩ rfl rfl ?_
      rintro _ S10 A w ⟨_, h11⟩ F M
      refine sw_end ?_
      show Code.wp _ _ _ _ _
      refine sw_seq ?_
      refine sw_reg ?_
      refine sw_build F _ [.int .i64 0, .string ⟨#[]⟩, .string ⟨#[]⟩, .string ⟨#[]⟩, .int .i64 0, .slice none 0 0, .slice none 0 0, .slice none 0 0] ⟨rfl, rfl, rfl⟩ rfl (by kernel_rfl) rfl fun A F => ?_
      refine sw_setAll F M 0 ⟨rfl, rfl, rfl⟩ rfl rfl rfl (by kernel_rfl) rfl rfl fun w M => ?_
      simp only [List.set_cons_zero, List.set_cons_succ] at M
      refine sw_end ?_
      show Code.wp _ _ _ _ _
      refine wp_ret ?_
      repeat (first | refine then_ret ?_ | refine block_ret ?_)
      exact sw_retbox F M 0 Tryd.results66 rfl rfl (by kernel_rfl) (by kernel_rfl) ⟨_, Sm.flds { k := 0, nm := [], al := [], ca := [], ty := 0, ea := none, ec := 0, es := [], ba := none, bc := 0, bs := [], la := none, lc := 0, ls := [] }, S10, rfl, M.but, M.st, lie_cons (lie_i (n := 0) (by omega)) (lie_cons trivial (lie_cons trivial (lie_cons trivial (lie_cons (lie_i (n := 0) (by omega)) (lie_cons (lies_nil _ _) (lie_cons (lies_nil _ _) (lie_cons (lies_nil _ _) (lie_nil _ _)))))))), { k := 0, nm := [], al := [], ca := [], ty := 0, ea := none, ec := 0, es := [], ba := none, bc := 0, bs := [], la := none, lc := 0, ls := [] }, rfl, rfl, kn.last (wrong_any h11)⟩
    · skip
      have hk0 : ¬ kk = 0 := by simpa using hc9
      replace kn := kn.ite_neg hk0
      refine wp_skip ?_
      show Code.wp _ _ _ _ _
      refine sw_seq ?_
      refine sw_reg ?_
      refine sw_move F ⟨rfl, rfl, rfl⟩ rfl rfl fun A F => ?_
      have hP := M.st
      refine sw_call0 (next_m b S) F M ⟨rfl, rfl, rfl⟩ rfl rfl ?_
      rintro _ S12 A w ⟨_, h13⟩ F M
      replace kn := kn.step h13
      have hd := rv_here h13 (Here.of_pick (l := stepW) (by rw [← hk]; exact hk0))
      refine sw_end ?_
      show Code.wp _ _ _ _ _
      refine sw_seq ?_
      refine sw_seq ?_
      refine sw_reg ?_
      refine sw_move F ⟨rfl, rfl, rfl⟩ rfl rfl fun A F => ?_
      refine sw_end ?_
      show Code.wp _ _ _ _ _
      refine wp_block ?_
      refine sw_seq ?_
      refine sw_seq ?_
      refine sw_reg ?_
      refine sw_eq F ⟨rfl, rfl, rfl⟩ rfl rfl rfl fun A F => ?_
      refine sw_asg F ⟨rfl, rfl, rfl⟩ rfl rfl fun A F => ?_
      refine sw_end ?_
      show Code.wp _ _ _ _ _
      refine sw_cond F rfl (fun hc15 => ?_) (fun hc15 => ?_)
      · skip
        have he : kk = 4 := by simpa using hc15
        subst he
        replace kn := kn.ite_pos rfl
        refine wp_skip ?_
        show Code.wp _ _ _ _ _
        refine sw_true F rfl ?_
        refine sw_seq ?_
        refine sw_reg ?_
        refine sw_move F ⟨rfl, rfl, rfl⟩ rfl rfl fun A F => ?_
        refine sw_move F ⟨rfl, rfl, rfl⟩ rfl rfl fun A F => ?_
        refine sw_call (branch4 (m := need S12) (fun b S h => HB b S (by omega)) b S12 (Nat.le_refl _)) F M ⟨rfl, rfl, rfl⟩ rfl rfl ?_
        rintro _ _ S16 A w ⟨y18, rfl, rfl, h17⟩ F M
        refine sw_setAll F M 1 ⟨rfl, rfl, rfl⟩ rfl rfl rfl (by kernel_rfl) rfl rfl fun w M => ?_
        simp only [List.set_cons_zero, List.set_cons_succ] at M
        refine sw_end ?_
        show Code.wp _ _ _ _ _
        refine wp_ret ?_
        repeat (first | refine then_ret ?_ | refine block_ret ?_)
        exact sw_retbox F M 1 Tryd.results66 rfl rfl (by kernel_rfl) (by kernel_rfl) ⟨_, y18.flds, S16, rfl, M.but, M.st, M.mem.val (k := 0) rfl, y18, rfl, rfl, kn.last h17⟩
      · skip
        replace kn := kn.ite_neg (by simpa using hc15)
        refine sw_reg ?_
        refine sw_eq F ⟨rfl, rfl, rfl⟩ rfl rfl rfl fun A F => ?_
        refine sw_asg F ⟨rfl, rfl, rfl⟩ rfl rfl fun A F => ?_
        refine sw_end ?_
        show Code.wp _ _ _ _ _
        refine sw_cond F rfl (fun hc21 => ?_) (fun hc21 => ?_)
        · skip
          have he : kk = 5 := by simpa using hc21
          subst he
          replace kn := kn.ite_pos rfl
          refine sw_seq ?_
          refine sw_reg ?_
          refine sw_move F ⟨rfl, rfl, rfl⟩ rfl rfl fun A F => ?_
          refine sw_move F ⟨rfl, rfl, rfl⟩ rfl rfl fun A F => ?_
          refine sw_call (branch5 (m := need S12) (fun b S h => HB b S (by omega)) b S12 (Nat.le_refl _)) F M ⟨rfl, rfl, rfl⟩ rfl rfl ?_
          rintro _ _ S22 A w ⟨y24, rfl, rfl, h23⟩ F M
          refine sw_setAll F M 1 ⟨rfl, rfl, rfl⟩ rfl rfl rfl (by kernel_rfl) rfl rfl fun w M => ?_
          simp only [List.set_cons_zero, List.set_cons_succ] at M
          refine sw_end ?_
          show Code.wp _ _ _ _ _
          refine wp_ret ?_
          repeat (first | refine then_ret ?_ | refine block_ret ?_)
          exact sw_retbox F M 1 Tryd.results66 rfl rfl (by kernel_rfl) (by kernel_rfl) ⟨_, y24.flds, S22, rfl, M.but, M.st, M.mem.val (k := 0) rfl, y24, rfl, rfl, kn.last h23⟩
        · skip
          replace kn := kn.ite_neg (by simpa using hc21)
          refine sw_seq ?_
          refine sw_reg ?_
          refine sw_eq F ⟨rfl, rfl, rfl⟩ rfl rfl rfl fun A F => ?_
          refine sw_asg F ⟨rfl, rfl, rfl⟩ rfl rfl fun A F => ?_
          refine sw_end ?_
          show Code.wp _ _ _ _ _
          refine sw_cond F rfl (fun hc27 => ?_) (fun hc27 => ?_)
          · skip
            have he : kk = 1 := by simpa using hc27
            subst he
            replace kn := kn.ite_pos rfl
            refine sw_seq ?_
            refine sw_reg ?_
            refine sw_move F ⟨rfl, rfl, rfl⟩ rfl rfl fun A F => ?_
            refine sw_call (let_m b S12) F M ⟨rfl, rfl, rfl⟩ rfl rfl ?_
            rintro _ _ S28 A w ⟨y30, rfl, rfl, h29⟩ F M
            refine sw_setAll F M 1 ⟨rfl, rfl, rfl⟩ rfl rfl rfl (by kernel_rfl) rfl rfl fun w M => ?_
            simp only [List.set_cons_zero, List.set_cons_succ] at M
            refine sw_end ?_
            show Code.wp _ _ _ _ _
            refine wp_ret ?_
            repeat (first | refine then_ret ?_ | refine block_ret ?_)
            exact sw_retbox F M 1 Tryd.results66 rfl rfl (by kernel_rfl) (by kernel_rfl) ⟨_, y30.flds, S28, rfl, M.but, M.st, M.mem.val (k := 0) rfl, y30, rfl, rfl, kn.last h29⟩
          · skip
            replace kn := kn.ite_neg (by simpa using hc27)
            refine sw_seq ?_
            refine sw_reg ?_
            refine sw_eq F ⟨rfl, rfl, rfl⟩ rfl rfl rfl fun A F => ?_
            refine sw_asg F ⟨rfl, rfl, rfl⟩ rfl rfl fun A F => ?_
            refine sw_end ?_
            show Code.wp _ _ _ _ _
            refine sw_cond F rfl (fun hc33 => ?_) (fun hc33 => ?_)
            · skip
              have he : kk = 10 := by simpa using hc33
              subst he
              replace kn := kn.ite_pos rfl
              refine sw_seq ?_
              refine sw_reg ?_
              refine sw_move F ⟨rfl, rfl, rfl⟩ rfl rfl fun A F => ?_
              refine sw_call (ask_m b S12) F M ⟨rfl, rfl, rfl⟩ rfl rfl ?_
              rintro _ _ S34 A w ⟨y36, rfl, rfl, h35⟩ F M
              refine sw_setAll F M 1 ⟨rfl, rfl, rfl⟩ rfl rfl rfl (by kernel_rfl) rfl rfl fun w M => ?_
              simp only [List.set_cons_zero, List.set_cons_succ] at M
              refine sw_end ?_
              show Code.wp _ _ _ _ _
              refine wp_ret ?_
              repeat (first | refine then_ret ?_ | refine block_ret ?_)
              exact sw_retbox F M 1 Tryd.results66 rfl rfl (by kernel_rfl) (by kernel_rfl) ⟨_, y36.flds, S34, rfl, M.but, M.st, M.mem.val (k := 0) rfl, y36, rfl, rfl, kn.last h35⟩
            · skip
              replace kn := kn.ite_neg (by simpa using hc33)
              refine wp_skip ?_
              show Code.wp _ _ _ _ _
              refine sw_seq ?_
              refine sw_reg ?_
              refine sw_move F ⟨rfl, rfl, rfl⟩ rfl rfl fun A F => ?_
              refine sw_move F ⟨rfl, rfl, rfl⟩ rfl rfl fun A F => ?_
              by_cases h8 : kk = 8
              · skip
                subst h8
                replace kn := kn.ite_pos rfl
                refine sw_call (expr_m b S12) F M ⟨rfl, rfl, rfl⟩ rfl rfl ?_
                rintro _ _ S38 A w ⟨op39, m39, s39, la39, lc39, es39, rfl, rfl, h39⟩ F M
                replace kn := kn.step h39
                refine sw_mkrow (ety := 73) (sz := 4) (z := .agg #[.int .i64 0, .int .i64 0, .string ⟨#[]⟩, .slice none 0 0]) F M _ [exF op39 m39 s39 la39 lc39 es39] ⟨rfl, rfl, rfl⟩ rfl (by kernel_rfl) (by kernel_rfl) rfl (by kernel_rfl) rfl ?_ ?_ rfl fun x41 A w F M => ?_
                · intro g hg
                  simp only [List.mem_cons, List.not_mem_nil, or_false] at hg
                  rcases hg with rfl
                  · exact ⟨rfl, (M.mem.vals 0 rfl).1⟩
                · intro i f b hf hm g hg
                  simp only [List.mem_cons, List.not_mem_nil, or_false] at hg
                  rcases hg with rfl
                  · exact (M.mem.vals 0 rfl).2 i f b hf hm
                refine sw_build F _ [.int .i64 8, .string ⟨#[]⟩, .string ⟨#[]⟩, .string ⟨#[]⟩, .int .i64 0, .slice (some ⟨x41, 0, none⟩) 1 1, .slice none 0 0, .slice none 0 0] ⟨rfl, rfl, rfl⟩ rfl (by kernel_rfl) rfl fun A F => ?_
                refine sw_alloc F M [.int .i64 0, .string ⟨#[]⟩, .string ⟨#[]⟩, .string ⟨#[]⟩, .int .i64 0, .slice none 0 0, .slice none 0 0, .slice none 0 0] ⟨rfl, rfl, rfl⟩ (by kernel_rfl) rfl fun x43 A w F M => ?_
                refine sw_setAll F M 0 ⟨rfl, rfl, rfl⟩ rfl rfl rfl (by kernel_rfl) rfl rfl fun w M => ?_
                simp only [List.set_cons_zero, List.set_cons_succ] at M
                refine sw_end ?_
                show Code.wp _ _ _ _ _
                refine sw_seq ?_
                refine sw_seq ?_
                refine sw_reg ?_
                refine sw_move F ⟨rfl, rfl, rfl⟩ rfl rfl fun A F => ?_
                refine sw_eq F ⟨rfl, rfl, rfl⟩ rfl rfl rfl fun A F => ?_
                refine sw_end ?_
                show Code.wp _ _ _ _ _
                refine sw_true F rfl ?_
                refine sw_seq ?_
                refine sw_reg ?_
                refine sw_move F ⟨rfl, rfl, rfl⟩ rfl rfl fun A F => ?_
                refine sw_call0 (take_m [44] b S38) F M ⟨rfl, rfl, rfl⟩ rfl rfl ?_
                rintro _ S45 A w ⟨_, h46⟩ F M
                replace kn := kn.step h46
                refine sw_end ?_
                show Code.wp _ _ _ _ _
                refine wp_region_late (fun w' => w'.cell? ⟨x43, 5, none⟩ = some (.slice (some ⟨x41, 0, none⟩) 1 1)) 7 (by kernel_rfl) ?_
                show wpAnyM _ _ _ _ _ _ _ _ _ w.drew
                replace M := M.drew
                have hS : w.drew.cell? ⟨x43, 5, none⟩ = some (.slice (some ⟨x41, 0, none⟩) 1 1) := M.cell 0 rfl rfl
                refine sm_fld F 0 5 rfl ⟨rfl, rfl, rfl⟩ rfl (by kernel_rfl) rfl (by kernel_rfl) (by kernel_rfl) (by kernel_rfl) rfl (fun _ _ _ h => h) rfl hS fun A F => ?_
                refine sm_cell F 1 rfl ⟨rfl, rfl, rfl⟩ rfl (by kernel_rfl) (fun _ h => h) (by kernel_rfl) (by kernel_rfl) (by kernel_rfl) (by kernel_rfl) rfl (fun _ _ _ h => h) rfl hS fun A F => ?_
                refine sm_move F 2 rfl ⟨rfl, rfl, rfl⟩ rfl (by kernel_rfl) (by kernel_rfl) (by kernel_rfl) rfl (fun _ _ _ h => h) rfl hS fun A F => ?_
                clear hS
                refine sm_one 3 rfl (by kernel_rfl) rfl ?_
                refine sw_call (expr_m b S45) F M ⟨rfl, rfl, rfl⟩ rfl rfl ?_
                rintro _ _ S47 A w ⟨op48, m48, s48, la48, lc48, es48, rfl, rfl, h48⟩ F M
                replace kn := kn.step h48
                have hS : w.cell? ⟨x43, 5, none⟩ = some (.slice (some ⟨x41, 0, none⟩) 1 1) := M.cell 1 rfl rfl
                refine sw_end ⟨fun _ => hS, ?_⟩
                clear hS
                refine sm_one 4 rfl (by kernel_rfl) rfl ?_
                refine sw_mkrow (ety := 73) (sz := 4) (z := .agg #[.int .i64 0, .int .i64 0, .string ⟨#[]⟩, .slice none 0 0]) F M _ [exF op48 m48 s48 la48 lc48 es48] ⟨rfl, rfl, rfl⟩ rfl (by kernel_rfl) (by kernel_rfl) rfl (by kernel_rfl) rfl ?_ ?_ rfl fun x50 A w F M => ?_
                · intro g hg
                  simp only [List.mem_cons, List.not_mem_nil, or_false] at hg
                  rcases hg with rfl
                  · exact ⟨rfl, (M.mem.vals 0 rfl).1⟩
                · intro i f b hf hm g hg
                  simp only [List.mem_cons, List.not_mem_nil, or_false] at hg
                  rcases hg with rfl
                  · exact (M.mem.vals 0 rfl).2 i f b hf hm
                have hS : w.cell? ⟨x43, 5, none⟩ = some (.slice (some ⟨x41, 0, none⟩) 1 1) := M.cell 2 rfl rfl
                refine sw_end ⟨fun _ => hS, ?_⟩
                clear hS
                refine sm_one 5 rfl (by kernel_rfl) rfl ?_
                refine sw_appRow (z := .agg #[.int .i64 0, .int .i64 0, .string ⟨#[]⟩, .slice none 0 0]) F M 3 0 ⟨rfl, rfl, rfl⟩ rfl rfl rfl (by decide) rfl rfl rfl (by kernel_rfl) (by kernel_rfl) rfl rfl (by (try simp only [List.length_append, List.length_cons, List.length_nil]); omega) rfl fun la52 lc53 A w F M => ?_
                simp only [List.set_cons_zero, List.set_cons_succ] at M
                have hS : w.cell? ⟨x43, 5, none⟩ = some (.slice (some ⟨x41, 0, none⟩) 1 1) := M.cell 2 rfl rfl
                refine sw_end ⟨fun _ => hS, ?_⟩
                refine sm_fld F 6 5 rfl ⟨rfl, rfl, rfl⟩ rfl (by kernel_rfl) rfl (by kernel_rfl) (by kernel_rfl) (by kernel_rfl) rfl (fun _ _ _ h => h) rfl hS fun A F => ?_
                clear hS
                refine sm_one 7 rfl (by kernel_rfl) rfl ?_
                refine sw_set F M 2 ⟨rfl, rfl, rfl⟩ rfl rfl rfl (by kernel_rfl) rfl rfl rfl fun w M => ?_
                simp only [List.set_cons_zero, List.set_cons_succ] at M
                refine sw_end ⟨fun h => absurd h (by decide), ?_⟩
                refine wpAnyM_done (by kernel_rfl) ?_ _
                show Code.wp _ _ _ _ _
                refine sw_seq ?_
                refine sw_reg ?_
                refine sw_move F ⟨rfl, rfl, rfl⟩ rfl rfl fun A F => ?_
                refine sw_call0 (take_m [59] b S47) F M ⟨rfl, rfl, rfl⟩ rfl rfl ?_
                rintro _ S54 A w ⟨_, h55⟩ F M
                replace kn := kn.step h55
                refine sw_end ?_
                show Code.wp _ _ _ _ _
                refine sw_seq ?_
                refine sw_reg ?_
                refine sw_all F M 2 ⟨rfl, rfl, rfl⟩ rfl rfl (by kernel_rfl) (by kernel_rfl) rfl fun A F => ?_
                refine sw_setAll F M 5 ⟨rfl, rfl, rfl⟩ rfl rfl rfl (by kernel_rfl) rfl rfl fun w M => ?_
                simp only [List.set_cons_zero, List.set_cons_succ] at M
                refine sw_end ?_
                show Code.wp _ _ _ _ _
                refine wp_ret ?_
                repeat (first | refine then_ret ?_ | refine block_ret ?_)
                exact sw_retbox F M 5 Tryd.results66 rfl rfl (by kernel_rfl) (by kernel_rfl) ⟨_, Sm.flds { k := 8, nm := [], al := [], ca := [], ty := 0, ea := la52, ec := lc53, es := (([exF op39 m39 s39 la39 lc39 es39] ++ [exF op48 m48 s48 la48 lc48 es48])), ba := none, bc := 0, bs := [], la := none, lc := 0, ls := [] }, S54, rfl, M.but, M.st, lie_cons (lie_i (n := 8) (by omega)) (lie_cons (trivial) (lie_cons (trivial) (lie_cons (trivial) (lie_cons (lie_i (n := 0) (by omega)) (lie_cons (M.mem.rowlie 3 rfl) (lie_cons (lies_nil _ _) (lie_cons (lies_nil _ _) (lie_nil _ _)))))))), { k := 8, nm := [], al := [], ca := [], ty := 0, ea := la52, ec := lc53, es := (([exF op39 m39 s39 la39 lc39 es39] ++ [exF op48 m48 s48 la48 lc48 es48])), ba := none, bc := 0, bs := [], la := none, lc := 0, ls := [] }, rfl, rfl, kn.fin⟩
              · skip
                replace kn := kn.ite_neg h8
                refine sw_call (expr_m b S12) F M ⟨rfl, rfl, rfl⟩ rfl rfl ?_
                rintro _ _ S56 A w ⟨op57, m57, s57, la57, lc57, es57, rfl, rfl, h57⟩ F M
                replace kn := kn.step h57
                refine sw_mkrow (ety := 73) (sz := 4) (z := .agg #[.int .i64 0, .int .i64 0, .string ⟨#[]⟩, .slice none 0 0]) F M _ [exF op57 m57 s57 la57 lc57 es57] ⟨rfl, rfl, rfl⟩ rfl (by kernel_rfl) (by kernel_rfl) rfl (by kernel_rfl) rfl ?_ ?_ rfl fun x59 A w F M => ?_
                · intro g hg
                  simp only [List.mem_cons, List.not_mem_nil, or_false] at hg
                  rcases hg with rfl
                  · exact ⟨rfl, (M.mem.vals 0 rfl).1⟩
                · intro i f b hf hm g hg
                  simp only [List.mem_cons, List.not_mem_nil, or_false] at hg
                  rcases hg with rfl
                  · exact (M.mem.vals 0 rfl).2 i f b hf hm
                refine sw_build F _ [.int .i64 kk, .string ⟨#[]⟩, .string ⟨#[]⟩, .string ⟨#[]⟩, .int .i64 0, .slice (some ⟨x59, 0, none⟩) 1 1, .slice none 0 0, .slice none 0 0] ⟨rfl, rfl, rfl⟩ rfl (by kernel_rfl) rfl fun A F => ?_
                refine sw_alloc F M [.int .i64 0, .string ⟨#[]⟩, .string ⟨#[]⟩, .string ⟨#[]⟩, .int .i64 0, .slice none 0 0, .slice none 0 0, .slice none 0 0] ⟨rfl, rfl, rfl⟩ (by kernel_rfl) rfl fun x61 A w F M => ?_
                refine sw_setAll F M 0 ⟨rfl, rfl, rfl⟩ rfl rfl rfl (by kernel_rfl) rfl rfl fun w M => ?_
                simp only [List.set_cons_zero, List.set_cons_succ] at M
                refine sw_end ?_
                show Code.wp _ _ _ _ _
                refine sw_seq ?_
                refine sw_seq ?_
                refine sw_reg ?_
                refine sw_move F ⟨rfl, rfl, rfl⟩ rfl rfl fun A F => ?_
                refine sw_eq F ⟨rfl, rfl, rfl⟩ rfl rfl rfl fun A F => ?_
                refine sw_end ?_
                show Code.wp _ _ _ _ _
                refine sw_cond F rfl (fun hc => absurd (by simpa using hc) h8) (fun hc => ?_)
                refine wp_skip ?_
                show Code.wp _ _ _ _ _
                refine sw_seq ?_
                refine sw_reg ?_
                refine sw_move F ⟨rfl, rfl, rfl⟩ rfl rfl fun A F => ?_
                refine sw_call0 (take_m [59] b S56) F M ⟨rfl, rfl, rfl⟩ rfl rfl ?_
                rintro _ S63 A w ⟨_, h64⟩ F M
                replace kn := kn.step h64
                refine sw_end ?_
                show Code.wp _ _ _ _ _
                refine sw_seq ?_
                refine sw_reg ?_
                refine sw_all F M 0 ⟨rfl, rfl, rfl⟩ rfl rfl (by kernel_rfl) (by kernel_rfl) rfl fun A F => ?_
                refine sw_setAll F M 3 ⟨rfl, rfl, rfl⟩ rfl rfl rfl (by kernel_rfl) rfl rfl fun w M => ?_
                simp only [List.set_cons_zero, List.set_cons_succ] at M
                refine sw_end ?_
                show Code.wp _ _ _ _ _
                refine wp_ret ?_
                repeat (first | refine then_ret ?_ | refine block_ret ?_)
                exact sw_retbox F M 3 Tryd.results66 rfl rfl (by kernel_rfl) (by kernel_rfl) ⟨_, Sm.flds { k := kk, nm := [], al := [], ca := [], ty := 0, ea := (some ⟨x59, 0, none⟩), ec := 1, es := ([exF op57 m57 s57 la57 lc57 es57]), ba := none, bc := 0, bs := [], la := none, lc := 0, ls := [] }, S63, rfl, M.but, M.st, lie_cons (lie_i (n := kk) (by omega)) (lie_cons (trivial) (lie_cons (trivial) (lie_cons (trivial) (lie_cons (lie_i (n := 0) (by omega)) (lie_cons (M.mem.rowlie 1 rfl) (lie_cons (lies_nil _ _) (lie_cons (lies_nil _ _) (lie_nil _ _)))))))), { k := kk, nm := [], al := [], ca := [], ty := 0, ea := (some ⟨x59, 0, none⟩), ec := 1, es := ([exF op57 m57 s57 la57 lc57 es57]), ba := none, bc := 0, bs := [], la := none, lc := 0, ls := [] }, rfl, rfl, kn.fin⟩
theorem rec_all : ∀ m b S, need S ≤ m → Meth Tryd.prog (RdX b) (fun k => k = b) 66 [ptr b] S (StP stepM S) ∧ Meth Tryd.prog (RdX b) (fun k => k = b) 59 [ptr b] S (BlP blockM S) := by
  intro m
  induction m using Nat.strongRecOn with
  | _ m ih => exact fun b S hm => ⟨step_of (fun b S h => (ih (need S) h b S (Nat.le_refl _)).2) b S hm, block_of (fun b S h => (ih (need S) h b S (Nat.le_refl _)).1) b S hm⟩
theorem block_m (b : Nat) (S : ES) : Meth Tryd.prog (RdX b) (fun k => k = b) 59 [ptr b] S (BlP blockM S) := (rec_all _ b S (Nat.le_refl _)).2
end Go.Proofs.YtgpjlocgkdlnlaaDoor
