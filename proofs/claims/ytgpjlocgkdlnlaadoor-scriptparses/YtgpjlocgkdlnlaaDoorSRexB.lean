/- The answer's Parser: arguments. -/
import Derived.Test.YtgpjlocgkdlnlaaDoorSRexA
namespace Go.Proofs.YtgpjlocgkdlnlaaDoor
open Go.RowKit
set_option linter.unusedVariables false
set_option linter.unusedSimpArgs false

def listM (n : Nat) (e : Bool) (l : List EV) : PM (List EV) := if e = true then pur l else bnd (exprT n 1) fun x => moreT n (l ++ [x])
theorem comma_list {S S' : ES} {y : List EV} (h : Rv (fun n => listM n (stands [41] S) []) S y S') : Rv commaT S y S' := by
  have p := (Rv.of (rel_is [41] S)).bind (G := fun n c => listM n c []) h
  exact Rv.succ (p.to fun n => by rw [commaT]; rfl)
theorem open_less {s : Key} {S S1 : ES} {σ : St} (h : Rv (fun _ => openT s) S () S1) (e : S1 = .ok σ) : need (.ok σ) < need S := by
  obtain ⟨n, h⟩ := h
  have h := h n (Nat.le_refl _)
  subst e
  cases S with
  | error er => cases (show Except.ok σ = Except.error er from h)
  | ok τ =>
    rcases Takes.open s τ () _ h with ⟨er, q⟩ | q
    · cases q
    · exact q
theorem list_step {S S1 S' : ES} {x : EV} {l y : List EV} (h : Rv (fun n => exprT n ((1 : Nat) : Int)) S x S1) (g : Rv (fun n => moreT n (l ++ [x])) S1 y S') : Rv (fun n => listM n false l) S y S' :=
  h.bind (G := fun n x => moreT n (l ++ [x])) g
theorem args_end {S S1 S2 S3 : ES} {l : List EV} (h1 : Rv (fun _ => openT [40]) S () S1) (h2 : Rv commaT S1 l S2) (h3 : Rv (fun _ => shutT [41]) S2 () S3) : Rv argsT S l S3 := by
  have p := h1.bind (G := fun n _ => bnd (commaT n) fun l => bnd (shutT [41]) fun _ => pur l) (h2.bind (G := fun n l => bnd (shutT [41]) fun _ => pur l) (h3.bind (G := fun n _ => pur l) (Rv.pur l S3)))
  exact Rv.succ (p.to fun n => by rw [argsT])
/-- Is that the last one? -/
theorem last_all {l : List EV} {k : Nat} {S S1 : ES} {e : Bool} (h : Rv (fun _ => lastT k) S e S1) (hk : l.length = k) : (∀ y S', Rv (fun n => listM n e l) S1 y S' → Rv (fun n => moreT n l) S y S') ∧ lf S1 ≤ lf S ∧ (e = false → lf S1 = 0 ∨ lf S1 < lf S) ∧ ((∃ σ, S1 = .ok σ) → e = false → l.length ≤ 7) := by
  obtain ⟨n0, h⟩ := h
  have h := h n0 (Nat.le_refl _)
  cases S with
  | error er =>
    have h : S1 = .error er := h
    subst h
    refine ⟨fun y S' q => ?_, Nat.le_refl _, fun _ => .inl rfl, fun ⟨σ, q⟩ => by cases q⟩
    obtain ⟨n, q⟩ := q
    have q : S' = .error er := q n (Nat.le_refl _)
    subst q
    exact Rv.fault _ er y
  | ok σ =>
    obtain ⟨c, Sa, h1, h2⟩ := Rel.unbind h
    obtain ⟨e1, e2⟩ := h1.get_ok (y := decide (σ.now = .fixed [44])) (τ := σ) rfl
    subst e2
    have more : ∀ y S', Rv (fun n => if c then bnd (roomT l.length 8) fun _ => bnd (takeT [44]) fun _ => bnd (exprT n 1) fun x => moreT n (l ++ [x]) else pur l) (.ok σ) y S' → Rv (fun n => moreT n l) (.ok σ) y S' := fun y S' q => by
      have p := (Rv.of (rel_is [44] (.ok σ))).bind (G := fun n c => if c then bnd (roomT l.length 8) fun _ => bnd (takeT [44]) fun _ => bnd (exprT n 1) fun x => moreT n (l ++ [x]) else pur l) (q.to fun n => by rw [e1]; rfl)
      exact Rv.succ (p.to fun n => by rw [moreT])
    cases c with
    | false =>
      have h2 : Rel (pur true) (.ok σ) e S1 := h2
      obtain ⟨rfl, rfl⟩ := h2.get_ok rfl
      refine ⟨fun y S' q => more y S' (q.to fun n => rfl), Nat.le_refl _, ?_, ?_⟩
      · intro q; cases q
      · intro _ q; cases q
    | true =>
      have hn : σ.now = .fixed [44] := of_decide_eq_true e1.symm
      have h2 : Rel (bnd (roomT k 8) fun _ => bnd nextT fun _ => pur false) (.ok σ) e S1 := h2
      by_cases hr : (8 : Int) ≤ k
      · have hroom : ∀ x : Int, x = k → roomT x 8 = failT 3 := fun x q => if_pos (by omega)
        have : S1 = .error 3 := h2.get_err (by rw [hroom _ rfl]; rfl)
        subst this
        refine ⟨fun y S' q => more y S' ?_, Nat.zero_le _, fun _ => .inl rfl, fun ⟨σ, q⟩ => by cases q⟩
        obtain ⟨n, q⟩ := q
        have q : S' = .error 3 := q n (Nat.le_refl _)
        subst q
        exact ⟨0, fun n _ => Rel.of_err (by simp [hroom (l.length : Int) (by omega), bnd, failT])⟩
      · have hroom : ∀ x : Int, x = k → roomT x 8 = pur () := fun x q => if_neg (by omega)
        rw [hroom _ rfl] at h2
        obtain ⟨⟨⟩, Sb, h3, h4⟩ := Rel.unbind (show Rel (bnd nextT fun _ => pur false) (.ok σ) e S1 from h2)
        have hd := need_here h3 ⟨by rw [hn]; simp, by rw [hn]; simp⟩
        have htk : Rv (fun _ => takeT [44]) (.ok σ) () Sb := Rv.of (Rel.at (F := nextT) h3 fun ρ q => by injection q with q; subst q; exact (if_pos hn).symm)
        have fin : ∀ y S', Rv (fun n => bnd (exprT n 1) fun x => moreT n (l ++ [x])) Sb y S' → Rv (fun n => moreT n l) (.ok σ) y S' := fun y S' q => more y S' ((htk.bind (G := fun n _ => bnd (exprT n 1) fun x => moreT n (l ++ [x])) q).to fun n => by rw [if_pos rfl, hroom _ (by omega)]; rfl)
        cases Sb with
        | error er =>
          have h4 : S1 = .error er := h4
          subst h4
          refine ⟨fun y S' q => fin y S' ?_, Nat.zero_le _, fun _ => .inl rfl, fun ⟨σ, q⟩ => by cases q⟩
          obtain ⟨n, q⟩ := q
          have q : S' = .error er := q n (Nat.le_refl _)
          subst q
          exact Rv.fault _ er y
        | ok τ =>
          obtain ⟨rfl, rfl⟩ := h4.get_ok rfl
          have z1 : lf (.ok τ) = need (.ok τ) + 1 := rfl
          have z2 : lf (.ok σ) = need (.ok σ) + 1 := rfl
          exact ⟨fun y S' q => fin y S' (q.to fun n => rfl), by omega, fun _ => .inr (by omega), fun _ _ => by omega⟩
set_option maxRecDepth 8000 in
set_option maxHeartbeats 3200000 in
theorem rargs_of {m : Nat} (text : Key) (c : C4) (b : Nat) (IH : ∀ (S : ES) (r : Nat), need S < m → 1 ≤ r → r ≤ 7 → Meth Tryd.prog (PdX text c b) (fun k => k = b) 61 [ptr b, .int .i64 r] S (ExQ (fun n => exprT n r) S)) (S : ES) (hm : need S ≤ m) : Meth Tryd.prog (PdX text c b) (fun k => k = b) 70 [ptr b] S fun v fs S' => ∃ la lc es, fs = [.l la lc es] ∧ v = .slice la es.length lc ∧ Fours es ∧ Rv argsT S (pvRows es) S' := by
  refine ⟨by kernel_rfl, fun wO R _ => ?_⟩
  have M := pd_begin R
  refine sw_fn Tryd.func70 rfl 32 Tryd.ntmps70 rfl fun A F => ?_
  refine sw_seq ?_
  refine sw_reg ?_
  refine sw_asg F ⟨rfl, rfl, rfl⟩ rfl rfl fun A F => ?_
  refine sw_end ?_
  show Code.wp _ _ _ _ _
  refine sw_seq ?_
  refine sw_reg ?_
  refine sw_asg F ⟨rfl, rfl, rfl⟩ rfl rfl fun A F => ?_
  refine sw_end ?_
  show Code.wp _ _ _ _ _
  refine sw_seq ?_
  refine sw_reg ?_
  refine sw_move F ⟨rfl, rfl, rfl⟩ rfl rfl fun A F => ?_
  refine sw_call0 (ropen_m [40] text c b S) F M ⟨rfl, rfl, rfl⟩ rfl rfl ?_
  rintro _ S1 A w ⟨_, h2⟩ F M
  refine sw_end ?_
  show Code.wp _ _ _ _ _
  refine sw_seq ?_
  refine sw_reg ?_
  refine sw_move F ⟨rfl, rfl, rfl⟩ rfl rfl fun A F => ?_
  refine sw_call0 (ris_m [41] text c b S1) F M ⟨rfl, rfl, rfl⟩ rfl rfl ?_
  rintro _ _ A w ⟨_, rfl, rfl⟩ F M
  refine sw_asg F ⟨rfl, rfl, rfl⟩ rfl rfl fun A F => ?_
  refine sw_end ?_
  show Code.wp _ _ _ _ _
  refine sw_seq ?_
  refine wp_block ?_
  replace M := M.nilrow 73 4
  have hsh := h2.shr (fun _ => Shr.open _)
  refine wp_loop (fun A w => ∃ (S2 : ES) (l : List (List Fld)) (la : Option Addr) (lc : Nat) (e : Bool), Fm 32 [(4, .bool e), (3, .slice la l.length lc), (0, ptr b)] A ∧ Mm (PdX text c b) (fun k => k = b) wO [.row (.slice la l.length lc) 73 4 l] S2 w ∧ (∀ y S', Rv (fun n => listM n e (pvRows l)) S2 y S' → Rv commaT S1 y S') ∧ (∀ σ, S2 = .ok σ → need (.ok σ) < m) ∧ ((∃ σ, S2 = .ok σ) → e = false → l.length ≤ 7) ∧ l.length ≤ 8) (fun A w => 2 * pl text w b + (match A.eval (.tmp 4) with | .bool true => 0 | _ => 1)) ?_ ?_
  · exact ⟨_, [], none, 0, _, F.keep [4, 3, 0] rfl, M, fun y S' q => comma_list q, fun σ q => by have := open_less h2 q; omega, fun _ _ => by simp, by simp⟩
  rintro A w ⟨S2, l, la, lc, e, F, M, hk, hlt, hl8, hln⟩
  have hpl := M.st.pl
  have hA4 : A.eval (.tmp 4) = .bool e := F.2.2 4 _ rfl
  refine sw_seq ?_
  refine sw_seq ?_
  refine sw_reg ?_
  refine sw_move F ⟨rfl, rfl, rfl⟩ rfl rfl fun A F => ?_
  refine sw_not F ⟨rfl, rfl, rfl⟩ rfl rfl fun A F => ?_
  refine sw_move F ⟨rfl, rfl, rfl⟩ rfl rfl fun A F => ?_
  cases c3 : (!e) with
  | true =>
    rw [c3] at F
    have he : e = false := by simpa using c3
    subst he
    refine sw_on F 2 rfl rfl rfl rfl rfl ?_
    refine sw_move F ⟨rfl, rfl, rfl⟩ rfl rfl fun A F => ?_
    refine sw_on F 2 rfl rfl rfl rfl rfl ?_
    refine sw_nil F ⟨rfl, rfl, rfl⟩ rfl rfl fun A F => ?_
    refine sw_on F 2 rfl rfl rfl rfl rfl ?_
    refine sw_fld F 6 ⟨rfl, rfl, rfl⟩ rfl (by kernel_rfl) rfl rfl fun A F => ?_
    refine sw_on F 2 rfl rfl rfl rfl rfl ?_
    obtain ⟨atz4, kdz4, txz4, nz4, lvz4, erz4, kbz4, hrz4⟩ := M.st.cells
    refine sw_ext F ((kbz4.cell 6).trans rfl) ⟨rfl, rfl, rfl⟩ rfl (by kernel_rfl) rfl fun A F => ?_
    refine sw_on F 2 rfl rfl rfl rfl rfl ?_
    refine sw_eql F ⟨rfl, rfl, rfl⟩ rfl rfl rfl fun A F => ?_
    refine sw_pickT F ⟨rfl, rfl, rfl⟩ rfl rfl rfl fun A F => ?_
    refine sw_end ?_
    show Code.wp _ _ _ _ _
    refine sw_cond F rfl (fun hc5 => ?_) (fun hc5 => ?_)
    · skip
      have hok := prel_yes hrz4 hc5
      refine wp_skip ?_
      show Code.wp _ _ _ _ _
      refine wp_block ?_
      refine sw_seq ?_
      refine sw_reg ?_
      refine sw_move F ⟨rfl, rfl, rfl⟩ rfl rfl fun A F => ?_
      refine sw_call (IH S2 1 (by obtain ⟨σ, rfl⟩ := hok; exact hlt σ rfl) (by omega) (by omega)) F M ⟨rfl, rfl, rfl⟩ rfl rfl ?_
      rintro _ _ S6 A w ⟨op7, m7, s7, la7, lc7, es7, rfl, rfl, h7⟩ F M
      refine sw_alloc F M [.int .i64 0, .int .i64 0, .string ⟨#[]⟩, .slice none 0 0] ⟨rfl, rfl, rfl⟩ (by kernel_rfl) rfl fun x9 A w F M => ?_
      refine sw_setAll F M 0 ⟨rfl, rfl, rfl⟩ rfl rfl rfl (by kernel_rfl) rfl rfl fun w M => ?_
      simp only [List.set_cons_zero, List.set_cons_succ] at M
      refine sw_end ?_
      show Code.wp _ _ _ _ _
      refine sw_seq ?_
      refine sw_reg ?_
      refine sw_move F ⟨rfl, rfl, rfl⟩ rfl rfl fun A F => ?_
      refine sw_all F M 0 ⟨rfl, rfl, rfl⟩ rfl rfl (by kernel_rfl) (by kernel_rfl) rfl fun A F => ?_
      refine sw_app1 (z := .agg #[.int .i64 0, .int .i64 0, .string ⟨#[]⟩, .slice none 0 0]) F M 2 1 ⟨rfl, rfl, rfl⟩ ⟨rfl, rfl, rfl⟩ rfl rfl (fun _ => rfl) rfl rfl (by kernel_rfl) (by kernel_rfl) rfl rfl (by kernel_rfl) rfl (by omega) rfl fun la10 lc11 _ A w F M => ?_
      simp only [List.set_cons_zero, List.set_cons_succ] at M
      refine sw_asg F ⟨rfl, rfl, rfl⟩ rfl rfl fun A F => ?_
      refine sw_end ?_
      show Code.wp _ _ _ _ _
      refine sw_reg ?_
      refine sw_move F ⟨rfl, rfl, rfl⟩ rfl rfl fun A F => ?_
      refine sw_move F ⟨rfl, rfl, rfl⟩ rfl rfl fun A F => ?_
      refine sw_len F ⟨rfl, rfl, rfl⟩ rfl Tryd.underlying68 rfl fun A F => ?_
      refine sw_call0 (rlast_m (l ++ [exF op7 m7 s7 la7 lc7 es7]).length (by rw [List.length_append, List.length_singleton]; have := hl8 hok rfl; omega) text c b S6) F M ⟨rfl, rfl, rfl⟩ rfl rfl ?_
      rintro _ S12 A w ⟨_, e14, rfl, h13⟩ F M
      refine sw_asg F ⟨rfl, rfl, rfl⟩ rfl rfl fun A F => ?_
      refine sw_end ?_
      show _ ∧ _
      have M2 := M
      replace M2 := M2.drop 1 rfl
      replace M2 := M2.drop 0 rfl
      have hpl2 := M2.st.pl
      have hxs := h7.shr (fun n => expr_shr1 n _)
      obtain ⟨q1, q2, q3, q4⟩ := last_all (l := pvRows (l ++ [exF op7 m7 s7 la7 lc7 es7])) h13 (by rw [pvRows_len])
      have hlf := lf_le S6
      have hS2 : lf S2 = need S2 + 1 := by obtain ⟨σ, rfl⟩ := hok; rfl
      have hltS : need S2 < m := by obtain ⟨σ, rfl⟩ := hok; exact hlt σ rfl
      have hlen : (l ++ [exF op7 m7 s7 la7 lc7 es7]).length = l.length + 1 := by rw [List.length_append, List.length_singleton]
      have F2 : Fm 32 [(4, .bool e14), (3, .slice la10 (l ++ [exF op7 m7 s7 la7 lc7 es7]).length lc11), (0, ptr b)] _ := F.keep [4, 3, 0] rfl
      refine ⟨⟨S12, _, _, _, e14, F2, M2, fun y S' q => hk y S' (list_step h7 (by have z := q1 y S' q; rw [pvRows_app] at z; exact z)), fun σ q => ?_, fun q z => ?_, ?_⟩, ?_⟩
      · have z := q2; rw [q] at z; have : lf (.ok σ) = need (.ok σ) + 1 := rfl; omega
      · have := q4 q z; rw [pvRows_len] at this; omega
      · have := hl8 hok rfl; omega
      · rw [F2.2.2 4 _ rfl, hA4, hpl, hpl2]
        cases e14 with
        | true => show _ + 0 < _ + 1; omega
        | false => show _ + 1 < _ + 1; have := q3 rfl; omega
    · skip
      have hno := prel_no hrz4 hc5
      refine wp_exit ?_
      repeat (first | refine then_exit ?_ | refine exit_block ?_ | refine exit_pass rfl ?_)
      have hcm : Rv commaT S1 (pvRows l) S2 := hk _ _ (by obtain ⟨er, rfl⟩ := hno; exact Rv.fault _ er _)
      show Code.wp _ _ _ _ _
      refine sw_seq ?_
      refine sw_reg ?_
      refine sw_move F ⟨rfl, rfl, rfl⟩ rfl rfl fun A F => ?_
      refine sw_call0 (rshut_m [41] text c b S2) F M ⟨rfl, rfl, rfl⟩ rfl rfl ?_
      rintro _ S15 A w ⟨_, h16⟩ F M
      refine sw_end ?_
      show Code.wp _ _ _ _ _
      refine sw_seq ?_
      refine sw_reg ?_
      refine sw_move F ⟨rfl, rfl, rfl⟩ rfl rfl fun A F => ?_
      refine sw_asg F ⟨rfl, rfl, rfl⟩ rfl rfl fun A F => ?_
      refine sw_end ?_
      show Code.wp _ _ _ _ _
      refine wp_ret ?_
      repeat (first | refine then_ret ?_ | refine block_ret ?_)
      exact sw_rettmp F Tryd.results70 rfl ⟨_, [.l la lc l], S15, rfl, M.but, M.st, lie_cons (M.mem.rowlie 0 rfl) (lie_nil _ _), la, lc, l, rfl, rfl, ⟨(RowG.len (M.mem.at_ 0 _ rfl)), by omega⟩, args_end h2 hcm h16⟩
  | false =>
    rw [c3] at F
    have he : e = true := by simpa using c3
    subst he
    refine sw_off F 2 rfl rfl rfl rfl rfl rfl rfl fun A F => ?_
    refine sw_off F 2 rfl rfl rfl rfl rfl rfl rfl fun A F => ?_
    refine sw_off F 2 rfl rfl rfl rfl rfl rfl rfl fun A F => ?_
    refine sw_off F 2 rfl rfl rfl rfl rfl rfl rfl fun A F => ?_
    refine sw_off F 2 rfl rfl rfl rfl rfl rfl rfl fun A F => ?_
    refine sw_pickF F ⟨rfl, rfl, rfl⟩ rfl rfl rfl fun A F => ?_
    refine sw_end ?_
    show Code.wp _ _ _ _ _
    refine sw_false F rfl ?_
    refine wp_exit ?_
    repeat (first | refine then_exit ?_ | refine exit_block ?_ | refine exit_pass rfl ?_)
    have hcm : Rv commaT S1 (pvRows l) S2 := hk _ _ (Rv.pur _ _)
    show Code.wp _ _ _ _ _
    refine sw_seq ?_
    refine sw_reg ?_
    refine sw_move F ⟨rfl, rfl, rfl⟩ rfl rfl fun A F => ?_
    refine sw_call0 (rshut_m [41] text c b S2) F M ⟨rfl, rfl, rfl⟩ rfl rfl ?_
    rintro _ S17 A w ⟨_, h18⟩ F M
    refine sw_end ?_
    show Code.wp _ _ _ _ _
    refine sw_seq ?_
    refine sw_reg ?_
    refine sw_move F ⟨rfl, rfl, rfl⟩ rfl rfl fun A F => ?_
    refine sw_asg F ⟨rfl, rfl, rfl⟩ rfl rfl fun A F => ?_
    refine sw_end ?_
    show Code.wp _ _ _ _ _
    refine wp_ret ?_
    repeat (first | refine then_ret ?_ | refine block_ret ?_)
    exact sw_rettmp F Tryd.results70 rfl ⟨_, [.l la lc l], S17, rfl, M.but, M.st, lie_cons (M.mem.rowlie 0 rfl) (lie_nil _ _), la, lc, l, rfl, rfl, ⟨(RowG.len (M.mem.at_ 0 _ rfl)), by omega⟩, args_end h2 hcm h18⟩
end Go.Proofs.YtgpjlocgkdlnlaaDoor
