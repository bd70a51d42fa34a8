import Derived.Test.YthhpkjmhcolgfaaGreatDoorM17
namespace Go.Proofs.YthhpkjmhcolgfaaGreatDoor
open Go.RowKit
set_option linter.unusedVariables false
set_option linter.unusedSimpArgs false
set_option maxRecDepth 20000
set_option maxHeartbeats 8000000
def listM (n : Nat) (e : Bool) (l : List EV) : PM (List EV) := if e = true then pur l else bnd (exprT n 1) fun x => moreT n (l ++ [x])
theorem comma_list {S S' : ES} {y : List EV} (h : Rv (fun n => listM n (stands [41] S) []) S y S') : Rv commaT S y S' := by
 have p := (Rv.of (rel_is [41] S)).bind (G := fun n c => listM n c []) h;exact Rv.succ (p.to fun n => by rw [commaT]; rfl)
theorem open_less {s : Key} {S S1 : ES} {σ : St} (h : Rv (fun _ => openT s) S () S1) (e : S1 = .ok σ) : need (.ok σ) < need S := by
 obtain ⟨n, h⟩ := h;have h := h n (Nat.le_refl _);subst e
 cases S with
 | error er => cases (show Except.ok σ = Except.error er from h)
 | ok τ =>
  rcases Takes.open s τ () _ h with ⟨er, q⟩ | q
  ·cases q
  ·exact q
theorem list_step {S S1 S' : ES} {x : EV} {l y : List EV} (h : Rv (fun n => exprT n ((1 : Nat) : Int)) S x S1) (g : Rv (fun n => moreT n (l ++ [x])) S1 y S') : Rv (fun n => listM n false l) S y S' :=
 h.bind (G := fun n x => moreT n (l ++ [x])) g
theorem args_end {S S1 S2 S3 : ES} {l : List EV} (h1 : Rv (fun _ => openT [40]) S () S1) (h2 : Rv commaT S1 l S2) (h3 : Rv (fun _ => shutT [41]) S2 () S3) : Rv argsT S l S3 := by
 have p := h1.bind (G := fun n _ => bnd (commaT n) fun l => bnd (shutT [41]) fun _ => pur l) (h2.bind (G := fun n l => bnd (shutT [41]) fun _ => pur l) (h3.bind (G := fun n _ => pur l) (Rv.pur l S3)));exact Rv.succ (p.to fun n => by rw [argsT])
theorem last_all {l : List EV} {k : Nat} {S S1 : ES} {e : Bool} (h : Rv (fun _ => lastT k) S e S1) (hk : l.length = k) : (∀ y S', Rv (fun n => listM n e l) S1 y S' → Rv (fun n => moreT n l) S y S') ∧ lf S1 ≤ lf S ∧ (e = false → lf S1 = 0 ∨ lf S1 < lf S) ∧ ((∃ σ, S1 = .ok σ) → e = false → l.length ≤ 7) := by
 obtain ⟨n0, h⟩ := h;have h := h n0 (Nat.le_refl _)
 cases S with
 | error er =>
  have h : S1 = .error er := h;subst h;refine ⟨fun y S' q => ?_, Nat.le_refl _, fun _ => .inl rfl, fun ⟨σ, q⟩ => by cases q⟩;obtain ⟨n, q⟩ := q;have q : S' = .error er := q n (Nat.le_refl _);subst q;exact Rv.fault _ er y
 | ok σ =>
  obtain ⟨c, Sa, h1, h2⟩ := Rel.unbind h;obtain ⟨e1, e2⟩ := h1.get_ok (y := decide (σ.now = .fixed [44])) (τ := σ) rfl;subst e2
  have more : ∀ y S', Rv (fun n => if c then bnd (roomT l.length 8) fun _ => bnd (takeT [44]) fun _ => bnd (exprT n 1) fun x => moreT n (l ++ [x]) else pur l) (.ok σ) y S' → Rv (fun n => moreT n l) (.ok σ) y S' := fun y S' q => by
   have p := (Rv.of (rel_is [44] (.ok σ))).bind (G := fun n c => if c then bnd (roomT l.length 8) fun _ => bnd (takeT [44]) fun _ => bnd (exprT n 1) fun x => moreT n (l ++ [x]) else pur l) (q.to fun n => by rw [e1]; rfl);exact Rv.succ (p.to fun n => by rw [moreT])
  cases c with
  | false =>
   have h2 : Rel (pur true) (.ok σ) e S1 := h2;obtain ⟨rfl, rfl⟩ := h2.get_ok rfl;refine ⟨fun y S' q => more y S' (q.to fun n => rfl), Nat.le_refl _, ?_, ?_⟩
   ·intro q; cases q
   ·intro _ q; cases q
  | true =>
   have hn : σ.now = .fixed [44] := of_decide_eq_true e1.symm;have h2 : Rel (bnd (roomT k 8) fun _ => bnd nextT fun _ => pur false) (.ok σ) e S1 := h2
   by_cases hr : (8 : Int) ≤ k
   ·have hroom : ∀ x : Int, x = k → roomT x 8 = failT 3 := fun x q => if_pos (by omega);have : S1 = .error 3 := h2.get_err (by rw [hroom _ rfl]; rfl);subst this;refine ⟨fun y S' q => more y S' ?_, Nat.zero_le _, fun _ => .inl rfl, fun ⟨σ, q⟩ => by cases q⟩;obtain ⟨n, q⟩ := q;have q : S' = .error 3 := q n (Nat.le_refl _);subst q;exact ⟨0, fun n _ => Rel.of_err (by simp [hroom (l.length : Int) (by omega), bnd, failT])⟩
   ·have hroom : ∀ x : Int, x = k → roomT x 8 = pur () := fun x q => if_neg (by omega);rw [hroom _ rfl] at h2;obtain ⟨⟨⟩, Sb, h3, h4⟩ := Rel.unbind (show Rel (bnd nextT fun _ => pur false) (.ok σ) e S1 from h2);have hd := need_here h3 ⟨by rw [hn]; simp, by rw [hn]; simp⟩;have htk : Rv (fun _ => takeT [44]) (.ok σ) () Sb := Rv.of (Rel.at (F := nextT) h3 fun ρ q => by injection q with q; subst q; exact (if_pos hn).symm);have fin : ∀ y S', Rv (fun n => bnd (exprT n 1) fun x => moreT n (l ++ [x])) Sb y S' → Rv (fun n => moreT n l) (.ok σ) y S' := fun y S' q => more y S' ((htk.bind (G := fun n _ => bnd (exprT n 1) fun x => moreT n (l ++ [x])) q).to fun n => by rw [if_pos rfl, hroom _ (by omega)]; rfl)
    cases Sb with
    | error er =>
     have h4 : S1 = .error er := h4;subst h4;refine ⟨fun y S' q => fin y S' ?_, Nat.zero_le _, fun _ => .inl rfl, fun ⟨σ, q⟩ => by cases q⟩;obtain ⟨n, q⟩ := q;have q : S' = .error er := q n (Nat.le_refl _);subst q;exact Rv.fault _ er y
    | ok τ =>
     obtain ⟨rfl, rfl⟩ := h4.get_ok rfl;have z1 : lf (.ok τ) = need (.ok τ) + 1 := rfl;have z2 : lf (.ok σ) = need (.ok σ) + 1 := rfl;exact ⟨fun y S' q => fin y S' (q.to fun n => rfl), by omega, fun _ => .inr (by omega), fun _ _ => by omega⟩
theorem rargs_of {m : Nat} (text : Key) (c : C4) (b : Nat) (IH : ∀ (S : ES) (r : Nat), need S < m → 1 ≤ r → r ≤ 7 → Meth Tryz.prog (PdX text c b) (fun k => k = b) 112 [ptr b, .int .i64 r] S (ExQ (fun n => exprT n r) S)) (S : ES) (hm : need S ≤ m) : Meth Tryz.prog (PdX text c b) (fun k => k = b) 146 [ptr b] S fun v fs S' => ∃ la lc es, fs = [.l la lc es] ∧ v = .slice la es.length lc ∧ Fours es ∧ Rv argsT S (pvRows es) S' := by
 refine ⟨by kernel_rfl, fun wO R _ => ?_⟩;have M := pd_begin R;refine sw_fn Tryz.func146 rfl 32 Tryz.ntmps146 rfl fun A F => ?_;refine sq (rg ?_);refine as1 F fun A F=>?_;refine en (sq (rg ?_));refine as1 F fun A F=>?_;refine en (sq (rg ?_));refine mv F fun A F=>?_;refine sw_call0 (ropen_m [40] text c b S) F M ⟨rfl, rfl, rfl⟩ rfl rfl ?_;rintro _ S1 A w ⟨_, h2⟩ F M;refine en (sq (rg ?_));refine mv F fun A F=>?_;refine sw_call0 (ris_m [41] text c b S1) F M ⟨rfl, rfl, rfl⟩ rfl rfl ?_;rintro _ _ A w ⟨_, rfl, rfl⟩ F M;refine as1 F fun A F=>?_;refine en (sq ?_);refine wp_block ?_;replace M := M.nilrow 118 4;have hsh := h2.shr (fun _ => Shr.open _)
 refine wp_loop (fun A w => ∃ (S2 : ES) (l : List (List Fld)) (la : Option Addr) (lc : Nat) (e : Bool), Fm 32 [(4, .bool e), (3, .slice la l.length lc), (0, ptr b)] A ∧ Mm (PdX text c b) (fun k => k = b) wO [.row (.slice la l.length lc) 118 4 l] S2 w ∧ (∀ y S', Rv (fun n => listM n e (pvRows l)) S2 y S' → Rv commaT S1 y S') ∧ (∀ σ, S2 = .ok σ → need (.ok σ) < m) ∧ ((∃ σ, S2 = .ok σ) → e = false → l.length ≤ 7) ∧ l.length ≤ 8) (fun A w => 2 * pl text w b + (match A.eval (.tmp 4) with | .bool true => 0 | _ => 1)) ?_ ?_
 ·exact ⟨_, [], none, 0, _, F.keep [4, 3, 0] rfl, M, fun y S' q => comma_list q, fun σ q => by have := open_less h2 q; omega, fun _ _ => by simp, by simp⟩
 rintro A w ⟨S2, l, la, lc, e, F, M, hk, hlt, hl8, hln⟩;have hpl := M.st.pl;have hA4 : A.eval (.tmp 4) = .bool e := F.2.2 4 _ rfl;refine sq (sq (rg ?_));refine mv F fun A F=>?_;refine sw_not F ⟨rfl, rfl, rfl⟩ rfl rfl fun A F => ?_;refine mv F fun A F=>?_
 cases c3 : (!e) with
 | true =>
  rw [c3] at F;have he : e = false := by simpa using c3
  subst he;refine on' F 2 ?_;refine mv F fun A F=>?_;refine on' F 2 ?_;refine ni F fun A F=>?_;refine on' F 2 ?_;refine fl F 6 fun A F=>?_;refine on' F 2 ?_;obtain ⟨atz4, kdz4, txz4, nz4, lvz4, erz4, kbz4, hrz4⟩ := M.st.cells;refine sw_ext F ((kbz4.cell 6).trans rfl) ⟨rfl, rfl, rfl⟩ rfl (by kernel_rfl) rfl fun A F => ?_;refine on' F 2 ?_;refine eqi F fun A F=>?_;refine pkT F fun A F=>?_;refine en (cd F (fun hc5=>?_) fun hc5=>?_)
  ·have hok := prel_yes hrz4 hc5;refine wp_skip (wp_block ?_);refine sq (rg ?_);refine mv F fun A F=>?_;refine sw_call (IH S2 1 (by obtain ⟨σ, rfl⟩ := hok; exact hlt σ rfl) (by omega) (by omega)) F M ⟨rfl, rfl, rfl⟩ rfl rfl ?_;rintro _ _ S6 A w ⟨op7, m7, s7, la7, lc7, es7, rfl, rfl, h7⟩ F M;refine alo F M [.int .i64 0, .int .i64 0, .string ⟨#[]⟩, .slice none 0 0] fun x9 A w F M=>?_;refine sta F M 0 fun w M=>?_;dsimp only [List.set] at M;refine en (sq (rg ?_));refine mv F fun A F=>?_;refine ala F M 0 fun A F=>?_;refine sw_app1 (z := .agg #[.int .i64 0, .int .i64 0, .string ⟨#[]⟩, .slice none 0 0]) F M 2 1 ⟨rfl, rfl, rfl⟩ ⟨rfl, rfl, rfl⟩ rfl rfl (fun _ => rfl) rfl rfl (by kernel_rfl) (by kernel_rfl) rfl rfl (by kernel_rfl) rfl (by omega) rfl fun la10 lc11 _ A w F M => ?_;dsimp only [List.set] at M;refine as1 F fun A F=>?_;refine en (rg ?_);refine mv F fun A F=>?_;refine mv F fun A F=>?_;refine sw_len F ⟨rfl, rfl, rfl⟩ rfl Tryz.underlying72 rfl fun A F => ?_;refine sw_call0 (rlast_m (l ++ [exF op7 m7 s7 la7 lc7 es7]).length (by rw [List.length_append, List.length_singleton]; have := hl8 hok rfl; omega) text c b S6) F M ⟨rfl, rfl, rfl⟩ rfl rfl ?_;rintro _ S12 A w ⟨_, e14, rfl, h13⟩ F M;refine as1 F fun A F=>?_;refine sw_end ?_;show _ ∧ _;have M2 := M;replace M2 := M2.drop 1 rfl;replace M2 := M2.drop 0 rfl;have hpl2 := M2.st.pl;have hxs := h7.shr (fun n => expr_shr1 n _);obtain ⟨q1, q2, q3, q4⟩ := last_all (l := pvRows (l ++ [exF op7 m7 s7 la7 lc7 es7])) h13 (by rw [pvRows_len]);have hlf := lf_le S6;have hS2 : lf S2 = need S2 + 1 := by obtain ⟨σ, rfl⟩ := hok; rfl
   have hltS : need S2 < m := by obtain ⟨σ, rfl⟩ := hok; exact hlt σ rfl
   have hlen : (l ++ [exF op7 m7 s7 la7 lc7 es7]).length = l.length + 1 := by rw [List.length_append, List.length_singleton]
   have F2 : Fm 32 [(4, .bool e14), (3, .slice la10 (l ++ [exF op7 m7 s7 la7 lc7 es7]).length lc11), (0, ptr b)] _ := F.keep [4, 3, 0] rfl;refine ⟨⟨S12, _, _, _, e14, F2, M2, fun y S' q => hk y S' (list_step h7 (by have z := q1 y S' q; rw [pvRows_app] at z; exact z)), fun σ q => ?_, fun q z => ?_, ?_⟩, ?_⟩
   ·have z := q2; rw [q] at z; have : lf (.ok σ) = need (.ok σ) + 1 := rfl; omega
   ·have := q4 q z; rw [pvRows_len] at this; omega
   ·have := hl8 hok rfl; omega
   ·rw [F2.2.2 4 _ rfl, hA4, hpl, hpl2]
    cases e14 with
    | true => show _ + 0 < _ + 1; omega
    | false => show _ + 1 < _ + 1; have := q3 rfl; omega
  have hno := prel_no hrz4 hc5;refine wp_exit ?_;repeat (first | refine then_exit ?_ | refine exit_block ?_ | refine exit_pass rfl ?_)
  have hcm : Rv commaT S1 (pvRows l) S2 := hk _ _ (by obtain ⟨er, rfl⟩ := hno; exact Rv.fault _ er _);show Code.wp _ _ _ _ _;refine sq (rg ?_);refine mv F fun A F=>?_;refine sw_call0 (rshut_m [41] text c b S2) F M ⟨rfl, rfl, rfl⟩ rfl rfl ?_;rintro _ S15 A w ⟨_, h16⟩ F M;refine en (sq (rg ?_));refine mv F fun A F=>?_;refine as1 F fun A F=>?_;refine en (wp_ret ?_);repeat first|refine tr ?_|refine br ?_
  exact sw_rettmp F Tryz.results146 rfl ⟨_, [.l la lc l], S15, rfl, M.but, M.st, lie_cons (M.mem.rowlie 0 rfl) (lie_nil _ _), la, lc, l, rfl, rfl, ⟨(RowG.len (M.mem.at_ 0 _ rfl)), by omega⟩, args_end h2 hcm h16⟩
 | false =>
  rw [c3] at F;have he : e = true := by simpa using c3
  subst he;refine off4 F 2 2 2 2 fun A F=>?_;refine off F 2 fun A F=>?_;refine pkF F fun A F=>?_;refine en (sw_false F rfl ?_);refine wp_exit ?_;repeat (first | refine then_exit ?_ | refine exit_block ?_ | refine exit_pass rfl ?_)
  have hcm : Rv commaT S1 (pvRows l) S2 := hk _ _ (Rv.pur _ _);show Code.wp _ _ _ _ _;refine sq (rg ?_);refine mv F fun A F=>?_;refine sw_call0 (rshut_m [41] text c b S2) F M ⟨rfl, rfl, rfl⟩ rfl rfl ?_;rintro _ S17 A w ⟨_, h18⟩ F M;refine en (sq (rg ?_));refine mv F fun A F=>?_;refine as1 F fun A F=>?_;refine en (wp_ret ?_);repeat first|refine tr ?_|refine br ?_
  exact sw_rettmp F Tryz.results146 rfl ⟨_, [.l la lc l], S17, rfl, M.but, M.st, lie_cons (M.mem.rowlie 0 rfl) (lie_nil _ _), la, lc, l, rfl, rfl, ⟨(RowG.len (M.mem.at_ 0 _ rfl)), by omega⟩, args_end h2 hcm h18⟩
theorem prel_err {S : ES} {kd n e : Int} {tx : Key} (h : PRel S kd tx n e) (q : (e != 0) = true) : ∃ er, S = .error er := prel_no h (by simpa [bne] using q)
theorem prel_fine {S : ES} {kd n e : Int} {tx : Key} (h : PRel S kd tx n e) (q : (e != 0) = false) : ∃ σ, S = .ok σ := prel_yes h (by simpa [bne] using q)
theorem lie_zero (lo : Nat) (w : World) : lieAll lo w (exF 0 0 [] none 0 []) := lie_cons (by constructor <;> omega) (lie_cons (by constructor <;> omega) (lie_cons trivial (lie_cons ⟨Nat.le_refl _, Nat.zero_le _, .inl rfl⟩ (lie_nil _ _))))
theorem need_down (S : ES) : need (downS S) = need S := by
 cases S with
 | error e => rfl
 | ok σ => rfl
theorem not_here {S S1 : ES} (h : Rv (fun _ => deeperT) S () S1) (hs : stands kNot S = true) : need S1 ≤ need S ∧ ((∃ e, S1 = .error e) ∨ Here S1 ∧ stands kNot S1 = true) ∧ 16 ≤ need S := by
 obtain ⟨n, h⟩ := h;have h := h n (Nat.le_refl _);have h1 := need_deeper h
 cases S with
 | error e => cases hs
 | ok σ =>
  have hn : σ.now = .fixed kNot := of_decide_eq_true hs
  have h16 : 16 ≤ need (.ok σ) := by
   show 16 ≤ 16 * mu σ;unfold mu;rw [hn, if_neg (by simp)];omega
  refine ⟨h1, ?_, h16⟩
  by_cases h32 : σ.lv = 32
  ·exact .inl ⟨_, h.get_err (if_pos h32)⟩
  ·have := (h.get_ok (if_neg h32)).2;subst this;exact .inr ⟨⟨by rw [hn]; simp, by rw [hn]; simp⟩, decide_eq_true hn⟩
theorem not_less {S S1 S2 : ES} (h : Rv (fun _ => deeperT) S () S1) (g : Rv (fun _ => nextT) S1 () S2) (hs : stands kNot S = true) : need S2 + 16 ≤ need S := by
 obtain ⟨h1, h2, h3⟩ := not_here h hs;obtain ⟨n, g⟩ := g;have g := g n (Nat.le_refl _);rcases h2 with ⟨e, rfl⟩ | ⟨h2, _⟩
 ·have g : S2 = .error e := g;subst g;show 0 + 16 ≤ _;omega
 ·have := need_here g h2;omega
theorem not_take {S S1 S2 : ES} (h : Rv (fun _ => deeperT) S () S1) (g : Rv (fun _ => nextT) S1 () S2) (hs : stands kNot S = true) : Rv (fun _ => takeT kNot) S1 () S2 := by
 obtain ⟨h1, h2, h3⟩ := not_here h hs;obtain ⟨n, g⟩ := g;have g := g n (Nat.le_refl _);rcases h2 with ⟨e, rfl⟩ | ⟨_, h2⟩
 ·exact Rv.of g
 ·refine Rv.of (Rel.at (F := nextT) g fun σ e => ?_);subst e;exact (if_pos (of_decide_eq_true h2)).symm
theorem not_end {S S1 S2 S3 : ES} {x : EV} (hs : stands kNot S = true) (h : Rv (fun _ => deeperT) S () S1) (g : Rv (fun _ => nextT) S1 () S2) (k : Rv (fun n => exprT n ((3 : Nat) : Int)) S2 x S3) : Rv notT S (exP 8 0 [] [x]) (downS S3) := by
 have p := h.bind (G := fun n _ => bnd (takeT kNot) fun _ => bnd (exprT n 3) fun x => bnd upT fun _ => pur (exP 8 0 [] [x])) ((not_take h g hs).bind (G := fun n _ => bnd (exprT n 3) fun x => bnd upT fun _ => pur (exP 8 0 [] [x])) (k.bind (G := fun n x => bnd upT fun _ => pur (exP 8 0 [] [x])) ((Rv.of (rel_down S3)).bind (G := fun n _ => pur (exP 8 0 [] [x])) (Rv.pur _ _))));exact Rv.succ (p.to fun n => by rw [notT])
theorem up_not {text : Key} {c : C4} {w : World} {b : Nat} {S S1 S2 S3 : ES} {x : EV} (R : PBox text c w b S) (hs : stands kNot S = true) (h : Rv (fun _ => deeperT) S () S1) (g : Rv (fun _ => nextT) S1 () S2) (k : Rv (fun n => exprT n ((3 : Nat) : Int)) S2 x S3) : Up S3 := by
 have t := not_take h g hs;obtain ⟨n1, h⟩ := h;have h := h n1 (Nat.le_refl _);obtain ⟨n2, t⟩ := t;have t := t n2 (Nat.le_refl _);obtain ⟨n3, k⟩ := k;have k := k n3 (Nat.le_refl _)
 cases S3 with
 | error e => trivial
 | ok σ3 =>
  cases S with
  | error e => cases hs
  | ok σ =>
   cases S1 with
   | error e =>
    have t : S2 = .error e := t;subst t;cases (show Except.ok σ3 = Except.error e from k)
   | ok σ1 =>
    cases S2 with
    | error e => cases (show Except.ok σ3 = Except.error e from k)
    | ok σ2 =>
     have l0 := R.low σ rfl;have l1 := R.high σ rfl;have a1 := deeper_lv h l0 l1;have a2 := take_lv t;have a3 := (expr_lw n3).1 _ σ2 x σ3 k (by omega) (by omega);show (mu σ3 : Int) - 4999 ≤ σ3.lv;omega
theorem rexpr_of {m : Nat} (text : Key) (c : C4) (b : Nat) (IH : ∀ (S : ES) (r : Nat), need S < m → 1 ≤ r → r ≤ 7 → Meth Tryz.prog (PdX text c b) (fun k => k = b) 112 [ptr b, .int .i64 r] S (ExQ (fun n => exprT n r) S)) (S : ES) (hm : need S ≤ m) (HF : (∃ σ, S = .ok σ) → Meth Tryz.prog (PdX text c b) (fun k => k = b) 145 [ptr b] S (ExQ atomT S)) (r : Nat) (h1 : 1 ≤ r) (h7 : r ≤ 7) : Meth Tryz.prog (PdX text c b) (fun k => k = b) 112 [ptr b, .int .i64 r] S (ExQ (fun n => exprT n r) S) := by
 refine ⟨by kernel_rfl, fun wO R _ => ?_⟩;have M := pd_begin R;refine sw_fn Tryz.func112 rfl 48 Tryz.ntmps112 rfl fun A F => ?_;refine sq (rg ?_);refine alo F M [.int .i64 0, .int .i64 0, .string ⟨#[]⟩, .slice none 0 0] fun x1 A w F M=>?_;refine en (sq (sq (rg ?_)));refine mv F fun A F=>?_;refine ni F fun A F=>?_;refine fl F 6 fun A F=>?_;obtain ⟨atz2, kdz2, txz2, nz2, lvz2, erz2, kbz2, hrz2⟩ := M.st.cells;refine sw_ext F ((kbz2.cell 6).trans rfl) ⟨rfl, rfl, rfl⟩ rfl (by kernel_rfl) rfl fun A F => ?_;refine sw_neq F ⟨rfl, rfl, rfl⟩ rfl rfl rfl fun A F => ?_;refine en (cd F (fun hc3=>?_) fun hc3=>?_)
 ·have hno := prel_err hrz2 hc3;refine sq (rg ?_);refine sw_build F _ [.int .i64 0, .int .i64 0, .string ⟨#[]⟩, .slice none 0 0] ⟨rfl, rfl, rfl⟩ rfl (by kernel_rfl) rfl fun A F => ?_;refine sta F M 0 fun w M=>?_;dsimp only [List.set] at M;refine en (wp_ret ?_);repeat first|refine tr ?_|refine br ?_
  exact sw_retbox F M 0 Tryz.results112 rfl rfl (by kernel_rfl) (by kernel_rfl) ⟨_, [.i 0, .i 0, .s [], .l none 0 []], S, rfl, M.but, M.st, lie_zero _ _, 0, 0, [], none, 0, [], rfl, rfl, by obtain ⟨er, rfl⟩ := hno; exact Rv.fault _ er _⟩
 have hok := prel_fine hrz2 hc3;refine wp_skip (sq (rg ?_));refine mv F fun A F=>?_;refine sw_call0 (ris_m [110, 111, 116] text c b S) F M ⟨rfl, rfl, rfl⟩ rfl rfl ?_;rintro _ _ A w ⟨_, rfl, rfl⟩ F M;refine as1 F fun A F=>?_;refine en (sq (sq (rg ?_)));refine mv F fun A F=>?_;refine sw_leq F ⟨rfl, rfl, rfl⟩ rfl rfl rfl fun A F => ?_;refine mv F fun A F=>?_
 cases c4 : (decide ((r : Int) ≤ 3)) with
 | true =>
  rw [c4] at F;replace c4 := of_decide_eq_true c4;refine on' F 2 ?_;refine mv F fun A F=>?_;refine pkT F fun A F=>?_;refine en (cd F (fun hc5=>?_) fun hc5=>?_)
  ·have hst := hc5;refine sq (rg ?_);refine mv F fun A F=>?_;refine sw_call0 (rdeeper_m text c b S) F M ⟨rfl, rfl, rfl⟩ rfl rfl ?_;rintro _ S6 A w ⟨_, h7⟩ F M;refine en (sq (rg ?_));refine mv F fun A F=>?_;refine sw_call0 (rnext_m text c b S6) F M ⟨rfl, rfl, rfl⟩ rfl rfl ?_;rintro _ S8 A w ⟨_, h9⟩ F M;refine en (sq (rg ?_));refine mv F fun A F=>?_;refine sw_call (IH S8 3 (by have := not_less h7 h9 hst; omega) (by omega) (by omega)) F M ⟨rfl, rfl, rfl⟩ rfl rfl ?_;rintro _ _ S10 A w ⟨op11, m11, s11, la11, lc11, es11, rfl, rfl, h11⟩ F M;refine alo F M [.int .i64 0, .int .i64 0, .string ⟨#[]⟩, .slice none 0 0] fun x13 A w F M=>?_;refine sta F M 0 fun w M=>?_;dsimp only [List.set] at M;refine en (sq (rg ?_));refine mv F fun A F=>?_;refine ni F fun A F=>?_;refine fl F 5 fun A F=>?_;have hup := up_not R hst h7 h9 h11;obtain ⟨atq, kdq, txq, nq, lvq, eq, kb, hdn⟩ := M.st.down hup;refine sw_ext F ((kb.cell 5).trans rfl) ⟨rfl, rfl, rfl⟩ rfl (by kernel_rfl) rfl fun A F => ?_;refine sw_subw F ⟨rfl, rfl, rfl⟩ rfl rfl rfl fun A F => ?_;refine ni F fun A F=>?_;refine fl F 5 fun A F=>?_;refine sw_setX1 F ⟨rfl, rfl, rfl⟩ rfl rfl kb (by kernel_rfl) rfl rfl rfl fun w B kb => ?_;replace M := M.unit B (hdn _ kb);refine en (sq (rg ?_));refine ala F M 0 fun A F=>?_;refine sw_mkrow (ety := 118) (sz := 4) (z := .agg #[.int .i64 0, .int .i64 0, .string ⟨#[]⟩, .slice none 0 0]) F M _ [exF op11 m11 s11 la11 lc11 es11] ⟨rfl, rfl, rfl⟩ rfl (by kernel_rfl) (by kernel_rfl) rfl (by kernel_rfl) rfl ?_ ?_ rfl fun x14 A w F M => ?_
   ·intro g hg;simp only [List.mem_cons, List.not_mem_nil, or_false] at hg;rcases hg with rfl
    ·exact ⟨rfl, (M.mem.vals 1 rfl).1⟩
   ·intro i f b hf hm g hg;simp only [List.mem_cons, List.not_mem_nil, or_false] at hg;rcases hg with rfl
    ·exact (M.mem.vals 1 rfl).2 i f b hf hm
   refine sw_build F _ [.int .i64 8, .int .i64 0, .string ⟨#[]⟩, .slice (some ⟨x14, 0, none⟩) 1 1] ⟨rfl, rfl, rfl⟩ rfl (by kernel_rfl) rfl fun A F => ?_;refine alo F M [.int .i64 0, .int .i64 0, .string ⟨#[]⟩, .slice none 0 0] fun x16 A w F M=>?_;refine sta F M 0 fun w M=>?_;dsimp only [List.set] at M;refine en (sq (rg ?_));refine mv F fun A F=>?_;refine ala F M 0 fun A F=>?_;refine mv F fun A F=>?_;replace M := M.over 1 rfl 8 0 [] (by omega) (by omega);dsimp only [List.set] at M;replace M := M.swap;have hsh : need (downS S10) ≤ m := by have := need_down S10; have := h11.shr (fun n => expr_shr1 n _); have := not_less h7 h9 hst; omega
   refine sw_callIn (rmore_of text c b IH (downS S10) hsh 8 0 [] _ _ _ r 2 h1 (by omega)) F M ⟨rfl, rfl, rfl⟩ rfl rfl ?_;rintro _ _ S17 A w ⟨op18, m18, s18, la18, lc18, es18, rfl, rfl, h18⟩ F M;refine sta F M 4 fun w M=>?_;dsimp only [List.set] at M;refine en (wp_ret ?_);repeat first|refine tr ?_|refine br ?_
   exact sw_retbox F M 4 Tryz.results112 rfl rfl (by kernel_rfl) (by kernel_rfl) ⟨_, exF op18 m18 s18 la18 lc18 es18, S17, rfl, M.but, M.st, M.mem.val (k := 0) rfl, op18, m18, s18, la18, lc18, es18, rfl, rfl, expr_not (not_end hst h7 h9 h11) hst (3 - r) r (by omega) (by omega) _ _ (rv_perr M.st) h18⟩
  have hst := hc5;refine wp_skip (sq (rg ?_));refine mv F fun A F=>?_;refine sw_call (HF hok) F M ⟨rfl, rfl, rfl⟩ rfl rfl ?_;rintro _ _ S20 A w ⟨op21, m21, s21, la21, lc21, es21, rfl, rfl, h21⟩ F M;refine alo F M [.int .i64 0, .int .i64 0, .string ⟨#[]⟩, .slice none 0 0] fun x23 A w F M=>?_;refine sta F M 0 fun w M=>?_;dsimp only [List.set] at M;refine en (sq (rg ?_));refine mv F fun A F=>?_;refine ala F M 0 fun A F=>?_;refine mv F fun A F=>?_;replace M := M.swap;have hsh : need S20 ≤ m := by have := h21.shr (fun n => (expr_shr n).2.2.2.2.2.2.2.2.2); omega
  refine sw_callIn (rmore_of text c b IH S20 hsh op21 m21 s21 la21 lc21 es21 r 6 h1 (by omega)) F M ⟨rfl, rfl, rfl⟩ rfl rfl ?_;rintro _ _ S24 A w ⟨op25, m25, s25, la25, lc25, es25, rfl, rfl, h25⟩ F M;refine sta F M 2 fun w M=>?_;dsimp only [List.set] at M;refine en (wp_ret ?_);repeat first|refine tr ?_|refine br ?_
  exact sw_retbox F M 2 Tryz.results112 rfl rfl (by kernel_rfl) (by kernel_rfl) ⟨_, exF op25 m25 s25 la25 lc25 es25, S24, rfl, M.but, M.st, M.mem.val (k := 0) rfl, op25, m25, s25, la25, lc25, es25, rfl, rfl, expr_atom h21 (7 - r) r (by omega) (by omega) (fun _ => hst) _ _ (rv_perr M.st) h25⟩
 | false =>
  rw [c4] at F;replace c4 := of_decide_eq_false c4;refine off F 2 fun A F=>?_;refine pkF F fun A F=>?_;refine en (sw_false F rfl ?_);refine wp_skip (sq (rg ?_));refine mv F fun A F=>?_;refine sw_call (HF hok) F M ⟨rfl, rfl, rfl⟩ rfl rfl ?_;rintro _ _ S27 A w ⟨op28, m28, s28, la28, lc28, es28, rfl, rfl, h28⟩ F M;refine alo F M [.int .i64 0, .int .i64 0, .string ⟨#[]⟩, .slice none 0 0] fun x30 A w F M=>?_;refine sta F M 0 fun w M=>?_;dsimp only [List.set] at M;refine en (sq (rg ?_));refine mv F fun A F=>?_;refine ala F M 0 fun A F=>?_;refine mv F fun A F=>?_;replace M := M.swap;have hsh : need S27 ≤ m := by have := h28.shr (fun n => (expr_shr n).2.2.2.2.2.2.2.2.2); omega
  refine sw_callIn (rmore_of text c b IH S27 hsh op28 m28 s28 la28 lc28 es28 r 6 h1 (by omega)) F M ⟨rfl, rfl, rfl⟩ rfl rfl ?_;rintro _ _ S31 A w ⟨op32, m32, s32, la32, lc32, es32, rfl, rfl, h32⟩ F M;refine sta F M 2 fun w M=>?_;dsimp only [List.set] at M;refine en (wp_ret ?_);repeat first|refine tr ?_|refine br ?_
  exact sw_retbox F M 2 Tryz.results112 rfl rfl (by kernel_rfl) (by kernel_rfl) ⟨_, exF op32 m32 s32 la32 lc32 es32, S31, rfl, M.but, M.st, M.mem.val (k := 0) rfl, op32, m32, s32, la32, lc32, es32, rfl, rfl, expr_atom h28 (7 - r) r (by omega) (by omega) (fun q => absurd q (by omega)) _ _ (rv_perr M.st) h32⟩
end Go.Proofs.YthhpkjmhcolgfaaGreatDoor
