/- The models: more fuel, what is left (no program). -/
import Derived.Test.YtgpjlocgkdlnlaaDoorM17
import Derived.Test.YtgpjlocgkdlnlaaDoorM06

namespace Go.Proofs.YtgpjlocgkdlnlaaDoor
open Go.RowKit
set_option linter.unusedVariables false
set_option linter.unusedSimpArgs false

theorem expr_le1 (n : Nat) (r : Int) : Le (exprT n r) (exprT (n + 1) r) := (expr_le n).1 r
theorem args_le (n : Nat) : Le (argsT n) (argsT (n + 1)) := (expr_le n).2.2.2.2.2.2.1
theorem inner_le (o c : Key) (n : Nat) : Le (innerT n o c) (innerT (n + 1) o c) := (expr_le n).2.2.2.1 o c
theorem expr_shr1 (n : Nat) (r : Int) : Shr (exprT n r) := (expr_shr n).1 r
theorem args_shr (n : Nat) : Shr (argsT n) := (expr_shr n).2.2.2.2.2.2.1
theorem inner_shr (o c : Key) (n : Nat) : Shr (innerT n o c) := (expr_shr n).2.2.2.1 o c
theorem give_le (n : Nat) (f : EV → EV) : Le (giveT n f) (giveT (n + 1) f) := Le.bnd (Le.refl _) fun _ => Le.bnd (expr_le1 n 1) fun x => Le.refl _
theorem semi_shr (x : EV) : Shr (semiT x) := Shr.bnd (Shr.take _) fun _ => Shr.pur _
theorem give_shr (n : Nat) (f : EV → EV) : Shr (giveT n f) := Shr.bnd (Shr.take _) fun _ => Shr.bnd (expr_shr1 n 1) fun x => semi_shr _
theorem gift_le (n : Nat) : Le (gift n) (gift (n + 1)) := Le.bnd (Le.refl _) fun s => Le.bnd (Le.refl _) fun c => Le.ifT (Le.bnd (inner_le _ _ n) fun y => give_le n _) (give_le n _)
theorem let_le (n : Nat) : Le (letM n) (letM (n + 1)) := Le.bnd (Le.refl _) fun s => Le.bnd (Le.refl _) fun _ => Le.bnd (Le.refl _) fun k => give_le n _
theorem let_shr (n : Nat) : Shr (letM n) := Shr.bnd Shr.name fun s => Shr.bnd (Shr.take _) fun _ => Shr.bnd Shr.kind fun k => give_shr n _
theorem ask_le (n : Nat) : Le (askM n) (askM (n + 1)) := Le.bnd (Le.refl _) fun s => Le.bnd (Le.refl _) fun _ => Le.bnd (Le.refl _) fun t => Le.bnd (Le.refl _) fun _ => Le.bnd (expr_le1 n 1) fun x => Le.bnd (Le.refl _) fun _ => Le.bnd (Le.refl _) fun u => Le.bnd (args_le n) fun l => Le.bnd (Le.refl _) fun _ => Le.bnd (expr_le1 n 1) fun y => Le.bnd (Le.refl _) fun _ => Le.bnd (expr_le1 n 1) fun z => Le.refl _
theorem ask_shr (n : Nat) : Shr (askM n) := Shr.bnd Shr.name fun s => Shr.bnd (Shr.take _) fun _ => Shr.bnd Shr.name fun t => Shr.bnd (Shr.take _) fun _ => Shr.bnd (expr_shr1 n 1) fun x => Shr.bnd (Shr.take _) fun _ => Shr.bnd Shr.name fun u => Shr.bnd (args_shr n) fun l => Shr.bnd (Shr.take _) fun _ => Shr.bnd (expr_shr1 n 1) fun y => Shr.bnd (Shr.take _) fun _ => Shr.bnd (expr_shr1 n 1) fun z => semi_shr _
theorem pay_le (n : Nat) : Le (payM n) (payM (n + 1)) := Le.bnd (expr_le1 n 1) fun x => Le.bnd (Le.refl _) fun _ => Le.bnd (expr_le1 n 1) fun y => Le.refl _
theorem pay_shr (n : Nat) : Shr (payM n) := Shr.bnd (expr_shr1 n 1) fun x => Shr.bnd (Shr.take _) fun _ => Shr.bnd (expr_shr1 n 1) fun y => semi_shr _
theorem one_le (n : Nat) (k : Int) : Le (oneM n k) (oneM (n + 1) k) := Le.bnd (expr_le1 n 1) fun x => Le.refl _
theorem one_shr (n : Nat) (k : Int) : Shr (oneM n k) := Shr.bnd (expr_shr1 n 1) fun x => semi_shr _
theorem step_le : ∀ n, Le (stepM n) (stepM (n + 1)) ∧ Le (wordM n) (wordM (n + 1)) ∧ Le (ifM n) (ifM (n + 1)) ∧ Le (whileM n) (whileM (n + 1)) ∧ Le (blockM n) (blockM (n + 1)) ∧ ∀ l, Le (stepsM n l) (stepsM (n + 1) l) := by
  intro n
  induction n with
  | zero => exact ⟨Le.fail _, Le.fail _, Le.fail _, Le.fail _, Le.fail _, fun _ => Le.fail _⟩
  | succ n ih =>
    obtain ⟨h1, h2, h3, h4, h5, h6⟩ := ih
    refine ⟨?_, ?_, ?_, ?_, ?_, fun l => ?_⟩
    · refine Le.at fun σ => ?_
      rw [stepM, stepM]
      cases h : σ.now with
      | name s => exact ⟨_, _, gift_le n, by simp only [h], by simp only [h]⟩
      | num m => exact ⟨_, _, h2, by simp only [h], by simp only [h]⟩
      | none => exact ⟨_, _, h2, by simp only [h], by simp only [h]⟩
      | fin => exact ⟨_, _, h2, by simp only [h], by simp only [h]⟩
      | fixed s => exact ⟨_, _, h2, by simp only [h], by simp only [h]⟩
    · rw [wordM, wordM]
      exact Le.bnd (Le.refl _) fun k => Le.ite (Le.refl _) (Le.bnd (Le.refl _) fun _ => Le.ite h3 (Le.ite h4 (Le.ite (let_le n) (Le.ite (ask_le n) (Le.ite (pay_le n) (one_le n k))))))
    · rw [ifM, ifM]
      exact Le.bnd (expr_le1 n 1) fun x => Le.bnd h5 fun l => Le.bnd (Le.refl _) fun c => Le.ifT (Le.bnd (Le.refl _) fun _ => Le.bnd h5 fun m => Le.refl _) (Le.refl _)
    · rw [whileM, whileM]
      exact Le.bnd (expr_le1 n 1) fun x => Le.bnd h5 fun l => Le.refl _
    · rw [blockM, blockM]
      exact Le.bnd (Le.refl _) fun _ => Le.bnd (h6 []) fun l => Le.refl _
    · rw [stepsM, stepsM]
      exact Le.bnd (Le.refl _) fun c => Le.ifT (Le.refl _) (Le.bnd h1 fun s => h6 _)
theorem name_less {S S' : ES} {s : Key} {σ : St} (h : Rel nameT S s S') (e : S = .ok σ) : (∃ e, S' = .error e) ∨ need S' < need S := by
  subst e
  by_cases hn : ∃ t, σ.now = .name t
  · obtain ⟨t, ht⟩ := hn
    have := (need_name h).2 ⟨σ, t, rfl, ht⟩
    right; omega
  · have e : nameT σ = .error (errT σ) := by
      unfold nameT
      cases h : σ.now <;> simp_all
    exact .inl ⟨_, h.get_err e⟩
/-- It takes a token, or ends in a fault. -/
def Takes {α : Type} (F : PM α) : Prop := ∀ σ x S', Rel F (.ok σ) x S' → (∃ e, S' = .error e) ∨ need S' < need (.ok σ)
theorem Takes.bd {α β : Type} [Inhabited α] {F : PM α} {G : α → PM β} (h : Takes F) (g : ∀ x, Shr (G x)) : Takes (bnd F G) := fun σ y S' q => by
  obtain ⟨x, S1, h1, h2⟩ := Rel.unbind q
  rcases h σ x S1 h1 with ⟨e, rfl⟩ | h3
  · exact .inl ⟨e, h2⟩
  · have := g x S1 y S' h2
    exact .inr (by omega)
theorem Takes.after {α β : Type} [Inhabited α] {F : PM α} {G : α → PM β} (h : ∀ σ x S', Rel F (.ok σ) x S' → S' = .ok σ) (g : ∀ x, Takes (G x)) : Takes (bnd F G) := fun σ y S' q => by
  obtain ⟨x, S1, h1, h2⟩ := Rel.unbind q
  have := h σ x S1 h1
  subst this
  exact g x σ y S' h2
theorem Takes.name : Takes nameT := fun σ x S' h => name_less h rfl
theorem Takes.take (s : Key) : Takes (takeT s) := fun σ x S' h => by
  by_cases hs : σ.now = .fixed s
  · have := (need_take h).2 (decide_eq_true hs)
    right; omega
  · exact .inl ⟨_, h.get_err (if_neg hs)⟩
theorem Takes.wrong {α : Type} : Takes (wrongT : PM α) := fun σ x S' h => .inl ⟨_, h.get_err (e := errT σ) rfl⟩
theorem Takes.fail {α : Type} (e : Int) : Takes (failT e : PM α) := fun σ x S' h => .inl ⟨_, h.get_err (e := e) rfl⟩
theorem Takes.ifT {α : Type} {c : Bool} {F G : PM α} (h : Takes F) (g : Takes G) : Takes (ifT c F G) := by cases c <;> assumption
theorem Takes.open (s : Key) : Takes (openT s) := fun σ x S' h => by
  by_cases hs : σ.now = .fixed s
  · have := (need_open h).2 (decide_eq_true hs)
    right; omega
  · have : openT s σ = .error (errT σ) := by simp [openT, Go.Proofs.YtgpjlocgkdlnlaaDoor.bnd, isT, hs, pur, takeT]
    exact .inl ⟨_, h.get_err this⟩
theorem gift_shr (n : Nat) : Shr (gift n) := Shr.bnd Shr.name fun s => Shr.bnd (Shr.is _) fun c => Shr.ifT (Shr.bnd (inner_shr _ _ n) fun y => give_shr n _) (give_shr n _)
theorem gift_takes (n : Nat) : Takes (gift n) := Takes.bd Takes.name fun s => Shr.bnd (Shr.is _) fun c => Shr.ifT (Shr.bnd (inner_shr _ _ n) fun y => give_shr n _) (give_shr n _)
theorem step_shr : ∀ n, Shr (stepM n) ∧ Shr (wordM n) ∧ Shr (ifM n) ∧ Shr (whileM n) ∧ Shr (blockM n) ∧ ∀ l, Shr (stepsM n l) := by
  intro n
  induction n with
  | zero => exact ⟨Shr.fail _, Shr.fail _, Shr.fail _, Shr.fail _, Shr.fail _, fun _ => Shr.fail _⟩
  | succ n ih =>
    obtain ⟨h1, h2, h3, h4, h5, h6⟩ := ih
    refine ⟨?_, ?_, ?_, ?_, ?_, fun l => ?_⟩
    · refine Shr.at fun σ => ?_
      rw [stepM]
      cases h : σ.now with
      | name s => exact ⟨_, gift_shr n, by simp only [h]⟩
      | num m => exact ⟨_, h2, by simp only [h]⟩
      | none => exact ⟨_, h2, by simp only [h]⟩
      | fin => exact ⟨_, h2, by simp only [h]⟩
      | fixed s => exact ⟨_, h2, by simp only [h]⟩
    · rw [wordM]
      exact Shr.bnd (Shr.pick _) fun k => Shr.ite Shr.wrong (Shr.bnd Shr.next fun _ => Shr.ite h3 (Shr.ite h4 (Shr.ite (let_shr n) (Shr.ite (ask_shr n) (Shr.ite (pay_shr n) (one_shr n k))))))
    · rw [ifM]
      exact Shr.bnd (expr_shr1 n 1) fun x => Shr.bnd h5 fun l => Shr.bnd (Shr.is _) fun c => Shr.ifT (Shr.bnd (Shr.take _) fun _ => Shr.bnd h5 fun m => Shr.pur _) (Shr.pur _)
    · rw [whileM]
      exact Shr.bnd (expr_shr1 n 1) fun x => Shr.bnd h5 fun l => Shr.pur _
    · rw [blockM]
      exact Shr.bnd (Shr.open _) fun _ => Shr.bnd (h6 []) fun l => Shr.bnd (Shr.shut _) fun _ => Shr.pur _
    · rw [stepsM]
      exact Shr.bnd (Shr.is _) fun c => Shr.ifT (Shr.pur _) (Shr.bnd h1 fun s => h6 _)
theorem word_takes : ∀ n, Takes (wordM n)
  | 0 => Takes.fail _
  | n + 1 => fun σ x S' h => by
    rw [wordM] at h
    obtain ⟨k, S1, h1, h2⟩ := Rel.unbind h
    have e1 := h1.get_ok (y := pickI stepW (.ok σ)) (τ := σ) rfl
    obtain ⟨e1, rfl⟩ := e1
    subst e1
    by_cases hk : pickI stepW (.ok σ) = 0
    · rw [if_pos hk] at h2
      exact .inl ⟨_, h2.get_err (e := errT σ) rfl⟩
    · rw [if_neg hk] at h2
      obtain ⟨_, S2, h3, h4⟩ := Rel.unbind h2
      have h3 := need_here h3 (Here.of_pick hk)
      obtain ⟨_, _, q3, q4, _, _⟩ := step_shr n
      have := (Shr.ite q3 (Shr.ite q4 (Shr.ite (let_shr n) (Shr.ite (ask_shr n) (Shr.ite (pay_shr n) (one_shr n _)))))) _ _ _ h4
      right; omega
theorem step_takes : ∀ n, Takes (stepM n)
  | 0 => Takes.fail _
  | n + 1 => fun σ x S' h => by
    cases hn : σ.now with
    | name s =>
      refine gift_takes n σ x S' ?_
      unfold Rel at h ⊢
      simp only [stepM, hn] at h
      exact h
    | num m =>
      refine word_takes n σ x S' ?_
      unfold Rel at h ⊢
      simp only [stepM, hn] at h
      exact h
    | none =>
      refine word_takes n σ x S' ?_
      unfold Rel at h ⊢
      simp only [stepM, hn] at h
      exact h
    | fin =>
      refine word_takes n σ x S' ?_
      unfold Rel at h ⊢
      simp only [stepM, hn] at h
      exact h
    | fixed s =>
      refine word_takes n σ x S' ?_
      unfold Rel at h ⊢
      simp only [stepM, hn] at h
      exact h
theorem Kn.ifT_true {α : Type} {F A B : Nat → PM α} {S S1 : ES} {c : Bool} (k : Kn F S (fun n => ifT c (A n) (B n)) S1) (h : c = true) : Kn F S A S1 := by subst h; exact k
theorem Kn.ifT_false {α : Type} {F A B : Nat → PM α} {S S1 : ES} {c : Bool} (k : Kn F S (fun n => ifT c (A n) (B n)) S1) (h : c = false) : Kn F S B S1 := by subst h; exact k
theorem Kn.ite_pos {α : Type} {F A B : Nat → PM α} {S S1 : ES} {c : Prop} [Decidable c] (k : Kn F S (fun n => if c then A n else B n) S1) (h : c) : Kn F S A S1 := k.to fun n => if_pos h
theorem Kn.ite_neg {α : Type} {F A B : Nat → PM α} {S S1 : ES} {c : Prop} [Decidable c] (k : Kn F S (fun n => if c then A n else B n) S1) (h : ¬ c) : Kn F S B S1 := k.to fun n => if_neg h
end Go.Proofs.YtgpjlocgkdlnlaaDoor

namespace Go.Proofs.YtgpjlocgkdlnlaaDoor
open Go.RowKit
set_option linter.unusedVariables false
set_option linter.unusedSimpArgs false

abbrev RdX (b : Nat) : ES → World → Prop := fun S w => RAt w b S
theorem rd_begin {w : World} {b : Nat} {S : ES} (R : RAt w b S) : Mm (RdX b) (fun k => k = b) w [] S w :=
  Mm.begin R (fun k q => by subst q; exact R.lt) fun s u u' hb x => by
    have h1 := R.lt
    have h2 := R.gl.sz
    exact x.but (T := fun k => w.heap.size ≤ k) ⟨hb.os, hb.tape, hb.output, hb.size, fun k _ q => hb.block k (by omega)⟩ fun k q => ⟨by omega, by omega⟩
theorem rv_err {S' : ES} {w : World} {b : Nat} (R : RAt w b S') : S' ≠ .error 0 := by
  intro e
  subst e
  exact R.box.1 rfl
theorem meth_u {f : FuncId} {vs : List Value} {F : PM Unit} (hE : enters Tryd.prog f = true) (h : CtU f vs F) (b : Nat) (S : ES) : Meth Tryd.prog (RdX b) (fun k => k = b) f (ptr b :: vs) S fun v fs S' => Rv (fun _ => F) S () S' :=
  ⟨hE, fun w R _ => (h b S w R).mono fun e w' ⟨h1, h2, S', h3, h4⟩ => ⟨_, [], S', h1, h2, h3, lie_nil _ _, Rv.of h4⟩⟩
theorem meth_v {α : Type} {f : FuncId} {vs : List Value} {enc : α → Value} {F : PM α} (hE : enters Tryd.prog f = true) (h : CtV f vs enc F) (b : Nat) (S : ES) : Meth Tryd.prog (RdX b) (fun k => k = b) f (ptr b :: vs) S fun v fs S' => ∃ x, v = enc x ∧ Rv (fun _ => F) S x S' :=
  ⟨hE, fun w R _ => (h b S w R).mono fun e w' ⟨x, h1, h2, S', h3, h4⟩ => ⟨_, [], S', h1, h2, h3, lie_nil _ _, x, rfl, Rv.of h4⟩⟩
theorem take_m (s : Key) (b : Nat) (S : ES) : Meth Tryd.prog (RdX b) (fun k => k = b) 20 [ptr b, .string (str s)] S fun v fs S' => Rv (fun _ => takeT s) S () S' := meth_u (f := 20) (by kernel_rfl) (take_u s) b S
theorem next_m (b : Nat) (S : ES) : Meth Tryd.prog (RdX b) (fun k => k = b) 7 [ptr b] S fun v fs S' => Rv (fun _ => nextT) S () S' := meth_u (f := 7) (by kernel_rfl) next_u b S
theorem wrong_m {b : Nat} {S : ES} : Meth Tryd.prog (RdX b) (fun k => k = b) 19 [ptr b] S fun v fs S' => Rv (fun _ => (wrongT : PM Unit)) S () S' := meth_u (f := 19) (by kernel_rfl) wrong_u b S
theorem open_m (s : Key) (b : Nat) (S : ES) : Meth Tryd.prog (RdX b) (fun k => k = b) 65 [ptr b, .string (str s)] S fun v fs S' => Rv (fun _ => openT s) S () S' := meth_u (f := 65) (by kernel_rfl) (open_u s) b S
theorem shut_m (s : Key) (b : Nat) (S : ES) : Meth Tryd.prog (RdX b) (fun k => k = b) 67 [ptr b, .string (str s)] S fun v fs S' => Rv (fun _ => shutT s) S () S' := meth_u (f := 67) (by kernel_rfl) (shut_u s) b S
theorem room_m (n m : Int) (b : Nat) (S : ES) : Meth Tryd.prog (RdX b) (fun k => k = b) 46 [ptr b, .int .i64 n, .int .i64 m] S fun v fs S' => Rv (fun _ => roomT n m) S () S' := meth_u (f := 46) (by kernel_rfl) (room_u n m) b S
theorem fail_m (e : Int) (he : e ≠ 0) (b : Nat) (S : ES) : Meth Tryd.prog (RdX b) (fun k => k = b) 9 [ptr b, .int .i64 e] S fun v fs S' => Rv (fun _ => (failT e : PM Unit)) S () S' := meth_u (f := 9) (by kernel_rfl) (fail_u e he) b S
theorem name_m (b : Nat) (S : ES) : Meth Tryd.prog (RdX b) (fun k => k = b) 21 [ptr b] S fun v fs S' => ∃ x : Key, v = .string (str x) ∧ Rv (fun _ => nameT) S x S' := meth_v (f := 21) (by kernel_rfl) name_v b S
theorem is_m (s : Key) (b : Nat) (S : ES) : Meth Tryd.prog (RdX b) (fun k => k = b) 45 [ptr b, .string (str s)] S fun v fs S' => v = .bool (stands s S) ∧ S = S' :=
  ⟨by kernel_rfl, fun w R _ => (is_b s b S w R).mono fun e w' ⟨h1, h2, h3⟩ => ⟨_, [], S, h1, h2, h3, lie_nil _ _, rfl, rfl⟩⟩
theorem ahead_m (s : Key) (b : Nat) (S : ES) : Meth Tryd.prog (RdX b) (fun k => k = b) 22 [ptr b, .string (str s)] S fun v fs S' => v = .bool (going s S) ∧ S = S' :=
  ⟨by kernel_rfl, fun w R _ => (ahead_b s b S w R).mono fun e w' ⟨h1, h2, h3⟩ => ⟨_, [], S, h1, h2, h3, lie_nil _ _, rfl, rfl⟩⟩
theorem stepKind_m (b : Nat) (S : ES) : Meth Tryd.prog (RdX b) (fun k => k = b) 73 [ptr b] S fun v fs S' => v = .int .i64 (pickI stepW S) ∧ S = S' :=
  ⟨by kernel_rfl, fun w R _ => (stepKind_b b S w R).mono fun e w' ⟨h1, h2, h3⟩ => ⟨_, [], S, h1, h2, h3, lie_nil _ _, rfl, rfl⟩⟩
theorem kind_m (b : Nat) (S : ES) : Meth Tryd.prog (RdX b) (fun k => k = b) 57 [ptr b] S fun v fs S' => ∃ k : Int, v = .int .i64 k ∧ (0 ≤ k ∧ k ≤ 3) ∧ Rv (fun _ => kindT) S k S' :=
  ⟨by kernel_rfl, fun w R _ => (kind_b b S w R).mono fun e w' ⟨k, h1, h2, h3, S', h4, h5⟩ => ⟨_, [], S', h2, h3, h4, lie_nil _ _, k, rfl, h1, Rv.of h5⟩⟩
theorem param_m (b : Nat) (S : ES) : Meth Tryd.prog (RdX b) (fun k => k = b) 47 [ptr b] S fun v fs S' => ∃ (s : Key) (k : Int), fs = [.s s, .i k] ∧ v = .agg (fs.map Fld.val).toArray ∧ (0 ≤ k ∧ k ≤ 3) ∧ Rv (fun _ => paramT) S (s, k) S' :=
  ⟨by kernel_rfl, fun w R _ => (param_b b S w R).mono fun e w' ⟨s, k, h1, h2, h3, S', h4, h5, h6⟩ => ⟨_, [.s s, .i k], S', h2, h3, h4, lie_cons trivial (lie_cons ⟨by omega, by omega⟩ (lie_nil _ _)), s, k, rfl, rfl, h1, Rv.of h6⟩⟩
theorem expr_m (b : Nat) (S : ES) : Meth Tryd.prog (RdX b) (fun k => k = b) 77 [ptr b, .int .i64 1] S fun v fs S' => ∃ op m s la lc es, fs = exF op m s la lc es ∧ v = .agg (fs.map Fld.val).toArray ∧ Rv (fun n => exprT n 1) S (pvAll fs) S' :=
  ⟨by kernel_rfl, fun w R _ => (expr_all 40000 1 (by omega) (by omega) b S w R (by have := R.most; omega)).mono fun e w' ⟨op, m, s, la, lc, es, h1, h2, h3, S', h4, h5, h6⟩ => ⟨_, exF op m s la lc es, S', h1, h3, h4, h2, op, m, s, la, lc, es, rfl, rfl, Rv.up (F := fun n => exprT n 1) h6 (fun n => expr_le1 n 1) (rv_err h4)⟩⟩
theorem inner_m (o c : Key) (b : Nat) (S : ES) : Meth Tryd.prog (RdX b) (fun k => k = b) 81 [ptr b, .string (str o), .string (str c)] S fun v fs S' => ∃ op m s la lc es, fs = exF op m s la lc es ∧ v = .agg (fs.map Fld.val).toArray ∧ Rv (fun n => innerT n o c) S (pvAll fs) S' :=
  ⟨by kernel_rfl, fun w R _ => (inner_n (N := 40000) (fun m _ => expr_all m) o c b S w R (by have := R.most; omega) (by omega)).mono fun e w' ⟨op, m, s, la, lc, es, h1, h2, h3, S', h4, h5, h6⟩ => ⟨_, exF op m s la lc es, S', h1, h3, h4, h2, op, m, s, la, lc, es, rfl, rfl, Rv.up (F := fun n => innerT n o c) h6 (inner_le o c) (rv_err h4)⟩⟩
theorem args_m (b : Nat) (S : ES) : Meth Tryd.prog (RdX b) (fun k => k = b) 82 [ptr b] S fun v fs S' => ∃ la lc es, fs = [.l la lc es] ∧ v = .slice la es.length lc ∧ Fours es ∧ Rv argsT S (pvRows es) S' :=
  ⟨by kernel_rfl, fun w R _ => (args_b (N := 40000) (fun m _ => expr_all m) b S w R (by have := R.most; omega)).mono fun e w' ⟨la, lc, es, h1, h2, h3, S', h4, h5, h6, h7⟩ => ⟨_, [.l la lc es], S', h1, h3, h4, lie_cons h2 (lie_nil _ _), la, lc, es, rfl, rfl, h7, Rv.up (F := argsT) h6 args_le (rv_err h4)⟩⟩
/-- What a function that reads a statement gives. -/
def StP (F : Nat → PM EV) (S : ES) (v : Value) (fs : List Fld) (S' : ES) : Prop := ∃ x : Sm, fs = x.flds ∧ v = .agg (fs.map Fld.val).toArray ∧ Rv F S (pvAll fs) S'
def BlP (F : Nat → PM (List EV)) (S : ES) (v : Value) (fs : List Fld) (S' : ES) : Prop := ∃ la lc es, fs = [.l la lc es] ∧ v = .slice la es.length lc ∧ Rv F S (pvRows es) S'
end Go.Proofs.YtgpjlocgkdlnlaaDoor

namespace Go.Proofs.YtgpjlocgkdlnlaaDoor
open Go.RowKit
set_option linter.unusedVariables false
set_option linter.unusedSimpArgs false

/-- What is left, and whether there is no fault yet. -/
def lf : ES → Nat
  | .error _ => 0
  | .ok σ => need (.ok σ) + 1
theorem lf_le (S : ES) : lf S ≤ need S + 1 := by
  cases S with
  | error e => exact Nat.zero_le _
  | ok σ => exact Nat.le_refl _
theorem lf_takes {α : Type} {F : Nat → PM α} {S S' : ES} {x : α} (h : Rv F S x S') (k : ∀ n, Takes (F n)) : lf S' ≤ need S := by
  obtain ⟨n, h⟩ := h
  have h := h n (Nat.le_refl _)
  cases S with
  | error e => have h : S' = .error e := h; subst h; exact Nat.zero_le _
  | ok σ =>
    rcases k n σ x S' h with ⟨e, rfl⟩ | h2
    · exact Nat.zero_le _
    · have := lf_le S'
      omega
def wl (w : World) (b : Nat) : Nat :=
  match w.cell? ⟨b, 5, none⟩ with
  | some (.int _ e) => if e ≠ 0 then 0 else wneed w b + 1
  | _ => 0
theorem RAt.wl {w : World} {b : Nat} {S : ES} (R : RAt w b S) : wl w b = lf S := by
  have hw := R.wneed
  cases S with
  | ok σ =>
    obtain ⟨k, hr⟩ := R.box
    have c5 : w.cell? ⟨b, 5, none⟩ = some (.int .i64 0) := (k.cell 5).trans rfl
    unfold Go.Proofs.YtgpjlocgkdlnlaaDoor.wl
    rw [c5]
    simp only [ne_eq, not_true_eq_false, if_false, hw, lf]
  | error e =>
    obtain ⟨h0, r, lv, k⟩ := R.box
    have c5 : w.cell? ⟨b, 5, none⟩ = some (.int .i64 e) := (k.cell 5).trans rfl
    unfold Go.Proofs.YtgpjlocgkdlnlaaDoor.wl
    rw [c5]
    simp only [ne_eq, h0, not_false_eq_true, if_true, lf]
theorem going_ok {s : Key} {S : ES} (h : going s S = true) : lf S = need S + 1 ∧ stands s S = false := by
  cases S with
  | error e => cases h
  | ok σ => exact ⟨rfl, by simpa [going, stands] using h⟩
theorem steps_end {F : Nat → PM (List EV)} {S1 Sv : ES} {l : List EV} (kl : Kn F S1 (fun n => stepsM n l) Sv) (hg : going [125] Sv = false) : Rv F S1 l Sv := by
  cases Sv with
  | error e => exact kl.err l
  | ok σ => exact ((kl.succ.step (Rv.of (rel_is [125] (.ok σ)))).ifT_true (by simpa [going, stands] using hg)).fin
theorem sw_ext {P : Program} {ops : Array Oper} {Q : Exit → Act → World → Prop} {a : Act} {w : World} {rest : List Oper} {o : Oper} {N : Nat} {L : List (Nat × Value)} (F : Fm N L a) {i : Nat} {t : TypeId} {x : Operand} {p : Addr} {v : Value} (hc : w.cell? p = some v) (h : Is o (some i) (.load t x)) (hx : opv L x = some (.pointer (some p))) (ht : cellT P t = true) (hi : Nat.blt i N = true) (K : ∀ a', Fm N ((i, v) :: L) a' → wpList P ops Q rest a' w) : wpList P ops Q (o :: rest) a w := by
  obtain ⟨d, hu, hd⟩ := cellT_out ht
  refine sw_val F h.1 h.2.2 hi ?_ K
  unfold execOp
  rw [h.2.1]
  simp only [F.ev hx]
  have hagg : (isAgg t).run P w = .ok false w := by
    unfold isAgg
    rw [Sem.run_bind, run_underlying hu w]
    cases d <;> simp_all [TypeDesc.isRow]
  simp [Instr.loadAt, Instr.sureAddr, loadVar, hagg, hc]
theorem now_name {S : ES} (h : ((nowOf S).class == 2) = true) : ∃ σ t, S = .ok σ ∧ σ.now = .name t := by
  cases S with
  | error e => cases h
  | ok σ =>
    have h : (σ.now.class == 2) = true := h
    cases hn : σ.now with
    | name t => exact ⟨σ, t, rfl, hn⟩
    | _ => rw [hn] at h; simp [Tok.class] at h
theorem now_other {S : ES} (h : ((nowOf S).class == 2) = false) (n : Nat) (σ : St) (e : S = .ok σ) : wordM n σ = stepM (n + 1) σ := by
  subst e
  have h : (σ.now.class == 2) = false := h
  rw [stepM]
  cases hn : σ.now with
  | name t => rw [hn] at h; simp [Tok.class] at h
  | _ => simp only [hn]
theorem wordM_succ (n : Nat) : wordM (n + 1) = bnd (pickT stepW) fun k => if k = 0 then wrongT else bnd nextT fun _ => if k = 4 then ifM n else if k = 5 then whileM n else if k = 1 then letM n else if k = 10 then askM n else if k = 8 then payM n else oneM n k := by rw [wordM]
theorem rv_here {S S1 : ES} (h : Rv (fun _ => nextT) S () S1) (hh : Here S) : need S1 + 16 ≤ need S := by
  obtain ⟨n, h⟩ := h
  exact need_here (h n (Nat.le_refl _)) hh
theorem stepW_le (S : ES) : 0 ≤ pickI stepW S ∧ pickI stepW S ≤ 10 := by
  rcases pick_mem (l := stepW) (S := S) with h | ⟨p, h1, h2⟩
  · rw [h]; omega
  · rw [h2]
    have : ∀ p ∈ stepW, 0 ≤ p.1 ∧ p.1 ≤ 10 := by decide
    exact this p h1
theorem wrong_any {α : Type} {S S' : ES} {x : α} (h : Rv (fun _ => (wrongT : PM Unit)) S () S') : Rv (fun _ => (wrongT : PM α)) S x S' := by
  obtain ⟨n, h⟩ := h
  have h := h n (Nat.le_refl _)
  refine ⟨0, fun _ _ => ?_⟩
  cases S with
  | error e => exact h
  | ok σ =>
    have := h.get_err (e := errT σ) rfl
    subst this
    exact Rel.of_err rfl
end Go.Proofs.YtgpjlocgkdlnlaaDoor
