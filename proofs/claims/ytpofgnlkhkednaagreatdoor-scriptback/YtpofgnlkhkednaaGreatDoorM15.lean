import Derived.Test.YtpofgnlkhkednaaGreatDoorM12
namespace Go.Proofs.YtpofgnlkhkednaaGreatDoor
open Go.RowKit
set_option linter.unusedVariables false
set_option linter.unusedSimpArgs false
set_option maxRecDepth 20000
set_option maxHeartbeats 8000000
theorem expr_le1 (n : Nat) (r : Int) : Le (exprT n r) (exprT (n + 1) r) := (expr_le n).1 r
theorem args_le (n : Nat) : Le (argsT n) (argsT (n + 1)) := (expr_le n).2.2.2.2.2.2.1
theorem inner_le (o c : Key) (n : Nat) : Le (innerT n o c) (innerT (n + 1) o c) := (expr_le n).2.2.2.1 o c
theorem expr_shr1 (n : Nat) (r : Int) : Shr (exprT n r) := (expr_shr n).1 r
theorem args_shr (n : Nat) : Shr (argsT n) := (expr_shr n).2.2.2.2.2.2.1
theorem inner_shr (o c : Key) (n : Nat) : Shr (innerT n o c) := (expr_shr n).2.2.2.1 o c
theorem semi_shr (x : EV) : Shr (semiT x) := Shr.bnd (Shr.take _) fun _ => Shr.pur _
theorem give_shr (n : Nat) (f : EV → EV) : Shr (giveT n f) := Shr.bnd (Shr.take _) fun _ => Shr.bnd (expr_shr1 n 1) fun x => semi_shr _
theorem let_shr (n : Nat) : Shr (letM n) := Shr.bnd Shr.name fun s => Shr.bnd (Shr.take _) fun _ => Shr.bnd Shr.kind fun k => give_shr n _
theorem ask_shr (n : Nat) : Shr (askM n) := Shr.bnd Shr.name fun s => Shr.bnd (Shr.take _) fun _ => Shr.bnd Shr.name fun t => Shr.bnd (Shr.take _) fun _ => Shr.bnd (expr_shr1 n 1) fun x => Shr.bnd (Shr.take _) fun _ => Shr.bnd Shr.name fun u => Shr.bnd (args_shr n) fun l => Shr.bnd (Shr.take _) fun _ => Shr.bnd (expr_shr1 n 1) fun y => Shr.bnd (Shr.take _) fun _ => Shr.bnd (expr_shr1 n 1) fun z => semi_shr _
theorem pay_shr (n : Nat) : Shr (payM n) := Shr.bnd (expr_shr1 n 1) fun x => Shr.bnd (Shr.take _) fun _ => Shr.bnd (expr_shr1 n 1) fun y => semi_shr _
theorem one_shr (n : Nat) (k : Int) : Shr (oneM n k) := Shr.bnd (expr_shr1 n 1) fun x => semi_shr _
theorem name_less {S S' : ES} {s : Key} {σ : St} (h : Rel nameT S s S') (e : S = .ok σ) : (∃ e, S' = .error e) ∨ need S' < need S := by
 subst e
 by_cases hn : ∃ t, σ.now = .name t
 ·obtain ⟨t, ht⟩ := hn;have := (need_name h).2 ⟨σ, t, rfl, ht⟩;right; omega
 ·have e : nameT σ = .error (errT σ) := by
   unfold nameT;cases h : σ.now <;> simp_all
  exact .inl ⟨_, h.get_err e⟩
def Takes {α : Type} (F : PM α) : Prop := ∀ σ x S', Rel F (.ok σ) x S' → (∃ e, S' = .error e) ∨ need S' < need (.ok σ)
theorem Takes.bd {α β : Type} [Inhabited α] {F : PM α} {G : α → PM β} (h : Takes F) (g : ∀ x, Shr (G x)) : Takes (bnd F G) := fun σ y S' q => by
 obtain ⟨x, S1, h1, h2⟩ := Rel.unbind q;rcases h σ x S1 h1 with ⟨e, rfl⟩ | h3
 ·exact .inl ⟨e, h2⟩
 ·have := g x S1 y S' h2;exact .inr (by omega)
theorem Takes.after {α β : Type} [Inhabited α] {F : PM α} {G : α → PM β} (h : ∀ σ x S', Rel F (.ok σ) x S' → S' = .ok σ) (g : ∀ x, Takes (G x)) : Takes (bnd F G) := fun σ y S' q => by
 obtain ⟨x, S1, h1, h2⟩ := Rel.unbind q;have := h σ x S1 h1;subst this;exact g x σ y S' h2
theorem Takes.name : Takes nameT := fun σ x S' h => name_less h rfl
theorem Takes.take (s : Key) : Takes (takeT s) := fun σ x S' h => by
 by_cases hs : σ.now = .fixed s
 ·have := (need_take h).2 (decide_eq_true hs);right; omega
 ·exact .inl ⟨_, h.get_err (if_neg hs)⟩
theorem Takes.wrong {α : Type} : Takes (wrongT : PM α) := fun σ x S' h => .inl ⟨_, h.get_err (e := errT σ) rfl⟩
theorem Takes.fail {α : Type} (e : Int) : Takes (failT e : PM α) := fun σ x S' h => .inl ⟨_, h.get_err (e := e) rfl⟩
theorem Takes.ifT {α : Type} {c : Bool} {F G : PM α} (h : Takes F) (g : Takes G) : Takes (ifT c F G) := by cases c <;> assumption
theorem Takes.open (s : Key) : Takes (openT s) := fun σ x S' h => by
 by_cases hs : σ.now = .fixed s
 ·have := (need_open h).2 (decide_eq_true hs);right; omega
 ·have : openT s σ = .error (errT σ) := by simp [openT, Go.Proofs.YtpofgnlkhkednaaGreatDoor.bnd, isT, hs, pur, takeT]
  exact .inl ⟨_, h.get_err this⟩
theorem gift_shr (n : Nat) : Shr (gift n) := Shr.bnd Shr.name fun s => Shr.bnd (Shr.is _) fun c => Shr.ifT (Shr.bnd (inner_shr _ _ n) fun y => give_shr n _) (give_shr n _)
theorem gift_takes (n : Nat) : Takes (gift n) := Takes.bd Takes.name fun s => Shr.bnd (Shr.is _) fun c => Shr.ifT (Shr.bnd (inner_shr _ _ n) fun y => give_shr n _) (give_shr n _)
theorem step_shr : ∀ n, Shr (stepM n) ∧ Shr (wordM n) ∧ Shr (ifM n) ∧ Shr (whileM n) ∧ Shr (blockM n) ∧ ∀ l, Shr (stepsM n l) := by
 intro n
 induction n with
 | zero => exact ⟨Shr.fail _, Shr.fail _, Shr.fail _, Shr.fail _, Shr.fail _, fun _ => Shr.fail _⟩
 | succ n ih =>
  obtain ⟨h1, h2, h3, h4, h5, h6⟩ := ih;refine ⟨?_, ?_, ?_, ?_, ?_, fun l => ?_⟩
  ·refine Shr.at fun σ => ?_;rw [stepM]
   cases h : σ.now with
   | name s => exact ⟨_, gift_shr n, by simp only [h]⟩
   | num m => exact ⟨_, h2, by simp only [h]⟩
   | none => exact ⟨_, h2, by simp only [h]⟩
   | fin => exact ⟨_, h2, by simp only [h]⟩
   | fixed s => exact ⟨_, h2, by simp only [h]⟩
  ·rw [wordM];exact Shr.bnd (Shr.pick _) fun k => Shr.ite Shr.wrong (Shr.bnd Shr.next fun _ => Shr.ite h3 (Shr.ite h4 (Shr.ite (let_shr n) (Shr.ite (ask_shr n) (Shr.ite (pay_shr n) (one_shr n k))))))
  ·rw [ifM];exact Shr.bnd (expr_shr1 n 1) fun x => Shr.bnd h5 fun l => Shr.bnd (Shr.is _) fun c => Shr.ifT (Shr.bnd (Shr.take _) fun _ => Shr.bnd h5 fun m => Shr.pur _) (Shr.pur _)
  ·rw [whileM];exact Shr.bnd (expr_shr1 n 1) fun x => Shr.bnd h5 fun l => Shr.pur _
  ·rw [blockM];exact Shr.bnd (Shr.open _) fun _ => Shr.bnd (h6 []) fun l => Shr.bnd (Shr.shut _) fun _ => Shr.pur _
  ·rw [stepsM];exact Shr.bnd (Shr.is _) fun c => Shr.ifT (Shr.pur _) (Shr.bnd h1 fun s => h6 _)
theorem word_takes : ∀ n, Takes (wordM n)
 | 0 => Takes.fail _
 | n + 1 => fun σ x S' h => by
  rw [wordM] at h;obtain ⟨k, S1, h1, h2⟩ := Rel.unbind h;have e1 := h1.get_ok (y := pickI stepW (.ok σ)) (τ := σ) rfl;obtain ⟨e1, rfl⟩ := e1;subst e1
  by_cases hk : pickI stepW (.ok σ) = 0
  ·rw [if_pos hk] at h2;exact .inl ⟨_, h2.get_err (e := errT σ) rfl⟩
  ·rw [if_neg hk] at h2;obtain ⟨_, S2, h3, h4⟩ := Rel.unbind h2;have h3 := need_here h3 (Here.of_pick hk);obtain ⟨_, _, q3, q4, _, _⟩ := step_shr n;have := (Shr.ite q3 (Shr.ite q4 (Shr.ite (let_shr n) (Shr.ite (ask_shr n) (Shr.ite (pay_shr n) (one_shr n _)))))) _ _ _ h4;right; omega
theorem step_takes : ∀ n, Takes (stepM n)
 | 0 => Takes.fail _
 | n + 1 => fun σ x S' h => by
  cases hn : σ.now with
  | name s =>
   refine gift_takes n σ x S' ?_;unfold Rel at h ⊢;simp only [stepM, hn] at h;exact h
  | num m =>
   refine word_takes n σ x S' ?_;unfold Rel at h ⊢;simp only [stepM, hn] at h;exact h
  | none =>
   refine word_takes n σ x S' ?_;unfold Rel at h ⊢;simp only [stepM, hn] at h;exact h
  | fin =>
   refine word_takes n σ x S' ?_;unfold Rel at h ⊢;simp only [stepM, hn] at h;exact h
  | fixed s =>
   refine word_takes n σ x S' ?_;unfold Rel at h ⊢;simp only [stepM, hn] at h;exact h
theorem Kn.ifT_true {α : Type} {F A B : Nat → PM α} {S S1 : ES} {c : Bool} (k : Kn F S (fun n => ifT c (A n) (B n)) S1) (h : c = true) : Kn F S A S1 := by subst h; exact k
theorem Kn.ifT_false {α : Type} {F A B : Nat → PM α} {S S1 : ES} {c : Bool} (k : Kn F S (fun n => ifT c (A n) (B n)) S1) (h : c = false) : Kn F S B S1 := by subst h; exact k
theorem Kn.ite_pos {α : Type} {F A B : Nat → PM α} {S S1 : ES} {c : Prop} [Decidable c] (k : Kn F S (fun n => if c then A n else B n) S1) (h : c) : Kn F S A S1 := k.to fun n => if_pos h
theorem Kn.ite_neg {α : Type} {F A B : Nat → PM α} {S S1 : ES} {c : Prop} [Decidable c] (k : Kn F S (fun n => if c then A n else B n) S1) (h : ¬ c) : Kn F S B S1 := k.to fun n => if_neg h
def tbP (s : Key) (k j : Int) : EV := [.s s, .i k, .i j]
def tableT : PM EV := bnd (takeT kMap) fun _ => bnd nameT fun s => bnd (takeT [58]) fun _ => bnd kindT fun k => bnd (takeT [45, 62]) fun _ => bnd kindT fun j => bnd (takeT [59]) fun _ => pur (tbP s k j)
abbrev CT := List EV × List EV × List EV
def itemM (n : Nat) (c : CT) : PM CT :=
 bnd (isT kSlot) fun a => ifT a (bnd (roomT ((c.1.length : Int) + (c.2.1.length : Int)) 32) fun _ => bnd (takeT kSlot) fun _ => bnd paramT fun p => bnd (takeT [59]) fun _ => pur (c.1 ++ [paP p], c.2.1, c.2.2))
  (bnd (isT kMap) fun a => ifT a (bnd (roomT ((c.1.length : Int) + (c.2.1.length : Int)) 32) fun _ => bnd tableT fun t => pur (c.1, c.2.1 ++ [t], c.2.2))
   (bnd (isT kFn) fun a => ifT a (bnd (roomT (c.2.2.length : Int) 32) fun _ => bnd (fnM n) fun f => pur (c.1, c.2.1, c.2.2 ++ [f]))
    (bnd (isT kOpen) fun a => ifT a (bnd (roomT (c.2.2.length : Int) 32) fun _ => bnd (fnM n) fun f => pur (c.1, c.2.1, c.2.2 ++ [f])) wrongT)))
def itemsM : Nat → CT → PM CT
 | 0, _ => failT 0
 | n + 1, c => bnd (isT [125]) fun e => ifT e (pur c) (bnd (itemM n c) fun c => itemsM n c)
def ctP (s : Key) (c : CT) : EV := [.s s, .l c.1, .l c.2.1, .l c.2.2]
def contractM (n : Nat) : PM EV := bnd (takeT kContract) fun _ => bnd nameT fun s => bnd (takeT [123]) fun _ => bnd (itemsM n ([], [], [])) fun c => bnd (takeT [125]) fun _ => pur (ctP s c)
def endT : PM Unit := fun σ => if σ.now = .fin then .ok ((), σ) else .error 4
def parseM (n : Nat) : PM EV := bnd nextT fun _ => bnd (contractM n) fun x => bnd endT fun _ => pur x
theorem param_shr : Shr paramT := Shr.bnd Shr.name fun s => Shr.bnd (Shr.take _) fun _ => Shr.bnd Shr.kind fun k => Shr.pur _
theorem pars_shr : ∀ n l, Shr (parsM n l)
 | 0, _ => Shr.fail _
 | n + 1, l => by
  rw [parsM];exact Shr.bnd (Shr.is _) fun c => Shr.ifT (Shr.bnd (Shr.room _ _) fun _ => Shr.bnd (Shr.take _) fun _ => Shr.bnd param_shr fun p => pars_shr n _) (Shr.pur _)
theorem params_shr (n : Nat) : Shr (paramsM n) := Shr.bnd (Shr.is _) fun c => Shr.ifT (Shr.pur _) (Shr.bnd param_shr fun p => pars_shr n _)
theorem Takes.room {n m : Int} {α : Type} [Inhabited α] {G : Unit → PM α} (g : ∀ x, Takes (G x)) : Takes (Go.Proofs.YtpofgnlkhkednaaGreatDoor.bnd (roomT n m) G) := fun σ y S' q => by
 obtain ⟨⟨⟩, S1, h1, h2⟩ := Rel.unbind q;unfold roomT at h1
 split at h1
 ·have := h1.get_err (e := 3) rfl;subst this;exact .inl ⟨3, h2⟩
 ·have := need_pur h1;subst this;exact g () σ y S' h2
theorem Takes.is {s : Key} {α : Type} [Inhabited α] {G : Bool → PM α} (g : ∀ x, Takes (G x)) : Takes (Go.Proofs.YtpofgnlkhkednaaGreatDoor.bnd (isT s) G) := Takes.after (fun σ x S' h => h.stay) g
theorem Takes.opt {o : Bool} {s : Key} {α : Type} [Inhabited α] {G : PM α} (g : Takes G) : Takes (Go.Proofs.YtpofgnlkhkednaaGreatDoor.bnd (Go.Proofs.YtpofgnlkhkednaaGreatDoor.ifT o (takeT s) (pur ())) fun _ => G) := fun σ y S' q => by
 obtain ⟨⟨⟩, S1, h1, h2⟩ := Rel.unbind q;have h3 : need S1 ≤ need (.ok σ) := (Shr.ifT (c := o) (Shr.take s) (Shr.pur ())) _ _ _ h1
 cases S1 with
 | error e => exact .inl ⟨e, h2⟩
 | ok τ =>
  rcases g τ y S' h2 with q | q
  ·exact .inl q
  ·exact .inr (by omega)
theorem fn_takes (n : Nat) : Takes (fnM n) := Takes.is fun o => Takes.opt (Takes.bd (Takes.take _) fun _ => Shr.bnd Shr.name fun s => Shr.bnd (Shr.take _) fun _ => Shr.bnd (params_shr n) fun l => Shr.bnd (Shr.take _) fun _ => Shr.bnd (Shr.take _) fun _ => Shr.bnd Shr.kind fun k => Shr.bnd (step_shr n).2.2.2.2.1 fun b => Shr.pur _)
theorem item_takes (c : CT) (n : Nat) : Takes (itemM n c) :=
 Takes.is fun a => Takes.ifT (Takes.room fun _ => Takes.bd (Takes.take _) fun _ => Shr.bnd param_shr fun p => Shr.bnd (Shr.take _) fun _ => Shr.pur _)
  (Takes.is fun a => Takes.ifT (Takes.room fun _ => Takes.bd (Takes.bd (Takes.take _) fun _ => Shr.bnd Shr.name fun s => Shr.bnd (Shr.take _) fun _ => Shr.bnd Shr.kind fun k => Shr.bnd (Shr.take _) fun _ => Shr.bnd Shr.kind fun j => Shr.bnd (Shr.take _) fun _ => Shr.pur _) fun t => Shr.pur _)
   (Takes.is fun a => Takes.ifT (Takes.room fun _ => Takes.bd (fn_takes n) fun f => Shr.pur _) (Takes.is fun a => Takes.ifT (Takes.room fun _ => Takes.bd (fn_takes n) fun f => Shr.pur _) Takes.wrong)))
def Has {α : Type} (Q : α → Prop) (F : PM α) : Prop := ∀ σ x τ, F σ = .ok (x, τ) → Q x
theorem Has.bd {α β : Type} {R : α → Prop} {Q : β → Prop} {F : PM α} {G : α → PM β} (h : Has R F) (g : ∀ x, R x → Has Q (G x)) : Has Q (bnd F G) := fun σ y τ e => by
 cases hF : F σ with
 | error er => simp only [bnd, hF] at e; cases e
 | ok p =>
  obtain ⟨x, σ'⟩ := p;simp only [bnd, hF] at e;exact g x (h σ x σ' hF) σ' y τ e
theorem Has.nx {α β : Type} {Q : β → Prop} {F : PM α} {G : α → PM β} (g : ∀ x, Has Q (G x)) : Has Q (bnd F G) := Has.bd (R := fun _ => True) (fun _ _ _ _ => trivial) fun x _ => g x
theorem Has.pr {α : Type} {Q : α → Prop} {x : α} (h : Q x) : Has Q (pur x) := fun σ y τ e => by
 have e : Except.ok (x, σ) = Except.ok (y, τ) := e;injection e with e
 injection e with e _
 subst e;exact h
theorem Has.fl {α : Type} {Q : α → Prop} {e : Int} : Has Q (failT e : PM α) := fun σ y τ q => by cases q
theorem Has.wr {α : Type} {Q : α → Prop} : Has Q (wrongT : PM α) := fun σ y τ q => by cases q
theorem Has.it {α : Type} {Q : α → Prop} {c : Prop} [Decidable c] {F G : PM α} (h : Has Q F) (g : Has Q G) : Has Q (if c then F else G) := by
 by_cases q : c
 ·rw [if_pos q]; exact h
 ·rw [if_neg q]; exact g
theorem Has.iT {α : Type} {Q : α → Prop} {c : Bool} {F G : PM α} (h : Has Q F) (g : Has Q G) : Has Q (ifT c F G) := by cases c <;> assumption
theorem Has.at {α : Type} {Q : α → Prop} {F : PM α} (h : ∀ σ, ∃ G : PM α, Has Q G ∧ G σ = F σ) : Has Q F := fun σ x τ e => by
 obtain ⟨G, hG, q⟩ := h σ;exact hG σ x τ (q.trans e)
theorem Has.rv {α : Type} {Q : α → Prop} {F : Nat → PM α} {S : ES} {x : α} {σ : St} (h : Rv F S x (.ok σ)) (k : ∀ n, Has Q (F n)) : Q x := by
 obtain ⟨n, h⟩ := h;have h := h n (Nat.le_refl _)
 cases S with
 | error e => cases (show Except.ok σ = Except.error e from h)
 | ok τ =>
  cases hF : F n τ with
  | error e => cases h.get_err hF
  | ok p =>
   obtain ⟨y, τ'⟩ := p;rw [(h.get_ok hF).1];exact k n τ y τ' hF
inductive ShE : EV → Prop where
 | mk (op n : Int) (s : Key) (es : List EV) : (∀ e ∈ es, ShE e) → ShE (exP op n s es)
def ShL (l : List EV) : Prop := ∀ e ∈ l, ShE e
theorem ShL.nil : ShL [] := fun e h => by cases h
theorem ShL.one {x : EV} (h : ShE x) : ShL [x] := fun e q => by rw [List.mem_singleton.1 q]; exact h
theorem ShL.two {x y : EV} (h : ShE x) (g : ShE y) : ShL [x, y] := fun e q => by
 rcases List.mem_cons.1 q with rfl | q
 ·exact h
 ·rw [List.mem_singleton.1 q]; exact g
theorem ShL.app {l : List EV} {x : EV} (h : ShL l) (g : ShE x) : ShL (l ++ [x]) := fun e q => by
 rcases List.mem_append.1 q with q | q
 ·exact h e q
 ·rw [List.mem_singleton.1 q]; exact g
theorem expr_has : ∀ n, (∀ r, Has ShE (exprT n r)) ∧ (∀ r x, ShE x → Has ShE (loopT n r x)) ∧ Has ShE (notT n) ∧ (∀ o c, Has ShE (innerT n o c)) ∧ Has ShL (commaT n) ∧ (∀ l, ShL l → Has ShL (moreT n l)) ∧ Has ShL (argsT n) ∧ Has ShE (namedT n) ∧ Has ShE (wordT n) ∧ Has ShE (atomT n) := by
 intro n
 induction n with
 | zero => exact ⟨fun _ => Has.fl, fun _ _ _ => Has.fl, Has.fl, fun _ _ => Has.fl, Has.fl, fun _ _ => Has.fl, Has.fl, Has.fl, Has.fl, Has.fl⟩
 | succ n ih =>
  obtain ⟨h1, h2, h3, h4, h5, h6, h7, h8, h9, h10⟩ := ih;refine ⟨fun r => ?_, fun r x hx => ?_, ?_, fun o c => ?_, ?_, fun l hl => ?_, ?_, ?_, ?_, ?_⟩
  ·rw [exprT];exact Has.it h10 (Has.it (Has.nx fun c => Has.it h3 (h1 _)) (Has.bd (h1 _) fun x hx => h2 _ x hx))
  ·rw [loopT];exact Has.nx fun op => Has.it (Has.pr hx) (Has.nx fun _ => Has.bd (h1 _) fun y hy => Has.it (Has.pr (ShE.mk _ _ _ _ (ShL.two hx hy))) (h2 _ _ (ShE.mk _ _ _ _ (ShL.two hx hy))))
  ·rw [notT];exact Has.nx fun _ => Has.nx fun _ => Has.bd (h1 _) fun x hx => Has.nx fun _ => Has.pr (ShE.mk _ _ _ _ (ShL.one hx))
  ·rw [innerT];exact Has.nx fun _ => Has.bd (h1 _) fun x hx => Has.nx fun _ => Has.pr hx
  ·rw [commaT];exact Has.nx fun c => Has.it (Has.pr ShL.nil) (Has.bd (h1 _) fun x hx => h6 _ (ShL.one hx))
  ·rw [moreT];exact Has.nx fun c => Has.it (Has.nx fun _ => Has.nx fun _ => Has.bd (h1 _) fun x hx => h6 _ (hl.app hx)) (Has.pr hl)
  ·rw [argsT];exact Has.nx fun _ => Has.bd h5 fun l hl => Has.nx fun _ => Has.pr hl
  ·rw [namedT];exact Has.nx fun s => Has.nx fun c => Has.it (Has.bd (h4 _ _) fun y hy => Has.pr (ShE.mk _ _ _ _ (ShL.one hy))) (Has.nx fun d => Has.it (Has.bd h7 fun l hl => Has.pr (ShE.mk _ _ _ _ hl)) (Has.pr (ShE.mk _ _ _ _ ShL.nil)))
  ·rw [wordT];exact Has.nx fun c => Has.it (h4 _ _) (Has.nx fun c => Has.it (Has.nx fun _ => Has.pr (ShE.mk _ _ _ _ ShL.nil)) (Has.nx fun c => Has.it (Has.nx fun _ => Has.pr (ShE.mk _ _ _ _ ShL.nil)) (Has.nx fun op => Has.it Has.wr (Has.nx fun _ => Has.it (Has.bd (h4 _ _) fun y hy => Has.pr (ShE.mk _ _ _ _ (ShL.one hy))) (Has.pr (ShE.mk _ _ _ _ ShL.nil))))))
  ·refine Has.at fun σ => ?_;rw [atomT]
   cases h : σ.now with
   | num m => exact ⟨_, Has.nx (F := nextT) fun _ => Has.pr (ShE.mk 1 m [] [] ShL.nil), by simp only [h]⟩
   | name s => exact ⟨_, h8, by simp only [h]⟩
   | none => exact ⟨_, h9, by simp only [h]⟩
   | fin => exact ⟨_, h9, by simp only [h]⟩
   | fixed s => exact ⟨_, h9, by simp only [h]⟩
theorem expr_has1 (n : Nat) (r : Int) : Has ShE (exprT n r) := (expr_has n).1 r
theorem inner_has (n : Nat) (o c : Key) : Has ShE (innerT n o c) := (expr_has n).2.2.2.1 o c
theorem args_has (n : Nat) : Has ShL (argsT n) := (expr_has n).2.2.2.2.2.2.1
inductive ShS : EV → Prop where
 | mk (k : Int) (nm al ca : Key) (ty : Int) (es bs ls : List EV) : ShL es → (∀ s ∈ bs, ShS s) → (∀ s ∈ ls, ShS s) → ShS (stP k nm al ca ty es bs ls)
def ShB (l : List EV) : Prop := ∀ s ∈ l, ShS s
theorem ShB.nil : ShB [] := fun e h => by cases h
theorem ShB.app {l : List EV} {x : EV} (h : ShB l) (g : ShS x) : ShB (l ++ [x]) := fun e q => by
 rcases List.mem_append.1 q with q | q
 ·exact h e q
 ·rw [List.mem_singleton.1 q]; exact g
theorem semi_has {x : EV} (h : ShS x) : Has ShS (semiT x) := Has.nx fun _ => Has.pr h
theorem give_has (n : Nat) {f : EV → EV} (h : ∀ x, ShE x → ShS (f x)) : Has ShS (giveT n f) := Has.nx fun _ => Has.bd (expr_has1 n 1) fun x hx => semi_has (h x hx)
theorem sh_plain {k : Int} {a b c : Key} {t : Int} {es : List EV} (h : ShL es) : ShS (stP k a b c t es [] []) := ShS.mk _ _ _ _ _ _ _ _ h ShB.nil ShB.nil
theorem gift_has (n : Nat) : Has ShS (gift n) := Has.nx fun s => Has.nx fun c => Has.iT (Has.bd (inner_has n _ _) fun y hy => give_has n fun x hx => sh_plain (ShL.two hy hx)) (give_has n fun x hx => sh_plain (ShL.one hx))
theorem let_has (n : Nat) : Has ShS (letM n) := Has.nx fun s => Has.nx fun _ => Has.nx fun k => give_has n fun x hx => sh_plain (ShL.one hx)
theorem ask_has (n : Nat) : Has ShS (askM n) := Has.nx fun s => Has.nx fun _ => Has.nx fun t => Has.nx fun _ => Has.bd (expr_has1 n 1) fun x hx => Has.nx fun _ => Has.nx fun u => Has.bd (args_has n) fun l hl => Has.nx fun _ => Has.bd (expr_has1 n 1) fun y hy => Has.nx fun _ => Has.bd (expr_has1 n 1) fun z hz => semi_has (sh_plain fun e q => by
 rcases List.mem_cons.1 q with rfl | q
 ·exact hx
 rcases List.mem_cons.1 q with rfl | q
 ·exact hy
 rcases List.mem_cons.1 q with rfl | q
 ·exact hz
 ·exact hl e q)
theorem pay_has (n : Nat) : Has ShS (payM n) := Has.bd (expr_has1 n 1) fun x hx => Has.nx fun _ => Has.bd (expr_has1 n 1) fun y hy => semi_has (sh_plain (ShL.two hx hy))
theorem one_has (n : Nat) (k : Int) : Has ShS (oneM n k) := Has.bd (expr_has1 n 1) fun x hx => semi_has (sh_plain (ShL.one hx))
theorem step_has : ∀ n, Has ShS (stepM n) ∧ Has ShS (wordM n) ∧ Has ShS (ifM n) ∧ Has ShS (whileM n) ∧ Has ShB (blockM n) ∧ ∀ l, ShB l → Has ShB (stepsM n l) := by
 intro n
 induction n with
 | zero => exact ⟨Has.fl, Has.fl, Has.fl, Has.fl, Has.fl, fun _ _ => Has.fl⟩
 | succ n ih =>
  obtain ⟨h1, h2, h3, h4, h5, h6⟩ := ih;refine ⟨?_, ?_, ?_, ?_, ?_, fun l hl => ?_⟩
  ·refine Has.at fun σ => ?_;rw [stepM]
   cases h : σ.now with
   | name s => exact ⟨_, gift_has n, by simp only [h]⟩
   | num m => exact ⟨_, h2, by simp only [h]⟩
   | none => exact ⟨_, h2, by simp only [h]⟩
   | fin => exact ⟨_, h2, by simp only [h]⟩
   | fixed s => exact ⟨_, h2, by simp only [h]⟩
  ·rw [wordM];exact Has.nx fun k => Has.it Has.wr (Has.nx fun _ => Has.it h3 (Has.it h4 (Has.it (let_has n) (Has.it (ask_has n) (Has.it (pay_has n) (one_has n k))))))
  ·rw [ifM];exact Has.bd (expr_has1 n 1) fun x hx => Has.bd h5 fun l hl => Has.nx fun c => Has.iT (Has.nx fun _ => Has.bd h5 fun m hm => Has.pr (ShS.mk _ _ _ _ _ _ _ _ (ShL.one hx) hl hm)) (Has.pr (ShS.mk _ _ _ _ _ _ _ _ (ShL.one hx) hl ShB.nil))
  ·rw [whileM];exact Has.bd (expr_has1 n 1) fun x hx => Has.bd h5 fun l hl => Has.pr (ShS.mk _ _ _ _ _ _ _ _ (ShL.one hx) hl ShB.nil)
  ·rw [blockM];exact Has.nx fun _ => Has.bd (h6 [] ShB.nil) fun l hl => Has.nx fun _ => Has.pr hl
  ·rw [stepsM];exact Has.nx fun c => Has.iT (Has.pr hl) (Has.bd h1 fun s hs => h6 _ (hl.app hs))
def ShP (x : EV) : Prop := ∃ s k, x = [.s s, .i k]
def ShT (x : EV) : Prop := ∃ s k j, x = [.s s, .i k, .i j]
def ShF (x : EV) : Prop := ∃ s o ps k b, x = fnP s o ps k b ∧ (∀ p ∈ ps, ShP p) ∧ ShB b
def ShC (x : EV) : Prop := ∃ s l m r, x = ctP s (l, m, r) ∧ (∀ p ∈ l, ShP p) ∧ (∀ t ∈ m, ShT t) ∧ ∀ f ∈ r, ShF f
def AllP {α : Type} (Q : α → Prop) (l : List α) : Prop := ∀ x ∈ l, Q x
theorem AllP.nil {α : Type} {Q : α → Prop} : AllP Q [] := fun e h => by cases h
theorem AllP.one {α : Type} {Q : α → Prop} {x : α} (g : Q x) : AllP Q [x] := fun e q => by rw [List.mem_singleton.1 q]; exact g
theorem AllP.app {α : Type} {Q : α → Prop} {l : List α} {x : α} (h : AllP Q l) (g : Q x) : AllP Q (l ++ [x]) := fun e q => by
 rcases List.mem_append.1 q with q | q
 ·exact h e q
 ·rw [List.mem_singleton.1 q]; exact g
theorem pars_has : ∀ n l, AllP ShP l → Has (AllP ShP) (parsM n l)
 | 0, _, _ => Has.fl
 | n + 1, l, hl => by
  rw [parsM];exact Has.nx fun c => Has.iT (Has.nx fun _ => Has.nx fun _ => Has.nx fun p => pars_has n _ (hl.app ⟨p.1, p.2, rfl⟩)) (Has.pr hl)
theorem params_has (n : Nat) : Has (AllP ShP) (paramsM n) := Has.nx fun c => Has.iT (Has.pr AllP.nil) (Has.nx fun p => pars_has n _ (AllP.one ⟨p.1, p.2, rfl⟩))
theorem fn_has (n : Nat) : Has ShF (fnM n) := Has.nx fun o => Has.nx fun _ => Has.nx fun _ => Has.nx fun s => Has.nx fun _ => Has.bd (params_has n) fun l hl => Has.nx fun _ => Has.nx fun _ => Has.nx fun k => Has.bd (step_has n).2.2.2.2.1 fun b hb => Has.pr ⟨s, o, l, k, b, rfl, hl, hb⟩
theorem table_has : Has ShT tableT := Has.nx fun _ => Has.nx fun s => Has.nx fun _ => Has.nx fun k => Has.nx fun _ => Has.nx fun j => Has.nx fun _ => Has.pr ⟨s, k, j, rfl⟩
def ShI (c : CT) : Prop := AllP ShP c.1 ∧ AllP ShT c.2.1 ∧ AllP ShF c.2.2
theorem item_has (n : Nat) (c : CT) (h : ShI c) : Has ShI (itemM n c) := by
 obtain ⟨h1, h2, h3⟩ := h
 exact Has.nx fun a => Has.iT (Has.nx fun _ => Has.nx fun _ => Has.nx fun p => Has.nx fun _ => Has.pr ⟨h1.app ⟨p.1, p.2, rfl⟩, h2, h3⟩)
  (Has.nx fun a => Has.iT (Has.nx fun _ => Has.bd table_has fun t ht => Has.pr ⟨h1, h2.app ht, h3⟩)
   (Has.nx fun a => Has.iT (Has.nx fun _ => Has.bd (fn_has n) fun f hf => Has.pr ⟨h1, h2, h3.app hf⟩) (Has.nx fun a => Has.iT (Has.nx fun _ => Has.bd (fn_has n) fun f hf => Has.pr ⟨h1, h2, h3.app hf⟩) Has.wr)))
theorem items_has : ∀ n c, ShI c → Has ShI (itemsM n c)
 | 0, _, _ => Has.fl
 | n + 1, c, h => by
  rw [itemsM];exact Has.nx fun e => Has.iT (Has.pr h) (Has.bd (item_has n c h) fun c hc => items_has n c hc)
theorem parse_has (n : Nat) : Has ShC (parseM n) := Has.nx fun _ => Has.bd (R := ShC) (Has.nx fun _ => Has.nx fun s => Has.nx fun _ => Has.bd (items_has n _ ⟨AllP.nil, AllP.nil, AllP.nil⟩) fun c hc => Has.nx fun _ => Has.pr ⟨s, c.1, c.2.1, c.2.2, rfl, hc.1, hc.2.1, hc.2.2⟩) fun x hx => Has.nx fun _ => Has.pr hx
end Go.Proofs.YtpofgnlkhkednaaGreatDoor
