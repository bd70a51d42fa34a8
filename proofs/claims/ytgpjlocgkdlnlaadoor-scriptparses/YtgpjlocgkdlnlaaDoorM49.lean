/- The shapes of what is read (no program). -/
import Derived.Test.YtgpjlocgkdlnlaaDoorM22
import Derived.Test.YtgpjlocgkdlnlaaDoorSRpar
import Derived.Test.YtgpjlocgkdlnlaaDoorM29

namespace Go.Proofs.YtgpjlocgkdlnlaaDoor
open Go.RowKit
set_option linter.unusedVariables false
set_option linter.unusedSimpArgs false

/-- Whatever is read, it is so. -/
def Has {α : Type} (Q : α → Prop) (F : PM α) : Prop := ∀ σ x τ, F σ = .ok (x, τ) → Q x
theorem Has.bd {α β : Type} {R : α → Prop} {Q : β → Prop} {F : PM α} {G : α → PM β} (h : Has R F) (g : ∀ x, R x → Has Q (G x)) : Has Q (bnd F G) := fun σ y τ e => by
  cases hF : F σ with
  | error er => simp only [bnd, hF] at e; cases e
  | ok p =>
    obtain ⟨x, σ'⟩ := p
    simp only [bnd, hF] at e
    exact g x (h σ x σ' hF) σ' y τ e
theorem Has.nx {α β : Type} {Q : β → Prop} {F : PM α} {G : α → PM β} (g : ∀ x, Has Q (G x)) : Has Q (bnd F G) := Has.bd (R := fun _ => True) (fun _ _ _ _ => trivial) fun x _ => g x
theorem Has.pr {α : Type} {Q : α → Prop} {x : α} (h : Q x) : Has Q (pur x) := fun σ y τ e => by
  have e : Except.ok (x, σ) = Except.ok (y, τ) := e
  injection e with e
  injection e with e _
  subst e
  exact h
theorem Has.fl {α : Type} {Q : α → Prop} {e : Int} : Has Q (failT e : PM α) := fun σ y τ q => by cases q
theorem Has.wr {α : Type} {Q : α → Prop} : Has Q (wrongT : PM α) := fun σ y τ q => by cases q
theorem Has.it {α : Type} {Q : α → Prop} {c : Prop} [Decidable c] {F G : PM α} (h : Has Q F) (g : Has Q G) : Has Q (if c then F else G) := by
  by_cases q : c
  · rw [if_pos q]; exact h
  · rw [if_neg q]; exact g
theorem Has.iT {α : Type} {Q : α → Prop} {c : Bool} {F G : PM α} (h : Has Q F) (g : Has Q G) : Has Q (ifT c F G) := by cases c <;> assumption
theorem Has.at {α : Type} {Q : α → Prop} {F : PM α} (h : ∀ σ, ∃ G : PM α, Has Q G ∧ G σ = F σ) : Has Q F := fun σ x τ e => by
  obtain ⟨G, hG, q⟩ := h σ
  exact hG σ x τ (q.trans e)
theorem Has.rv {α : Type} {Q : α → Prop} {F : Nat → PM α} {S : ES} {x : α} {σ : St} (h : Rv F S x (.ok σ)) (k : ∀ n, Has Q (F n)) : Q x := by
  obtain ⟨n, h⟩ := h
  have h := h n (Nat.le_refl _)
  cases S with
  | error e => cases (show Except.ok σ = Except.error e from h)
  | ok τ =>
    cases hF : F n τ with
    | error e => cases h.get_err hF
    | ok p =>
      obtain ⟨y, τ'⟩ := p
      rw [(h.get_ok hF).1]
      exact k n τ y τ' hF
/-- An expression's shape. -/
inductive ShE : EV → Prop where
  | mk (op n : Int) (s : Key) (es : List EV) : (∀ e ∈ es, ShE e) → ShE (exP op n s es)
def ShL (l : List EV) : Prop := ∀ e ∈ l, ShE e
theorem ShL.nil : ShL [] := fun e h => by cases h
theorem ShL.one {x : EV} (h : ShE x) : ShL [x] := fun e q => by rw [List.mem_singleton.1 q]; exact h
theorem ShL.two {x y : EV} (h : ShE x) (g : ShE y) : ShL [x, y] := fun e q => by
  rcases List.mem_cons.1 q with rfl | q
  · exact h
  · rw [List.mem_singleton.1 q]; exact g
theorem ShL.app {l : List EV} {x : EV} (h : ShL l) (g : ShE x) : ShL (l ++ [x]) := fun e q => by
  rcases List.mem_append.1 q with q | q
  · exact h e q
  · rw [List.mem_singleton.1 q]; exact g
theorem expr_has : ∀ n, (∀ r, Has ShE (exprT n r)) ∧ (∀ r x, ShE x → Has ShE (loopT n r x)) ∧ Has ShE (notT n) ∧ (∀ o c, Has ShE (innerT n o c)) ∧ Has ShL (commaT n) ∧ (∀ l, ShL l → Has ShL (moreT n l)) ∧ Has ShL (argsT n) ∧ Has ShE (namedT n) ∧ Has ShE (wordT n) ∧ Has ShE (atomT n) := by
  intro n
  induction n with
  | zero => exact ⟨fun _ => Has.fl, fun _ _ _ => Has.fl, Has.fl, fun _ _ => Has.fl, Has.fl, fun _ _ => Has.fl, Has.fl, Has.fl, Has.fl, Has.fl⟩
  | succ n ih =>
    obtain ⟨h1, h2, h3, h4, h5, h6, h7, h8, h9, h10⟩ := ih
    refine ⟨fun r => ?_, fun r x hx => ?_, ?_, fun o c => ?_, ?_, fun l hl => ?_, ?_, ?_, ?_, ?_⟩
    · rw [exprT]
      exact Has.it h10 (Has.it (Has.nx fun c => Has.it h3 (h1 _)) (Has.bd (h1 _) fun x hx => h2 _ x hx))
    · rw [loopT]
      exact Has.nx fun op => Has.it (Has.pr hx) (Has.nx fun _ => Has.bd (h1 _) fun y hy => Has.it (Has.pr (ShE.mk _ _ _ _ (ShL.two hx hy))) (h2 _ _ (ShE.mk _ _ _ _ (ShL.two hx hy))))
    · rw [notT]
      exact Has.nx fun _ => Has.nx fun _ => Has.bd (h1 _) fun x hx => Has.nx fun _ => Has.pr (ShE.mk _ _ _ _ (ShL.one hx))
    · rw [innerT]
      exact Has.nx fun _ => Has.bd (h1 _) fun x hx => Has.nx fun _ => Has.pr hx
    · rw [commaT]
      exact Has.nx fun c => Has.it (Has.pr ShL.nil) (Has.bd (h1 _) fun x hx => h6 _ (ShL.one hx))
    · rw [moreT]
      exact Has.nx fun c => Has.it (Has.nx fun _ => Has.nx fun _ => Has.bd (h1 _) fun x hx => h6 _ (hl.app hx)) (Has.pr hl)
    · rw [argsT]
      exact Has.nx fun _ => Has.bd h5 fun l hl => Has.nx fun _ => Has.pr hl
    · rw [namedT]
      exact Has.nx fun s => Has.nx fun c => Has.it (Has.bd (h4 _ _) fun y hy => Has.pr (ShE.mk _ _ _ _ (ShL.one hy))) (Has.nx fun d => Has.it (Has.bd h7 fun l hl => Has.pr (ShE.mk _ _ _ _ hl)) (Has.pr (ShE.mk _ _ _ _ ShL.nil)))
    · rw [wordT]
      exact Has.nx fun c => Has.it (h4 _ _) (Has.nx fun c => Has.it (Has.nx fun _ => Has.pr (ShE.mk _ _ _ _ ShL.nil)) (Has.nx fun c => Has.it (Has.nx fun _ => Has.pr (ShE.mk _ _ _ _ ShL.nil)) (Has.nx fun op => Has.it Has.wr (Has.nx fun _ => Has.it (Has.bd (h4 _ _) fun y hy => Has.pr (ShE.mk _ _ _ _ (ShL.one hy))) (Has.pr (ShE.mk _ _ _ _ ShL.nil))))))
    · refine Has.at fun σ => ?_
      rw [atomT]
      cases h : σ.now with
      | num m => exact ⟨_, Has.nx (F := nextT) fun _ => Has.pr (ShE.mk 1 m [] [] ShL.nil), by simp only [h]⟩
      | name s => exact ⟨_, h8, by simp only [h]⟩
      | none => exact ⟨_, h9, by simp only [h]⟩
      | fin => exact ⟨_, h9, by simp only [h]⟩
      | fixed s => exact ⟨_, h9, by simp only [h]⟩
theorem expr_has1 (n : Nat) (r : Int) : Has ShE (exprT n r) := (expr_has n).1 r
theorem inner_has (n : Nat) (o c : Key) : Has ShE (innerT n o c) := (expr_has n).2.2.2.1 o c
theorem args_has (n : Nat) : Has ShL (argsT n) := (expr_has n).2.2.2.2.2.2.1
/-- A statement's shape. -/
inductive ShS : EV → Prop where
  | mk (k : Int) (nm al ca : Key) (ty : Int) (es bs ls : List EV) : ShL es → (∀ s ∈ bs, ShS s) → (∀ s ∈ ls, ShS s) → ShS (stP k nm al ca ty es bs ls)
def ShB (l : List EV) : Prop := ∀ s ∈ l, ShS s
theorem ShB.nil : ShB [] := fun e h => by cases h
theorem ShB.app {l : List EV} {x : EV} (h : ShB l) (g : ShS x) : ShB (l ++ [x]) := fun e q => by
  rcases List.mem_append.1 q with q | q
  · exact h e q
  · rw [List.mem_singleton.1 q]; exact g
theorem semi_has {x : EV} (h : ShS x) : Has ShS (semiT x) := Has.nx fun _ => Has.pr h
theorem give_has (n : Nat) {f : EV → EV} (h : ∀ x, ShE x → ShS (f x)) : Has ShS (giveT n f) := Has.nx fun _ => Has.bd (expr_has1 n 1) fun x hx => semi_has (h x hx)
theorem sh_plain {k : Int} {a b c : Key} {t : Int} {es : List EV} (h : ShL es) : ShS (stP k a b c t es [] []) := ShS.mk _ _ _ _ _ _ _ _ h ShB.nil ShB.nil
theorem gift_has (n : Nat) : Has ShS (gift n) := Has.nx fun s => Has.nx fun c => Has.iT (Has.bd (inner_has n _ _) fun y hy => give_has n fun x hx => sh_plain (ShL.two hy hx)) (give_has n fun x hx => sh_plain (ShL.one hx))
theorem let_has (n : Nat) : Has ShS (letM n) := Has.nx fun s => Has.nx fun _ => Has.nx fun k => give_has n fun x hx => sh_plain (ShL.one hx)
theorem ask_has (n : Nat) : Has ShS (askM n) := Has.nx fun s => Has.nx fun _ => Has.nx fun t => Has.nx fun _ => Has.bd (expr_has1 n 1) fun x hx => Has.nx fun _ => Has.nx fun u => Has.bd (args_has n) fun l hl => Has.nx fun _ => Has.bd (expr_has1 n 1) fun y hy => Has.nx fun _ => Has.bd (expr_has1 n 1) fun z hz => semi_has (sh_plain fun e q => by
  rcases List.mem_cons.1 q with rfl | q
  · exact hx
  rcases List.mem_cons.1 q with rfl | q
  · exact hy
  rcases List.mem_cons.1 q with rfl | q
  · exact hz
  · exact hl e q)
theorem pay_has (n : Nat) : Has ShS (payM n) := Has.bd (expr_has1 n 1) fun x hx => Has.nx fun _ => Has.bd (expr_has1 n 1) fun y hy => semi_has (sh_plain (ShL.two hx hy))
theorem one_has (n : Nat) (k : Int) : Has ShS (oneM n k) := Has.bd (expr_has1 n 1) fun x hx => semi_has (sh_plain (ShL.one hx))
theorem step_has : ∀ n, Has ShS (stepM n) ∧ Has ShS (wordM n) ∧ Has ShS (ifM n) ∧ Has ShS (whileM n) ∧ Has ShB (blockM n) ∧ ∀ l, ShB l → Has ShB (stepsM n l) := by
  intro n
  induction n with
  | zero => exact ⟨Has.fl, Has.fl, Has.fl, Has.fl, Has.fl, fun _ _ => Has.fl⟩
  | succ n ih =>
    obtain ⟨h1, h2, h3, h4, h5, h6⟩ := ih
    refine ⟨?_, ?_, ?_, ?_, ?_, fun l hl => ?_⟩
    · refine Has.at fun σ => ?_
      rw [stepM]
      cases h : σ.now with
      | name s => exact ⟨_, gift_has n, by simp only [h]⟩
      | num m => exact ⟨_, h2, by simp only [h]⟩
      | none => exact ⟨_, h2, by simp only [h]⟩
      | fin => exact ⟨_, h2, by simp only [h]⟩
      | fixed s => exact ⟨_, h2, by simp only [h]⟩
    · rw [wordM]
      exact Has.nx fun k => Has.it Has.wr (Has.nx fun _ => Has.it h3 (Has.it h4 (Has.it (let_has n) (Has.it (ask_has n) (Has.it (pay_has n) (one_has n k))))))
    · rw [ifM]
      exact Has.bd (expr_has1 n 1) fun x hx => Has.bd h5 fun l hl => Has.nx fun c => Has.iT (Has.nx fun _ => Has.bd h5 fun m hm => Has.pr (ShS.mk _ _ _ _ _ _ _ _ (ShL.one hx) hl hm)) (Has.pr (ShS.mk _ _ _ _ _ _ _ _ (ShL.one hx) hl ShB.nil))
    · rw [whileM]
      exact Has.bd (expr_has1 n 1) fun x hx => Has.bd h5 fun l hl => Has.pr (ShS.mk _ _ _ _ _ _ _ _ (ShL.one hx) hl ShB.nil)
    · rw [blockM]
      exact Has.nx fun _ => Has.bd (h6 [] ShB.nil) fun l hl => Has.nx fun _ => Has.pr hl
    · rw [stepsM]
      exact Has.nx fun c => Has.iT (Has.pr hl) (Has.bd h1 fun s hs => h6 _ (hl.app hs))
def ShP (x : EV) : Prop := ∃ s k, x = [.s s, .i k]
def ShT (x : EV) : Prop := ∃ s k j, x = [.s s, .i k, .i j]
def ShF (x : EV) : Prop := ∃ s o ps k b, x = fnP s o ps k b ∧ (∀ p ∈ ps, ShP p) ∧ ShB b
def ShC (x : EV) : Prop := ∃ s l m r, x = ctP s (l, m, r) ∧ (∀ p ∈ l, ShP p) ∧ (∀ t ∈ m, ShT t) ∧ ∀ f ∈ r, ShF f
def AllP {α : Type} (Q : α → Prop) (l : List α) : Prop := ∀ x ∈ l, Q x
theorem AllP.nil {α : Type} {Q : α → Prop} : AllP Q [] := fun e h => by cases h
theorem AllP.one {α : Type} {Q : α → Prop} {x : α} (g : Q x) : AllP Q [x] := fun e q => by rw [List.mem_singleton.1 q]; exact g
theorem AllP.app {α : Type} {Q : α → Prop} {l : List α} {x : α} (h : AllP Q l) (g : Q x) : AllP Q (l ++ [x]) := fun e q => by
  rcases List.mem_append.1 q with q | q
  · exact h e q
  · rw [List.mem_singleton.1 q]; exact g
theorem pars_has : ∀ n l, AllP ShP l → Has (AllP ShP) (parsM n l)
  | 0, _, _ => Has.fl
  | n + 1, l, hl => by
    rw [parsM]
    exact Has.nx fun c => Has.iT (Has.nx fun _ => Has.nx fun _ => Has.nx fun p => pars_has n _ (hl.app ⟨p.1, p.2, rfl⟩)) (Has.pr hl)
theorem params_has (n : Nat) : Has (AllP ShP) (paramsM n) := Has.nx fun c => Has.iT (Has.pr AllP.nil) (Has.nx fun p => pars_has n _ (AllP.one ⟨p.1, p.2, rfl⟩))
theorem fn_has (n : Nat) : Has ShF (fnM n) := Has.nx fun o => Has.nx fun _ => Has.nx fun _ => Has.nx fun s => Has.nx fun _ => Has.bd (params_has n) fun l hl => Has.nx fun _ => Has.nx fun _ => Has.nx fun k => Has.bd (step_has n).2.2.2.2.1 fun b hb => Has.pr ⟨s, o, l, k, b, rfl, hl, hb⟩
theorem table_has : Has ShT tableT := Has.nx fun _ => Has.nx fun s => Has.nx fun _ => Has.nx fun k => Has.nx fun _ => Has.nx fun j => Has.nx fun _ => Has.pr ⟨s, k, j, rfl⟩
def ShI (c : CT) : Prop := AllP ShP c.1 ∧ AllP ShT c.2.1 ∧ AllP ShF c.2.2
theorem item_has (n : Nat) (c : CT) (h : ShI c) : Has ShI (itemM n c) := by
  obtain ⟨h1, h2, h3⟩ := h
  exact Has.nx fun a => Has.iT (Has.nx fun _ => Has.nx fun _ => Has.nx fun p => Has.nx fun _ => Has.pr ⟨h1.app ⟨p.1, p.2, rfl⟩, h2, h3⟩)
    (Has.nx fun a => Has.iT (Has.nx fun _ => Has.bd table_has fun t ht => Has.pr ⟨h1, h2.app ht, h3⟩)
      (Has.nx fun a => Has.iT (Has.nx fun _ => Has.bd (fn_has n) fun f hf => Has.pr ⟨h1, h2, h3.app hf⟩) (Has.nx fun a => Has.iT (Has.nx fun _ => Has.bd (fn_has n) fun f hf => Has.pr ⟨h1, h2, h3.app hf⟩) Has.wr)))
theorem items_has : ∀ n c, ShI c → Has ShI (itemsM n c)
  | 0, _, _ => Has.fl
  | n + 1, c, h => by
    rw [itemsM]
    exact Has.nx fun e => Has.iT (Has.pr h) (Has.bd (item_has n c h) fun c hc => items_has n c hc)
theorem parse_has (n : Nat) : Has ShC (parseM n) := Has.nx fun _ => Has.bd (R := ShC) (Has.nx fun _ => Has.nx fun s => Has.nx fun _ => Has.bd (items_has n _ ⟨AllP.nil, AllP.nil, AllP.nil⟩) fun c hc => Has.nx fun _ => Has.pr ⟨s, c.1, c.2.1, c.2.2, rfl, hc.1, hc.2.1, hc.2.2⟩) fun x hx => Has.nx fun _ => Has.pr hx
end Go.Proofs.YtgpjlocgkdlnlaaDoor

namespace Go.Proofs.YtgpjlocgkdlnlaaDoor
open Go.RowKit
set_option linter.unusedVariables false
set_option linter.unusedSimpArgs false

/-- All that was there is as it was. -/
def Bx (w0 : World) : Unit → World → Prop := fun _ u => Below w0.heap.size w0 u
theorem bx_begin {w0 w : World} (h : Bx w0 () w) : Mm (Bx w0) (fun _ => False) w [] () w :=
  Mm.begin h (fun _ q => q.elim) fun s u u' hb x => x.trans (hb.mono (by have := h.size; omega))
theorem pv_i {f : Fld} {n : Int} (h : f.pv = .i n) : f = .i n := by
  cases f with
  | i m => injection h with h; rw [h]
  | d m => cases h
  | b m => cases h
  | s m => cases h
  | l a c e => cases h
theorem pv_s {f : Fld} {n : Key} (h : f.pv = .s n) : f = .s n := by
  cases f with
  | s m => injection h with h; rw [h]
  | d m => cases h
  | b m => cases h
  | i m => cases h
  | l a c e => cases h
theorem pv_b {f : Fld} {n : Bool} (h : f.pv = .b n) : f = .b n := by
  cases f with
  | b m => injection h with h; rw [h]
  | d m => cases h
  | s m => cases h
  | i m => cases h
  | l a c e => cases h
theorem pv_l {f : Fld} {n : List EV} (h : f.pv = .l n) : ∃ la lc es, f = .l la lc es ∧ pvRows es = n := by
  cases f with
  | l a c e => injection h with h; exact ⟨a, c, e, rfl, h⟩
  | d m => cases h
  | s m => cases h
  | i m => cases h
  | b m => cases h
theorem pv_nil {fs : List Fld} (h : pvAll fs = []) : fs = [] := by
  cases fs with
  | nil => rfl
  | cons f r => cases h
theorem pv_cons {fs : List Fld} {x : Pv} {r : EV} (h : pvAll fs = x :: r) : ∃ f gs, fs = f :: gs ∧ f.pv = x ∧ pvAll gs = r := by
  cases fs with
  | nil => cases h
  | cons f gs => injection h with h1 h2; exact ⟨f, gs, rfl, h1, h2⟩
theorem inv_P {fs : List Fld} {s : Key} {k : Int} (h : pvAll fs = [.s s, .i k]) : fs = [.s s, .i k] := by
  obtain ⟨f1, g1, rfl, h1, h⟩ := pv_cons h
  obtain ⟨f2, g2, rfl, h2, h⟩ := pv_cons h
  rw [pv_s h1, pv_i h2, pv_nil h]
theorem inv_T {fs : List Fld} {s : Key} {k j : Int} (h : pvAll fs = [.s s, .i k, .i j]) : fs = [.s s, .i k, .i j] := by
  obtain ⟨f1, g1, rfl, h1, h⟩ := pv_cons h
  obtain ⟨f2, g2, rfl, h2, h⟩ := pv_cons h
  obtain ⟨f3, g3, rfl, h3, h⟩ := pv_cons h
  rw [pv_s h1, pv_i h2, pv_i h3, pv_nil h]
theorem inv_E {fs : List Fld} {op n : Int} {s : Key} {es : List EV} (h : pvAll fs = exP op n s es) : ∃ la lc gs, fs = [.i op, .i n, .s s, .l la lc gs] ∧ pvRows gs = es := by
  obtain ⟨f1, g1, rfl, h1, h⟩ := pv_cons h
  obtain ⟨f2, g2, rfl, h2, h⟩ := pv_cons h
  obtain ⟨f3, g3, rfl, h3, h⟩ := pv_cons h
  obtain ⟨f4, g4, rfl, h4, h⟩ := pv_cons h
  obtain ⟨la, lc, gs, q1, q2⟩ := pv_l h4
  exact ⟨la, lc, gs, by rw [pv_i h1, pv_i h2, pv_s h3, q1, pv_nil h], q2⟩
theorem inv_S {fs : List Fld} {k ty : Int} {nm al ca : Key} {es bs ls : List EV} (h : pvAll fs = stP k nm al ca ty es bs ls) : ∃ ea ec e ba bc b la lc l, fs = [.i k, .s nm, .s al, .s ca, .i ty, .l ea ec e, .l ba bc b, .l la lc l] ∧ pvRows e = es ∧ pvRows b = bs ∧ pvRows l = ls := by
  obtain ⟨f1, g1, rfl, h1, h⟩ := pv_cons h
  obtain ⟨f2, g2, rfl, h2, h⟩ := pv_cons h
  obtain ⟨f3, g3, rfl, h3, h⟩ := pv_cons h
  obtain ⟨f4, g4, rfl, h4, h⟩ := pv_cons h
  obtain ⟨f5, g5, rfl, h5, h⟩ := pv_cons h
  obtain ⟨f6, g6, rfl, h6, h⟩ := pv_cons h
  obtain ⟨f7, g7, rfl, h7, h⟩ := pv_cons h
  obtain ⟨f8, g8, rfl, h8, h⟩ := pv_cons h
  obtain ⟨ea, ec, e, q1, q2⟩ := pv_l h6
  obtain ⟨ba, bc, b, q3, q4⟩ := pv_l h7
  obtain ⟨la, lc, l, q5, q6⟩ := pv_l h8
  exact ⟨ea, ec, e, ba, bc, b, la, lc, l, by rw [pv_i h1, pv_s h2, pv_s h3, pv_s h4, pv_i h5, q1, q3, q5, pv_nil h], q2, q4, q6⟩
theorem inv_F {fs : List Fld} {s : Key} {o : Bool} {ps : List EV} {k : Int} {b : List EV} (h : pvAll fs = fnP s o ps k b) : ∃ pa pc p ba bc l, fs = [.s s, .b o, .l pa pc p, .i k, .l ba bc l] ∧ pvRows p = ps ∧ pvRows l = b := by
  obtain ⟨f1, g1, rfl, h1, h⟩ := pv_cons h
  obtain ⟨f2, g2, rfl, h2, h⟩ := pv_cons h
  obtain ⟨f3, g3, rfl, h3, h⟩ := pv_cons h
  obtain ⟨f4, g4, rfl, h4, h⟩ := pv_cons h
  obtain ⟨f5, g5, rfl, h5, h⟩ := pv_cons h
  obtain ⟨pa, pc, p, q1, q2⟩ := pv_l h3
  obtain ⟨ba, bc, l, q3, q4⟩ := pv_l h5
  exact ⟨pa, pc, p, ba, bc, l, by rw [pv_s h1, pv_b h2, q1, pv_i h4, q3, pv_nil h], q2, q4⟩
theorem lie_max {lo : Nat} {w : World} {la : Option Addr} {lc : Nat} {es : List (List Fld)} (h : (Fld.l la lc es).lies lo w) : (es.length : Int) ≤ 9223372036854775807 := by
  have h1 := h.1
  have h2 := h.2.1
  unfold maxLen at h2
  omega
/-- A thing of a row that was there. -/
theorem el_at {lo sz : Nat} {w0 : World} {la : Option Addr} {lc : Nat} {es : List (List Fld)} (h : (Fld.l la lc es).lies lo w0) (hl : ∀ d ∈ es, d.length = sz) {k : Nat} (hk : k < es.length) : ∃ b o d, la = some ⟨b, o, none⟩ ∧ es[k]? = some d ∧ (∀ w, Bx w0 () w → w.rangeAt b (o + k * sz) (d.map Fld.val)) ∧ lieAll lo w0 d ∧ pvAll d ∈ pvRows es := by
  have hd : es[k]? = some es[k] := List.getElem?_eq_getElem hk
  have hla : ∃ b o, la = some ⟨b, o, none⟩ ∧ rowsLie lo w0 b o es := by
    rcases h.2.2 with q | ⟨rb, ro, e, _, _, q⟩
    · rw [q] at hk; cases hk
    · exact ⟨rb, ro, e, q⟩
  obtain ⟨b, o, rfl, hr⟩ := hla
  refine ⟨b, o, _, rfl, hd, fun w hw => ?_, (rowsLie_src hr).2 _ (List.getElem_mem hk), ?_⟩
  · exact lie_range sz (lo := lo) (w := w) (lc := lc) (es := es) (Fld.lies_hi (Hi.of_below hw) _ h) hl hd
  · rw [pvRows_map]
    exact List.mem_map.2 ⟨_, List.getElem_mem hk, rfl⟩
theorem el_same {es gs : List (List Fld)} (h : pvRows es = pvRows gs) {k : Nat} {d d' : List Fld} (h1 : es[k]? = some d) (h2 : gs[k]? = some d') : pvAll d' = pvAll d := by
  have e : (pvRows es)[k]? = (pvRows gs)[k]? := by rw [h]
  rw [pvRows_map, pvRows_map, List.getElem?_map, List.getElem?_map, h1, h2] at e
  injection e with e
  exact e.symm
theorem len_of {es gs : List (List Fld)} (h : pvRows es = pvRows gs) : gs.length = es.length := by
  rw [← pvRows_len es, ← pvRows_len gs, h]
theorem sz_of {es : List (List Fld)} {n : Nat} (h : ∀ x ∈ pvRows es, x.length = n) : ∀ d ∈ es, d.length = n := fun d hd => by
  rw [← pvAll_len]
  exact h _ (by rw [pvRows_map]; exact List.mem_map.2 ⟨d, hd, rfl⟩)
section
variable {ops : Array Oper} {Q : Exit → Act → World → Prop} {a : Act} {w w' : World} {rest : List Oper} {o : Oper} {N : Nat} {L : List (Nat × Value)} {i t u : Nat} {x y : Operand}
theorem run_ns {P : Program} {s : Key} (h : o.op = .binOp .neq t x y u) (h1 : a.eval x = .string (str s)) (h2 : a.eval y = .string (str s)) : (execOp a.eval o).run P w = .ok (.value (.bool false)) w := by
  unfold execOp; rw [h]; simp [h1, h2, eqGuard_at_string, binOp, Op.stringOp]
theorem run_nb {P : Program} {s : Bool} (hu : P.underlying t = some .bool) (h : o.op = .binOp .neq t x y u) (h1 : a.eval x = .bool s) (h2 : a.eval y = .bool s) : (execOp a.eval o).run P w = .ok (.value (.bool false)) w := by
  have n : (binOp .neq t (.bool s) (.bool s)).run P w = .ok (.bool false) w := by simp [go_sem, hu]
  unfold execOp; rw [h]; simp [h1, h2, eqGuard]; rw [n]; rfl
theorem run_nP {s : Key} {k : Int} (h : o.op = .binOp .neq 65 x y u) (h1 : a.eval x = .agg #[.string (str s), .int .i64 k]) (h2 : a.eval y = .agg #[.string (str s), .int .i64 k]) : (execOp a.eval o).run Tryd.prog w = .ok (.value (.bool false)) w := by
  have g : (eqGuard .neq 65 x y (.agg #[.string (str s), .int .i64 k]) (.agg #[.string (str s), .int .i64 k])).run Tryd.prog w = .ok () w := by simp [go_sem]
  have n : (binOp .neq 65 (.agg #[.string (str s), .int .i64 k]) (.agg #[.string (str s), .int .i64 k])).run Tryd.prog w = .ok (.bool false) w := by simp [go_sem]
  unfold execOp; rw [h]; simp only [h1, h2, Sem.run_bind, g]; simp; rw [n]; rfl
theorem run_nT {s : Key} {k j : Int} (h : o.op = .binOp .neq 48 x y u) (h1 : a.eval x = .agg #[.string (str s), .int .i64 k, .int .i64 j]) (h2 : a.eval y = .agg #[.string (str s), .int .i64 k, .int .i64 j]) : (execOp a.eval o).run Tryd.prog w = .ok (.value (.bool false)) w := by
  have g : (eqGuard .neq 48 x y (.agg #[.string (str s), .int .i64 k, .int .i64 j]) (.agg #[.string (str s), .int .i64 k, .int .i64 j])).run Tryd.prog w = .ok () w := by simp [go_sem]
  have n : (binOp .neq 48 (.agg #[.string (str s), .int .i64 k, .int .i64 j]) (.agg #[.string (str s), .int .i64 k, .int .i64 j])).run Tryd.prog w = .ok (.bool false) w := by simp [go_sem]
  unfold execOp; rw [h]; simp only [h1, h2, Sem.run_bind, g]; simp; rw [n]; rfl
end
section
variable {P : Program} {md : Region.Mode} {ops : Array Oper} {Q : Exit → Act → World → Prop} {S : World → Prop} {a : Act} {w w0 : World} {o : Oper} {N : Nat} {L : List (Nat × Value)} {fuel : Nat} {listed : Array Bool} {rest : List Oper} {i t u : Nat} {x y : Operand}
theorem sw_ni {k : IntKind} {m : Int} (F : Fm N L a) (h : Is o (some i) (.binOp .neq t x y u)) (h1 : opv L x = some (.int k m)) (h2 : opv L y = some (.int k m)) (hi : Nat.blt i N = true) (K : ∀ a', Fm N ((i, .bool false) :: L) a' → wpList P ops Q rest a' w) : wpList P ops Q (o :: rest) a w :=
  sw_neq F h h1 h2 hi fun a' F' => K a' (by rw [show (m != m) = false from bne_self_eq_false m] at F'; exact F')
theorem sw_nn {k : IntKind} {m n : Int} (e : n = m) (F : Fm N L a) (h : Is o (some i) (.binOp .neq t x y u)) (h1 : opv L x = some (.int k m)) (h2 : opv L y = some (.int k n)) (hi : Nat.blt i N = true) (K : ∀ a', Fm N ((i, .bool false) :: L) a' → wpList P ops Q rest a' w) : wpList P ops Q (o :: rest) a w := by
  subst e
  exact sw_ni F h h1 h2 hi K
theorem sw_ns {s : Key} (F : Fm N L a) (h : Is o (some i) (.binOp .neq t x y u)) (h1 : opv L x = some (.string (str s))) (h2 : opv L y = some (.string (str s))) (hi : Nat.blt i N = true) (K : ∀ a', Fm N ((i, .bool false) :: L) a' → wpList P ops Q rest a' w) : wpList P ops Q (o :: rest) a w :=
  sw_val F h.1 h.2.2 hi (run_ns h.2.1 (F.ev h1) (F.ev h2)) K
theorem sw_nb {s : Bool} (hu : P.underlying t = some .bool) (F : Fm N L a) (h : Is o (some i) (.binOp .neq t x y u)) (h1 : opv L x = some (.bool s)) (h2 : opv L y = some (.bool s)) (hi : Nat.blt i N = true) (K : ∀ a', Fm N ((i, .bool false) :: L) a' → wpList P ops Q rest a' w) : wpList P ops Q (o :: rest) a w :=
  sw_val F h.1 h.2.2 hi (run_nb hu h.2.1 (F.ev h1) (F.ev h2)) K
theorem sd_rng (F : Fm N L a) (i : Nat) {d : Nat} {t : TypeId} {x : Operand} {b n : Nat} {cs : List Value} (hi : ops[i]? = some o) (h : Is o (some d) (.load t x)) (hv : opv L x = some (.pointer (some ⟨b, n, none⟩))) (ht : rowT P t = true) (hz : (P.info? t).map (·.size) = some cs.length) (hc : ∀ w, S w → w.rangeAt b n cs) (hs : Region.noSelect ops = true) (hf : Region.free md ops listed i = true) (hr : (Region.ready md ops listed).contains i = true) (hQ : ∀ c a w, Q (.panic c) (a.put (some d) (.agg cs.toArray)) w → Q (.panic c) a w)
    (hb : Nat.blt d N = true) (hS : S w) (K : ∀ a', Fm N ((d, .agg cs.toArray) :: L) a' → wpAnyH P md ops Q S fuel (listed.setIfInBounds i true) a' w) : wpAnyH P md ops Q S (fuel + 1) listed a w := by
  obtain ⟨ds, hu, hd⟩ := rowT_out ht
  exact sd_val F i hi hs hf hr hQ h.1 h.2.2 hb (fun w hw => by
    unfold execOp
    rw [h.2.1]
    have hld := run_loadVar_mid (P := P) w b n t cs ds (hc w hw) hu hd hz
    simp [F.ev hv, Instr.loadAt, Instr.sureAddr, hld]) hS K
end
end Go.Proofs.YtgpjlocgkdlnlaaDoor
