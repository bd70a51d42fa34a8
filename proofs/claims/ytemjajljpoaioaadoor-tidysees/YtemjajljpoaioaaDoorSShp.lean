import Derived.Test.YtemjajljpoaioaaDoorM09
namespace Go.Proofs.YtemjajljpoaioaaDoor
open Go.RowKit
set_option linter.unusedVariables false
set_option linter.unusedSimpArgs false
set_option maxRecDepth 20000
set_option maxHeartbeats 8000000
def Has {α : Type} (Q : α → Prop) (F : PM α) : Prop := ∀ σ x τ, F σ = .ok (x, τ) → Q x
theorem Has.bd {α β : Type} {R : α → Prop} {Q : β → Prop} {F : PM α} {G : α → PM β} (h : Has R F) (g : ∀ x, R x → Has Q (G x)) : Has Q (bnd F G) := fun σ y τ e => by
 cases hF : F σ with
 | error er => simp only [bnd, hF] at e; cases e
 | ok p =>
  obtain ⟨x, σ'⟩ := p
  simp only [bnd, hF] at e
  exact g x (h σ x σ' hF) σ' y τ e
theorem Has.nx {α β : Type} {Q : β → Prop} {F : PM α} {G : α → PM β} (g : ∀ x, Has Q (G x)) : Has Q (bnd F G) := Has.bd (R := fun _ => True) (fun _ _ _ _ => trivial) fun x _ => g x
theorem Has.pr {α : Type} {Q : α → Prop} {x : α} (h : Q x) : Has Q (pur x) := fun σ y τ e => by
 have e : Except.ok (x, σ) = Except.ok (y, τ) := e
 injection e with e
 injection e with e _
 subst e
 exact h
theorem Has.fl {α : Type} {Q : α → Prop} {e : Int} : Has Q (failT e : PM α) := fun σ y τ q => by cases q
theorem Has.wr {α : Type} {Q : α → Prop} : Has Q (wrongT : PM α) := fun σ y τ q => by cases q
theorem Has.it {α : Type} {Q : α → Prop} {c : Prop} [Decidable c] {F G : PM α} (h : Has Q F) (g : Has Q G) : Has Q (if c then F else G) := by
 by_cases q : c
 ·rw [if_pos q]; exact h
 ·rw [if_neg q]; exact g
theorem Has.iT {α : Type} {Q : α → Prop} {c : Bool} {F G : PM α} (h : Has Q F) (g : Has Q G) : Has Q (ifT c F G) := by cases c <;> assumption
theorem Has.at {α : Type} {Q : α → Prop} {F : PM α} (h : ∀ σ, ∃ G : PM α, Has Q G ∧ G σ = F σ) : Has Q F := fun σ x τ e => by
 obtain ⟨G, hG, q⟩ := h σ
 exact hG σ x τ (q.trans e)
theorem Has.rv {α : Type} {Q : α → Prop} {F : Nat → PM α} {S : ES} {x : α} {σ : St} (h : Rv F S x (.ok σ)) (k : ∀ n, Has Q (F n)) : Q x := by
 obtain ⟨n, h⟩ := h
 have h := h n (Nat.le_refl _)
 cases S with
 | error e => cases (show Except.ok σ = Except.error e from h)
 | ok τ =>
  cases hF : F n τ with
  | error e => cases h.get_err hF
  | ok p =>
   obtain ⟨y, τ'⟩ := p
   rw [(h.get_ok hF).1]
   exact k n τ y τ' hF
inductive ShE : EV → Prop where
 | mk (op n : Int) (s : Key) (es : List EV) : (∀ e ∈ es, ShE e) → ShE (exP op n s es)
def ShL (l : List EV) : Prop := ∀ e ∈ l, ShE e
theorem ShL.nil : ShL [] := fun e h => by cases h
theorem ShL.one {x : EV} (h : ShE x) : ShL [x] := fun e q => by rw [List.mem_singleton.1 q]; exact h
theorem ShL.two {x y : EV} (h : ShE x) (g : ShE y) : ShL [x, y] := fun e q => by
 rcases List.mem_cons.1 q with rfl | q
 ·exact h
 ·rw [List.mem_singleton.1 q]; exact g
theorem ShL.app {l : List EV} {x : EV} (h : ShL l) (g : ShE x) : ShL (l ++ [x]) := fun e q => by
 rcases List.mem_append.1 q with q | q
 ·exact h e q
 ·rw [List.mem_singleton.1 q]; exact g
theorem expr_has : ∀ n, (∀ r, Has ShE (exprT n r)) ∧ (∀ r x, ShE x → Has ShE (loopT n r x)) ∧ Has ShE (notT n) ∧ (∀ o c, Has ShE (innerT n o c)) ∧ Has ShL (commaT n) ∧ (∀ l, ShL l → Has ShL (moreT n l)) ∧ Has ShL (argsT n) ∧ Has ShE (namedT n) ∧ Has ShE (wordT n) ∧ Has ShE (atomT n) := by
 intro n
 induction n with
 | zero => exact ⟨fun _ => Has.fl, fun _ _ _ => Has.fl, Has.fl, fun _ _ => Has.fl, Has.fl, fun _ _ => Has.fl, Has.fl, Has.fl, Has.fl, Has.fl⟩
 | succ n ih =>
  obtain ⟨h1, h2, h3, h4, h5, h6, h7, h8, h9, h10⟩ := ih
  refine ⟨fun r => ?_, fun r x hx => ?_, ?_, fun o c => ?_, ?_, fun l hl => ?_, ?_, ?_, ?_, ?_⟩
  ·rw [exprT]
   exact Has.it h10 (Has.it (Has.nx fun c => Has.it h3 (h1 _)) (Has.bd (h1 _) fun x hx => h2 _ x hx))
  ·rw [loopT]
   exact Has.nx fun op => Has.it (Has.pr hx) (Has.nx fun _ => Has.bd (h1 _) fun y hy => Has.it (Has.pr (ShE.mk _ _ _ _ (ShL.two hx hy))) (h2 _ _ (ShE.mk _ _ _ _ (ShL.two hx hy))))
  ·rw [notT]
   exact Has.nx fun _ => Has.nx fun _ => Has.bd (h1 _) fun x hx => Has.nx fun _ => Has.pr (ShE.mk _ _ _ _ (ShL.one hx))
  ·rw [innerT]
   exact Has.nx fun _ => Has.bd (h1 _) fun x hx => Has.nx fun _ => Has.pr hx
  ·rw [commaT]
   exact Has.nx fun c => Has.it (Has.pr ShL.nil) (Has.bd (h1 _) fun x hx => h6 _ (ShL.one hx))
  ·rw [moreT]
   exact Has.nx fun c => Has.it (Has.nx fun _ => Has.nx fun _ => Has.bd (h1 _) fun x hx => h6 _ (hl.app hx)) (Has.pr hl)
  ·rw [argsT]
   exact Has.nx fun _ => Has.bd h5 fun l hl => Has.nx fun _ => Has.pr hl
  ·rw [namedT]
   exact Has.nx fun s => Has.nx fun c => Has.it (Has.bd (h4 _ _) fun y hy => Has.pr (ShE.mk _ _ _ _ (ShL.one hy))) (Has.nx fun d => Has.it (Has.bd h7 fun l hl => Has.pr (ShE.mk _ _ _ _ hl)) (Has.pr (ShE.mk _ _ _ _ ShL.nil)))
  ·rw [wordT]
   exact Has.nx fun c => Has.it (h4 _ _) (Has.nx fun c => Has.it (Has.nx fun _ => Has.pr (ShE.mk _ _ _ _ ShL.nil)) (Has.nx fun c => Has.it (Has.nx fun _ => Has.pr (ShE.mk _ _ _ _ ShL.nil)) (Has.nx fun op => Has.it Has.wr (Has.nx fun _ => Has.it (Has.bd (h4 _ _) fun y hy => Has.pr (ShE.mk _ _ _ _ (ShL.one hy))) (Has.pr (ShE.mk _ _ _ _ ShL.nil))))))
  ·refine Has.at fun σ => ?_
   rw [atomT]
   cases h : σ.now with
   | num m => exact ⟨_, Has.nx (F := nextT) fun _ => Has.pr (ShE.mk 1 m [] [] ShL.nil), by simp only [h]⟩
   | name s => exact ⟨_, h8, by simp only [h]⟩
   | none => exact ⟨_, h9, by simp only [h]⟩
   | fin => exact ⟨_, h9, by simp only [h]⟩
   | fixed s => exact ⟨_, h9, by simp only [h]⟩
theorem expr_has1 (n : Nat) (r : Int) : Has ShE (exprT n r) := (expr_has n).1 r
theorem inner_has (n : Nat) (o c : Key) : Has ShE (innerT n o c) := (expr_has n).2.2.2.1 o c
theorem args_has (n : Nat) : Has ShL (argsT n) := (expr_has n).2.2.2.2.2.2.1
inductive ShS : EV → Prop where
 | mk (k : Int) (nm al ca : Key) (ty : Int) (es bs ls : List EV) : ShL es → (∀ s ∈ bs, ShS s) → (∀ s ∈ ls, ShS s) → ShS (stP k nm al ca ty es bs ls)
def ShB (l : List EV) : Prop := ∀ s ∈ l, ShS s
theorem ShB.nil : ShB [] := fun e h => by cases h
theorem ShB.app {l : List EV} {x : EV} (h : ShB l) (g : ShS x) : ShB (l ++ [x]) := fun e q => by
 rcases List.mem_append.1 q with q | q
 ·exact h e q
 ·rw [List.mem_singleton.1 q]; exact g
theorem semi_has {x : EV} (h : ShS x) : Has ShS (semiT x) := Has.nx fun _ => Has.pr h
theorem give_has (n : Nat) {f : EV → EV} (h : ∀ x, ShE x → ShS (f x)) : Has ShS (giveT n f) := Has.nx fun _ => Has.bd (expr_has1 n 1) fun x hx => semi_has (h x hx)
theorem sh_plain {k : Int} {a b c : Key} {t : Int} {es : List EV} (h : ShL es) : ShS (stP k a b c t es [] []) := ShS.mk _ _ _ _ _ _ _ _ h ShB.nil ShB.nil
theorem gift_has (n : Nat) : Has ShS (gift n) := Has.nx fun s => Has.nx fun c => Has.iT (Has.bd (inner_has n _ _) fun y hy => give_has n fun x hx => sh_plain (ShL.two hy hx)) (give_has n fun x hx => sh_plain (ShL.one hx))
theorem let_has (n : Nat) : Has ShS (letM n) := Has.nx fun s => Has.nx fun _ => Has.nx fun k => give_has n fun x hx => sh_plain (ShL.one hx)
theorem ask_has (n : Nat) : Has ShS (askM n) := Has.nx fun s => Has.nx fun _ => Has.nx fun t => Has.nx fun _ => Has.bd (expr_has1 n 1) fun x hx => Has.nx fun _ => Has.nx fun u => Has.bd (args_has n) fun l hl => Has.nx fun _ => Has.bd (expr_has1 n 1) fun y hy => Has.nx fun _ => Has.bd (expr_has1 n 1) fun z hz => semi_has (sh_plain fun e q => by
 rcases List.mem_cons.1 q with rfl | q
 ·exact hx
 rcases List.mem_cons.1 q with rfl | q
 ·exact hy
 rcases List.mem_cons.1 q with rfl | q
 ·exact hz
 ·exact hl e q)
theorem pay_has (n : Nat) : Has ShS (payM n) := Has.bd (expr_has1 n 1) fun x hx => Has.nx fun _ => Has.bd (expr_has1 n 1) fun y hy => semi_has (sh_plain (ShL.two hx hy))
theorem one_has (n : Nat) (k : Int) : Has ShS (oneM n k) := Has.bd (expr_has1 n 1) fun x hx => semi_has (sh_plain (ShL.one hx))
theorem step_has : ∀ n, Has ShS (stepM n) ∧ Has ShS (wordM n) ∧ Has ShS (ifM n) ∧ Has ShS (whileM n) ∧ Has ShB (blockM n) ∧ ∀ l, ShB l → Has ShB (stepsM n l) := by
 intro n
 induction n with
 | zero => exact ⟨Has.fl, Has.fl, Has.fl, Has.fl, Has.fl, fun _ _ => Has.fl⟩
 | succ n ih =>
  obtain ⟨h1, h2, h3, h4, h5, h6⟩ := ih
  refine ⟨?_, ?_, ?_, ?_, ?_, fun l hl => ?_⟩
  ·refine Has.at fun σ => ?_
   rw [stepM]
   cases h : σ.now with
   | name s => exact ⟨_, gift_has n, by simp only [h]⟩
   | num m => exact ⟨_, h2, by simp only [h]⟩
   | none => exact ⟨_, h2, by simp only [h]⟩
   | fin => exact ⟨_, h2, by simp only [h]⟩
   | fixed s => exact ⟨_, h2, by simp only [h]⟩
  ·rw [wordM]
   exact Has.nx fun k => Has.it Has.wr (Has.nx fun _ => Has.it h3 (Has.it h4 (Has.it (let_has n) (Has.it (ask_has n) (Has.it (pay_has n) (one_has n k))))))
  ·rw [ifM]
   exact Has.bd (expr_has1 n 1) fun x hx => Has.bd h5 fun l hl => Has.nx fun c => Has.iT (Has.nx fun _ => Has.bd h5 fun m hm => Has.pr (ShS.mk _ _ _ _ _ _ _ _ (ShL.one hx) hl hm)) (Has.pr (ShS.mk _ _ _ _ _ _ _ _ (ShL.one hx) hl ShB.nil))
  ·rw [whileM]
   exact Has.bd (expr_has1 n 1) fun x hx => Has.bd h5 fun l hl => Has.pr (ShS.mk _ _ _ _ _ _ _ _ (ShL.one hx) hl ShB.nil)
  ·rw [blockM]
   exact Has.nx fun _ => Has.bd (h6 [] ShB.nil) fun l hl => Has.nx fun _ => Has.pr hl
  ·rw [stepsM]
   exact Has.nx fun c => Has.iT (Has.pr hl) (Has.bd h1 fun s hs => h6 _ (hl.app hs))
def ShP (x : EV) : Prop := ∃ s k, x = [.s s, .i k]
def ShT (x : EV) : Prop := ∃ s k j, x = [.s s, .i k, .i j]
def ShF (x : EV) : Prop := ∃ s o ps k b, x = fnP s o ps k b ∧ (∀ p ∈ ps, ShP p) ∧ ShB b
def ShC (x : EV) : Prop := ∃ s l m r, x = ctP s (l, m, r) ∧ (∀ p ∈ l, ShP p) ∧ (∀ t ∈ m, ShT t) ∧ ∀ f ∈ r, ShF f
def AllP {α : Type} (Q : α → Prop) (l : List α) : Prop := ∀ x ∈ l, Q x
theorem AllP.nil {α : Type} {Q : α → Prop} : AllP Q [] := fun e h => by cases h
theorem AllP.one {α : Type} {Q : α → Prop} {x : α} (g : Q x) : AllP Q [x] := fun e q => by rw [List.mem_singleton.1 q]; exact g
theorem AllP.app {α : Type} {Q : α → Prop} {l : List α} {x : α} (h : AllP Q l) (g : Q x) : AllP Q (l ++ [x]) := fun e q => by
 rcases List.mem_append.1 q with q | q
 ·exact h e q
 ·rw [List.mem_singleton.1 q]; exact g
theorem pars_has : ∀ n l, AllP ShP l → Has (AllP ShP) (parsM n l)
 | 0, _, _ => Has.fl
 | n + 1, l, hl => by
  rw [parsM]
  exact Has.nx fun c => Has.iT (Has.nx fun _ => Has.nx fun _ => Has.nx fun p => pars_has n _ (hl.app ⟨p.1, p.2, rfl⟩)) (Has.pr hl)
theorem params_has (n : Nat) : Has (AllP ShP) (paramsM n) := Has.nx fun c => Has.iT (Has.pr AllP.nil) (Has.nx fun p => pars_has n _ (AllP.one ⟨p.1, p.2, rfl⟩))
theorem fn_has (n : Nat) : Has ShF (fnM n) := Has.nx fun o => Has.nx fun _ => Has.nx fun _ => Has.nx fun s => Has.nx fun _ => Has.bd (params_has n) fun l hl => Has.nx fun _ => Has.nx fun _ => Has.nx fun k => Has.bd (step_has n).2.2.2.2.1 fun b hb => Has.pr ⟨s, o, l, k, b, rfl, hl, hb⟩
theorem table_has : Has ShT tableT := Has.nx fun _ => Has.nx fun s => Has.nx fun _ => Has.nx fun k => Has.nx fun _ => Has.nx fun j => Has.nx fun _ => Has.pr ⟨s, k, j, rfl⟩
def ShI (c : CT) : Prop := AllP ShP c.1 ∧ AllP ShT c.2.1 ∧ AllP ShF c.2.2
theorem item_has (n : Nat) (c : CT) (h : ShI c) : Has ShI (itemM n c) := by
 obtain ⟨h1, h2, h3⟩ := h
 exact Has.nx fun a => Has.iT (Has.nx fun _ => Has.nx fun _ => Has.nx fun p => Has.nx fun _ => Has.pr ⟨h1.app ⟨p.1, p.2, rfl⟩, h2, h3⟩)
  (Has.nx fun a => Has.iT (Has.nx fun _ => Has.bd table_has fun t ht => Has.pr ⟨h1, h2.app ht, h3⟩)
   (Has.nx fun a => Has.iT (Has.nx fun _ => Has.bd (fn_has n) fun f hf => Has.pr ⟨h1, h2, h3.app hf⟩) (Has.nx fun a => Has.iT (Has.nx fun _ => Has.bd (fn_has n) fun f hf => Has.pr ⟨h1, h2, h3.app hf⟩) Has.wr)))
theorem items_has : ∀ n c, ShI c → Has ShI (itemsM n c)
 | 0, _, _ => Has.fl
 | n + 1, c, h => by
  rw [itemsM]
  exact Has.nx fun e => Has.iT (Has.pr h) (Has.bd (item_has n c h) fun c hc => items_has n c hc)
theorem parse_has (n : Nat) : Has ShC (parseM n) := Has.nx fun _ => Has.bd (R := ShC) (Has.nx fun _ => Has.nx fun s => Has.nx fun _ => Has.bd (items_has n _ ⟨AllP.nil, AllP.nil, AllP.nil⟩) fun c hc => Has.nx fun _ => Has.pr ⟨s, c.1, c.2.1, c.2.2, rfl, hc.1, hc.2.1, hc.2.2⟩) fun x hx => Has.nx fun _ => Has.pr hx
end Go.Proofs.YtemjajljpoaioaaDoor
