import Derived.Test.YtpofgnlkhkednaaGreatDoorM15
import Derived.Test.YtpofgnlkhkednaaGreatDoorSWz
namespace Go.Proofs.YtpofgnlkhkednaaGreatDoor
open Go.RowKit
set_option linter.unusedVariables false
set_option linter.unusedSimpArgs false
set_option maxRecDepth 20000
set_option maxHeartbeats 8000000
mutual
def wP : Pv → Nat
 | .s t => t.length + 1
 | .l es => wL es + 1
 | .i _ => 1
 | .d _ => 1
 | .b _ => 1
def wE : List Pv → Nat
 | [] => 0
 | x :: r => wP x + wE r
def wL : List (List Pv) → Nat
 | [] => 0
 | x :: r => wE x + wL r
end
theorem wL_app : ∀ (l m : List EV), wL (l ++ m) = wL l + wL m
 | [], m => by rw [List.nil_append, wL, Nat.zero_add]
 | x :: l, m => by rw [List.cons_append, wL, wL, wL_app l m, Nat.add_assoc]
theorem wL_one (x : EV) : wL [x] = wE x := by rw [wL, wL, Nat.add_zero]
theorem we_X (op n : Int) (s : Key) (es : List EV) : wE (exP op n s es) = s.length + 4 + wL es := by simp only [exP, wE, wP]; omega
theorem we_S (k : Int) (nm al ca : Key) (ty : Int) (es bs ls : List EV) : wE (stP k nm al ca ty es bs ls) = nm.length + al.length + ca.length + 8 + wL es + wL bs + wL ls := by simp only [stP, wE, wP]; omega
theorem we_P (p : Key × Int) : wE (paP p) = p.1.length + 2 := by simp only [paP, wE, wP]
theorem we_T (s : Key) (k j : Int) : wE (tbP s k j) = s.length + 3 := by simp only [tbP, wE, wP]
theorem we_F (s : Key) (o : Bool) (ps : List EV) (k : Int) (b : List EV) : wE (fnP s o ps k b) = s.length + 5 + wL ps + wL b := by simp only [fnP, wE, wP]; omega
theorem we_C (s : Key) (c : CT) : wE (ctP s c) = s.length + 4 + wL c.1 + wL c.2.1 + wL c.2.2 := by simp only [ctP, wE, wP]; omega
theorem spanN_most (f : UInt8 → Bool) : ∀ s, spanN f s ≤ s.length
 | [] => Nat.le_refl _
 | c :: r => by
  unfold spanN
  split
  ·have := spanN_most f r; simp; omega
  ·simp
theorem text_word (s : Key) : (wordOf s).text.length ≤ s.length := by
 unfold wordOf
 split
 ·exact Nat.le_refl _
 ·split
  ·exact Nat.le_refl _
  ·exact Nat.zero_le _
theorem text_num (s : Key) : (numberOf s).text = [] := by
 unfold numberOf
 split
 ·rfl
 ·split <;> rfl
theorem cutT_text (s : Key) : (cutT s).1.text.length + (cutT s).2.length ≤ s.length := by
 cases s with
 | nil => exact Nat.le_refl _
 | cons c r =>
  rw [cutT]
  split
  ·have h1 := text_word ((c :: r).take (spanN goes (c :: r)));have h2 := spanN_most goes (c :: r);rw [List.length_take] at h1;simp only [List.length_drop];omega
  ·split
   ·simp only [text_num, List.length_drop, List.length_nil];omega
   ·unfold signOf
    cases hf : signL.find? (fun g => decide ((c :: r).take g.length = g)) with
    | none => simp [Tok.text]
    | some g =>
     have q : (c :: r).take g.length = g := by simpa using List.find?_some hf
     have hl := congrArg List.length q;rw [List.length_take] at hl;simp only [Tok.text, List.length_drop];omega
def bud (σ : St) : Nat := 32 * σ.rest.length + (if σ.now = .fin ∨ σ.now = .none then 0 else 16 + 16 * σ.now.text.length)
theorem bud_next {σ τ : St} (h : nextT σ = .ok ((), τ)) : bud τ ≤ 32 * σ.rest.length := by
 unfold nextT at h;have h2 := cutT_less (gap false σ.rest);have h3 := gap_len false σ.rest;have h4 := cutT_text (gap false σ.rest)
 cases hc : cutT (gap false σ.rest) with
 | mk t r =>
  rw [hc] at h h2 h4
  cases t with
  | none => cases h
  | fin =>
   injection h with h
   injection h with _ h
   subst h;simp [bud];simp [Tok.text] at h4;omega
  | name s =>
   injection h with h
   injection h with _ h
   subst h;have := h2 (by simp) (by simp);simp [bud, Tok.text] at this h4 ⊢; omega
  | num s =>
   injection h with h
   injection h with _ h
   subst h;have := h2 (by simp) (by simp);simp [bud, Tok.text] at this h4 ⊢; omega
  | fixed s =>
   injection h with h
   injection h with _ h
   subst h;have := h2 (by simp) (by simp);simp [bud, Tok.text] at this h4 ⊢; omega
theorem bud_at {σ τ : St} (h : nextT σ = .ok ((), τ)) (h1 : σ.now ≠ .fin) (h2 : σ.now ≠ .none) : bud τ + (16 + 16 * σ.now.text.length) ≤ bud σ := by
 have := bud_next h
 unfold bud at *
 rw [if_neg (show ¬ (σ.now = .fin ∨ σ.now = .none) by rintro (q | q); exact h1 q; exact h2 q)];omega
theorem bud_less {σ τ : St} (h : nextT σ = .ok ((), τ)) : bud τ ≤ bud σ := by
 have := bud_next h;have : 32 * σ.rest.length ≤ bud σ := by unfold bud; omega
 omega
def Cs {α : Type} (c : Nat) (F : PM α) (W : α → Nat) : Prop := ∀ σ x τ, F σ = .ok (x, τ) → W x + bud τ ≤ bud σ + c
section
variable {α β : Type} {c d : Nat} {F : PM α} {G : α → PM β} {U V : α → Nat} {W : β → Nat}
theorem Cs.bd (h : Cs c F U) (g : ∀ x, Cs (U x) (G x) W) : Cs c (bnd F G) W := fun σ y τ e => by
 cases hF : F σ with
 | error er => simp only [bnd, hF] at e; cases e
 | ok p =>
  obtain ⟨x, σ'⟩ := p;simp only [bnd, hF] at e;have h1 := h σ x σ' hF;have h2 := g x σ' y τ e;omega
theorem Cs.pr {x : α} (h : U x ≤ c) : Cs c (pur x) U := fun σ y τ e => by
 have e : Except.ok (x, σ) = Except.ok (y, τ) := e;injection e with e
 injection e with e1 e2
 subst e1;subst e2;omega
theorem Cs.e0 {c : Nat} (h : Cs 0 F U) : Cs c F (fun x => U x + c) := fun σ x τ e => by
 have := h σ x τ e;show U x + c + _ ≤ _;omega
theorem Cs.le (h : Cs c F U) (k : c ≤ d) : Cs d F U := fun σ x τ e => by
 have := h σ x τ e;omega
theorem Cs.lw (h : Cs c F U) (k : ∀ x, V x ≤ U x) : Cs c F V := fun σ x τ e => by
 have := h σ x τ e;have := k x;omega
theorem Cs.fl {e : Int} : Cs c (failT e : PM α) U := fun σ y τ q => by cases q
theorem Cs.wr : Cs c (wrongT : PM α) U := fun σ y τ q => by cases q
theorem Cs.it {q : Prop} [Decidable q] {F' : PM α} (h : Cs c F U) (g : Cs c F' U) : Cs c (if q then F else F') U := by
 by_cases z : q
 ·rw [if_pos z]; exact h
 ·rw [if_neg z]; exact g
theorem Cs.iT {q : Bool} {F' : PM α} (h : Cs c F U) (g : Cs c F' U) : Cs c (ifT q F F') U := by cases q <;> assumption
theorem Cs.at (h : ∀ σ, ∃ G : PM α, Cs c G U ∧ G σ = F σ) : Cs c F U := fun σ x τ e => by
 obtain ⟨G, hG, q⟩ := h σ;exact hG σ x τ (q.trans e)
theorem Cs.next : Cs c nextT (fun _ => c) := fun σ x τ e => by
 have := bud_less (τ := τ) (by rw [e]);show c + _ ≤ _;omega
theorem Cs.take (s : Key) : Cs c (takeT s) (fun _ => c + 16) := fun σ x τ e => by
 by_cases hs : σ.now = .fixed s
 ·have e2 : takeT s σ = nextT σ := if_pos hs;have := bud_at (σ := σ) (τ := τ) (by rw [← e2, e]) (by rw [hs]; simp) (by rw [hs]; simp);show c + 16 + _ ≤ _;omega
 ·have e2 : takeT s σ = .error (errT σ) := if_neg hs;rw [e2] at e;cases e
theorem Cs.name : Cs c nameT (fun s => c + 16 + 16 * s.length) := fun σ x τ e => by
 by_cases hn : ∃ t, σ.now = .name t
 ·obtain ⟨t, ht⟩ := hn;have e2 : nameT σ = bnd nextT (fun _ => pur t) σ := by unfold nameT; rw [ht]
  rw [e2] at e
  cases hF : nextT σ with
  | error er => simp only [bnd, hF] at e; cases e
  | ok p =>
   obtain ⟨⟨⟩, σ'⟩ := p;simp only [bnd, hF] at e;have e : Except.ok (t, σ') = Except.ok (x, τ) := e;injection e with e
   injection e with e1 e2
   subst e1;subst e2;have := bud_at hF (by rw [ht]; simp) (by rw [ht]; simp);rw [ht] at this;have this : bud σ' + (16 + 16 * t.length) ≤ bud σ := this;show c + 16 + 16 * t.length + _ ≤ _;omega
 ·have e2 : nameT σ = .error (errT σ) := by
   unfold nameT;cases h : σ.now <;> simp_all
  rw [e2] at e;cases e
theorem Cs.same {F : PM α} (h : ∀ σ x τ, F σ = .ok (x, τ) → bud τ = bud σ) : Cs c F (fun _ => c) := fun σ x τ e => by
 have := h σ x τ e;show c + _ ≤ _;omega
theorem Cs.is (s : Key) : Cs c (isT s) (fun _ => c) := Cs.same fun σ x τ e => by
 have e : Except.ok (decide (σ.now = .fixed s), σ) = Except.ok (x, τ) := e;injection e with e
 injection e with _ e
 rw [e]
theorem Cs.pick (l : List (Int × Key)) : Cs c (pickT l) (fun _ => c) := Cs.same fun σ x τ e => by
 have e : Except.ok (pickI l (.ok σ), σ) = Except.ok (x, τ) := e;injection e with e
 injection e with _ e
 rw [e]
theorem Cs.deeper : Cs c deeperT (fun _ => c) := Cs.same fun σ x τ e => by
 unfold deeperT at e
 split at e
 ·cases e
 ·injection e with e
  injection e with _ e
  subst e;rfl
theorem Cs.up : Cs c upT (fun _ => c) := Cs.same fun σ x τ e => by
 unfold upT at e;injection e with e
 injection e with _ e
 subst e;rfl
theorem Cs.room (n m : Int) : Cs c (roomT n m) (fun _ => c) := by
 unfold roomT;exact Cs.it Cs.fl (Cs.pr (Nat.le_refl _))
theorem Cs.open (s : Key) : Cs c (openT s) (fun _ => c + 16) := Cs.bd (Cs.is s) fun b => Cs.bd (U := fun _ => c) (Cs.it Cs.deeper (Cs.pr (Nat.le_refl _))) fun _ => Cs.take s
theorem Cs.shut (s : Key) : Cs c (shutT s) (fun _ => c + 16) := Cs.bd (Cs.take s) fun _ => Cs.up
theorem Cs.kind : Cs c kindT (fun _ => c) := Cs.bd (Cs.pick _) fun k => Cs.it Cs.wr (Cs.bd Cs.next fun _ => Cs.pr (Nat.le_refl _))
theorem Cs.pk {l : List (Int × Key)} {H : Int → PM α} {K : Int → PM α} (h : ∀ op, Cs c (H op) U) (g : ∀ op, Cs (c + 16) (K op) U) : Cs c (bnd (pickT l) fun op => if op = 0 then H op else bnd nextT fun _ => K op) U := fun σ x τ e => by
 have e : (if pickI l (.ok σ) = 0 then H (pickI l (.ok σ)) else bnd nextT fun _ => K (pickI l (.ok σ))) σ = .ok (x, τ) := e
 by_cases z : pickI l (.ok σ) = 0
 ·rw [if_pos z] at e;exact h _ σ x τ e
 ·rw [if_neg z] at e;have hh : Here (.ok σ) := Here.of_pick z
  cases hF : nextT σ with
  | error er => simp only [bnd, hF] at e; cases e
  | ok p =>
   obtain ⟨⟨⟩, σ'⟩ := p;simp only [bnd, hF] at e;have h1 := g _ σ' x τ e;have h2 := bud_at hF hh.1 hh.2;omega
end
theorem expr_cs : ∀ n, (∀ r, Cs 0 (exprT n r) wE) ∧ (∀ r x, Cs (wE x) (loopT n r x) wE) ∧ Cs 0 (notT n) wE ∧ (∀ o c, Cs 0 (innerT n o c) wE) ∧ Cs 0 (commaT n) wL ∧ (∀ l, Cs (wL l) (moreT n l) wL) ∧ Cs 0 (argsT n) wL ∧ Cs 0 (namedT n) wE ∧ Cs 0 (wordT n) wE ∧ Cs 0 (atomT n) wE := by
 intro n
 induction n with
 | zero => exact ⟨fun _ => Cs.fl, fun _ _ => Cs.fl, Cs.fl, fun _ _ => Cs.fl, Cs.fl, fun _ => Cs.fl, Cs.fl, Cs.fl, Cs.fl, Cs.fl⟩
 | succ n ih =>
  obtain ⟨h1, h2, h3, h4, h5, h6, h7, h8, h9, h10⟩ := ih;refine ⟨fun r => ?_, fun r x => ?_, ?_, fun o c => ?_, ?_, fun l => ?_, ?_, ?_, ?_, ?_⟩
  ·rw [exprT];exact Cs.it h10 (Cs.it (Cs.bd (Cs.is _) fun c => Cs.it h3 (h1 _)) (Cs.bd (h1 _) fun x => h2 _ x))
  ·rw [loopT];exact Cs.pk (fun op => Cs.pr (Nat.le_refl _)) fun op => Cs.bd (h1 _).e0 fun y => Cs.it (Cs.pr (by simp only [we_X, wL, List.length_nil]; omega)) ((h2 _ _).le (by simp only [we_X, wL, List.length_nil]; omega))
  ·rw [notT];exact Cs.bd Cs.deeper fun _ => Cs.bd (Cs.take _) fun _ => Cs.bd (h1 _).e0 fun x => Cs.bd Cs.up fun _ => Cs.pr (by simp only [we_X, wL, List.length_nil]; omega)
  ·rw [innerT];exact Cs.bd (Cs.open _) fun _ => Cs.bd (h1 _).e0 fun x => Cs.bd (Cs.shut _) fun _ => Cs.pr (by omega)
  ·rw [commaT];exact Cs.bd (Cs.is _) fun c => Cs.it (Cs.pr (Nat.le_refl _)) (Cs.bd (h1 _) fun x => (h6 _).le (by rw [wL_one]; exact Nat.le_refl _))
  ·rw [moreT];exact Cs.bd (Cs.is _) fun c => Cs.it (Cs.bd (Cs.room _ _) fun _ => Cs.bd (Cs.take _) fun _ => Cs.bd (h1 _).e0 fun x => (h6 _).le (by rw [wL_app, wL_one]; omega)) (Cs.pr (Nat.le_refl _))
  ·rw [argsT];exact Cs.bd (Cs.open _) fun _ => Cs.bd h5.e0 fun l => Cs.bd (Cs.shut _) fun _ => Cs.pr (by omega)
  ·rw [namedT];exact Cs.bd Cs.name fun s => Cs.bd (Cs.is _) fun c => Cs.it (Cs.bd (h4 _ _).e0 fun y => Cs.pr (by simp only [we_X, wL]; omega)) (Cs.bd (Cs.is _) fun d => Cs.it (Cs.bd h7.e0 fun l => Cs.pr (by simp only [we_X, wL]; omega)) (Cs.pr (by simp only [we_X, wL]; omega)))
  ·rw [wordT];exact Cs.bd (Cs.is _) fun c => Cs.it (h4 _ _) (Cs.bd (Cs.is _) fun c => Cs.it (Cs.bd (Cs.take _) fun _ => Cs.pr (by simp only [we_X, wL, List.length_nil]; omega)) (Cs.bd (Cs.is _) fun c => Cs.it (Cs.bd (Cs.take _) fun _ => Cs.pr (by simp only [we_X, wL, List.length_nil]; omega)) (Cs.pk (fun _ => Cs.wr) fun op => Cs.it (Cs.bd (h4 _ _).e0 fun y => Cs.pr (by simp only [we_X, wL, List.length_nil]; omega)) (Cs.pr (by simp only [we_X, wL, List.length_nil]; omega)))))
  ·intro σ x τ e;rw [atomT] at e
   cases h : σ.now with
   | num m =>
    simp only [h] at e
    cases hF : nextT σ with
    | error er => simp only [bnd, hF] at e; cases e
    | ok p =>
     obtain ⟨⟨⟩, σ'⟩ := p;simp only [bnd, hF] at e;have e : Except.ok (exP 1 m [] [], σ') = Except.ok (x, τ) := e;injection e with e
     injection e with e1 e2
     subst e1;subst e2;have := bud_at hF (by rw [h]; simp) (by rw [h]; simp);simp only [we_X, wL, List.length_nil];omega
   | name s => simp only [h] at e; exact h8 σ x τ e
   | none => simp only [h] at e; exact h9 σ x τ e
   | fin => simp only [h] at e; exact h9 σ x τ e
   | fixed s => simp only [h] at e; exact h9 σ x τ e
theorem expr_cs1 (n : Nat) (r : Int) : Cs 0 (exprT n r) wE := (expr_cs n).1 r
theorem inner_cs (n : Nat) (o c : Key) : Cs 0 (innerT n o c) wE := (expr_cs n).2.2.2.1 o c
theorem args_cs (n : Nat) : Cs 0 (argsT n) wL := (expr_cs n).2.2.2.2.2.2.1
theorem semi_cs {c : Nat} {x : EV} (h : wE x ≤ c + 16) : Cs c (semiT x) wE := Cs.bd (Cs.take _) fun _ => Cs.pr h
theorem give_cs {c : Nat} (n : Nat) {f : EV → EV} (h : ∀ x, wE (f x) ≤ wE x + c + 32) : Cs c (giveT n f) wE := Cs.bd (Cs.take _) fun _ => Cs.bd (expr_cs1 n 1).e0 fun x => semi_cs (by have := h x; omega)
theorem gift_cs (n : Nat) : Cs 0 (gift n) wE := Cs.bd Cs.name fun s => Cs.bd (Cs.is _) fun c => Cs.iT (Cs.bd (inner_cs n _ _).e0 fun y => give_cs n fun x => by simp only [we_S, wL, List.length_nil]; omega) (give_cs n fun x => by simp only [we_S, wL, List.length_nil]; omega)
theorem let_cs (n : Nat) : Cs 0 (letM n) wE := Cs.bd Cs.name fun s => Cs.bd (Cs.take _) fun _ => Cs.bd Cs.kind fun k => give_cs n fun x => by simp only [we_S, wL, List.length_nil]; omega
theorem ask_cs (n : Nat) : Cs 0 (askM n) wE := Cs.bd Cs.name fun s => Cs.bd (Cs.take _) fun _ => Cs.bd Cs.name fun t => Cs.bd (Cs.take _) fun _ => Cs.bd (expr_cs1 n 1).e0 fun x => Cs.bd (Cs.take _) fun _ => Cs.bd Cs.name fun u => Cs.bd (args_cs n).e0 fun l => Cs.bd (Cs.take _) fun _ => Cs.bd (expr_cs1 n 1).e0 fun y => Cs.bd (Cs.take _) fun _ => Cs.bd (expr_cs1 n 1).e0 fun z => semi_cs (by simp only [we_S, wL]; omega)
theorem pay_cs (n : Nat) : Cs 0 (payM n) wE := Cs.bd (expr_cs1 n 1) fun x => Cs.bd (Cs.take _) fun _ => Cs.bd (expr_cs1 n 1).e0 fun y => semi_cs (by simp only [we_S, wL, List.length_nil]; omega)
theorem one_cs (n : Nat) (k : Int) : Cs 0 (oneM n k) wE := Cs.bd (expr_cs1 n 1) fun x => semi_cs (by simp only [we_S, wL, List.length_nil]; omega)
theorem step_cs : ∀ n, Cs 0 (stepM n) wE ∧ Cs 0 (wordM n) wE ∧ Cs 0 (ifM n) wE ∧ Cs 0 (whileM n) wE ∧ Cs 0 (blockM n) (fun l => wL l + 32) ∧ ∀ l, Cs (wL l) (stepsM n l) wL := by
 intro n
 induction n with
 | zero => exact ⟨Cs.fl, Cs.fl, Cs.fl, Cs.fl, Cs.fl, fun _ => Cs.fl⟩
 | succ n ih =>
  obtain ⟨h1, h2, h3, h4, h5, h6⟩ := ih;refine ⟨?_, ?_, ?_, ?_, ?_, fun l => ?_⟩
  ·refine Cs.at fun σ => ?_;rw [stepM]
   cases h : σ.now with
   | name s => exact ⟨_, gift_cs n, by simp only [h]⟩
   | num m => exact ⟨_, h2, by simp only [h]⟩
   | none => exact ⟨_, h2, by simp only [h]⟩
   | fin => exact ⟨_, h2, by simp only [h]⟩
   | fixed s => exact ⟨_, h2, by simp only [h]⟩
  ·rw [wordM];exact Cs.bd (Cs.pick _) fun k => Cs.it Cs.wr (Cs.bd Cs.next fun _ => Cs.it h3 (Cs.it h4 (Cs.it (let_cs n) (Cs.it (ask_cs n) (Cs.it (pay_cs n) (one_cs n k))))))
  ·rw [ifM];exact Cs.bd (expr_cs1 n 1) fun x => Cs.bd h5.e0 fun l => Cs.bd (Cs.is _) fun c => Cs.iT (Cs.bd (Cs.take _) fun _ => Cs.bd h5.e0 fun m => Cs.pr (by simp only [we_S, wL, List.length_nil]; omega)) (Cs.pr (by simp only [we_S, wL, List.length_nil]; omega))
  ·rw [whileM];exact Cs.bd (expr_cs1 n 1) fun x => Cs.bd h5.e0 fun l => Cs.pr (by simp only [we_S, wL, List.length_nil]; omega)
  ·rw [blockM];exact Cs.bd (Cs.open _) fun _ => Cs.bd (show Cs 0 (stepsM n []) wL from h6 []).e0 fun l => Cs.bd (Cs.shut _) fun _ => Cs.pr (by omega)
  ·rw [stepsM];exact Cs.bd (Cs.is _) fun c => Cs.iT (Cs.pr (Nat.le_refl _)) (Cs.bd h1.e0 fun s => (h6 _).le (by rw [wL_app, wL_one]; omega))
theorem block_cs (n : Nat) : Cs 0 (blockM n) (fun l => wL l + 32) := (step_cs n).2.2.2.2.1
theorem param_cs : Cs 0 paramT (fun p => wE (paP p)) := Cs.bd Cs.name fun s => Cs.bd (Cs.take _) fun _ => Cs.bd Cs.kind fun k => Cs.pr (by simp only [we_P]; omega)
theorem pars_cs : ∀ n l, Cs (wL l) (parsM n l) wL
 | 0, _ => Cs.fl
 | n + 1, l => by
  rw [parsM];exact Cs.bd (Cs.is _) fun c => Cs.iT (Cs.bd (Cs.room _ _) fun _ => Cs.bd (Cs.take _) fun _ => Cs.bd param_cs.e0 fun p => (pars_cs n _).le (by rw [wL_app, wL_one]; omega)) (Cs.pr (Nat.le_refl _))
theorem params_cs (n : Nat) : Cs 0 (paramsM n) wL := Cs.bd (Cs.is _) fun c => Cs.iT (Cs.pr (Nat.le_refl _)) (Cs.bd param_cs fun p => (pars_cs n _).le (by rw [wL_one]; exact Nat.le_refl _))
theorem fn_cs (n : Nat) : Cs 0 (fnM n) wE := Cs.bd (Cs.is _) fun o => Cs.bd (U := fun _ => 0) (Cs.iT ((Cs.take _).lw fun _ => Nat.zero_le _) (Cs.pr (Nat.le_refl _))) fun _ => Cs.bd (Cs.take _) fun _ => Cs.bd Cs.name fun s => Cs.bd (Cs.take _) fun _ => Cs.bd (params_cs n).e0 fun l => Cs.bd (Cs.take _) fun _ => Cs.bd (Cs.take _) fun _ => Cs.bd Cs.kind fun k => Cs.bd (block_cs n).e0 fun b => Cs.pr (by simp only [we_F]; omega)
theorem table_cs : Cs 0 tableT wE := Cs.bd (Cs.take _) fun _ => Cs.bd Cs.name fun s => Cs.bd (Cs.take _) fun _ => Cs.bd Cs.kind fun k => Cs.bd (Cs.take _) fun _ => Cs.bd Cs.kind fun j => Cs.bd (Cs.take _) fun _ => Cs.pr (by simp only [we_T]; omega)
def wT (c : CT) : Nat := wL c.1 + wL c.2.1 + wL c.2.2
theorem item_cs (n : Nat) (c : CT) : Cs (wT c) (itemM n c) wT :=
 Cs.bd (Cs.is _) fun a => Cs.iT (Cs.bd (Cs.room _ _) fun _ => Cs.bd (Cs.take _) fun _ => Cs.bd param_cs.e0 fun p => Cs.bd (Cs.take _) fun _ => Cs.pr (by simp only [wT, wL_app, wL_one]; omega))
  (Cs.bd (Cs.is _) fun a => Cs.iT (Cs.bd (Cs.room _ _) fun _ => Cs.bd table_cs.e0 fun t => Cs.pr (by simp only [wT, wL_app, wL_one]; omega))
   (Cs.bd (Cs.is _) fun a => Cs.iT (Cs.bd (Cs.room _ _) fun _ => Cs.bd (fn_cs n).e0 fun f => Cs.pr (by simp only [wT, wL_app, wL_one]; omega)) (Cs.bd (Cs.is _) fun a => Cs.iT (Cs.bd (Cs.room _ _) fun _ => Cs.bd (fn_cs n).e0 fun f => Cs.pr (by simp only [wT, wL_app, wL_one]; omega)) Cs.wr)))
theorem items_cs : ∀ n c, Cs (wT c) (itemsM n c) wT
 | 0, _ => Cs.fl
 | n + 1, c => by
  rw [itemsM];exact Cs.bd (Cs.is _) fun e => Cs.iT (Cs.pr (Nat.le_refl _)) (Cs.bd (item_cs n c) fun c => items_cs n c)
theorem endT_cs {c : Nat} : Cs c endT (fun _ => c) := Cs.same fun σ x τ e => by
 unfold endT at e
 split at e
 ·injection e with e
  injection e with _ e
  rw [e]
 ·cases e
theorem contract_cs (n : Nat) : Cs 0 (contractM n) wE := Cs.bd (Cs.take _) fun _ => Cs.bd Cs.name fun s => Cs.bd (Cs.take _) fun _ => Cs.bd (show Cs 0 (itemsM n ([], [], [])) wT from items_cs n _).e0 fun c => Cs.bd (Cs.take _) fun _ => Cs.pr (by simp only [we_C, wT]; omega)
theorem parse_cs (n : Nat) : Cs 0 (parseM n) wE := Cs.bd Cs.next fun _ => Cs.bd (contract_cs n) fun x => Cs.bd endT_cs fun _ => Cs.pr (Nat.le_refl _)
theorem Cs.rv {α : Type} {W : α → Nat} {F : Nat → PM α} {σ τ : St} {x : α} (h : Rv F (.ok σ) x (.ok τ)) (k : ∀ n, Cs 0 (F n) W) : W x ≤ bud σ := by
 obtain ⟨n, h⟩ := h;have h := h n (Nat.le_refl _)
 cases hF : F n σ with
 | error e => cases h.get_err hF
 | ok p =>
  obtain ⟨y, τ'⟩ := p;rw [(h.get_ok hF).1];have := k n σ y τ' hF;omega
end Go.Proofs.YtpofgnlkhkednaaGreatDoor
