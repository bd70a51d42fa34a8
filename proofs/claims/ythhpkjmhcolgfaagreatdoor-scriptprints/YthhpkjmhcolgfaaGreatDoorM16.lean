import Derived.Test.YthhpkjmhcolgfaaGreatDoorSRmid2
namespace Go.Proofs.YthhpkjmhcolgfaaGreatDoor
open Go.RowKit
set_option linter.unusedVariables false
set_option linter.unusedSimpArgs false
set_option maxRecDepth 20000
set_option maxHeartbeats 8000000
def chainT (n : Nat) : Nat → Nat → EV → PM EV
 | 0, _, x => pur x
 | h + 1, lo, x => if h + 1 < lo then pur x else bnd (if h + 1 = 3 then pur x else loopT n ((h : Int) + 1) x) fun y => chainT n h lo y
theorem chain_eq (n h lo : Nat) (x : EV) : chainT n (h + 1) lo x = if h + 1 < lo then pur x else bnd (if h + 1 = 3 then pur x else loopT n ((h : Int) + 1) x) fun y => chainT n h lo y := rfl
theorem chain_stop {n hi lo : Nat} {x : EV} (h : hi < lo) : chainT n hi lo x = pur x := by
 cases hi with
 | zero => rfl
 | succ k => rw [chainT, if_pos h]
theorem pur_bnd {α : Type} (F : PM α) : (bnd F fun x => pur x) = F := by
 funext σ;simp only [bnd]
 cases F σ with
 | error e => rfl
 | ok p => rfl
theorem chain_last {n lo : Nat} (hlo : 0 < lo) : ∀ {hi : Nat} {x : EV}, lo ≤ hi → chainT n hi lo x = bnd (chainT n hi (lo + 1) x) fun y => if lo = 3 then pur y else loopT n lo y
 | 0, x, h => by omega
 | k + 1, x, h => by
  rw [chainT, if_neg (by omega)]
  by_cases e : k + 1 = lo
  ·subst e;rw [chain_stop (hi := k + 1) (lo := k + 1 + 1) (by omega), bnd_pur];rw [show (fun y => chainT n k (k + 1) y) = fun y => pur y from funext fun y => chain_stop (by omega), pur_bnd]
   by_cases h3 : k + 1 = 3
   ·rw [if_pos h3, if_pos h3]
   ·rw [if_neg h3, if_neg h3]; rfl
  ·rw [chain_eq n k (lo + 1) x, if_neg (show ¬ k + 1 < lo + 1 by omega)]
   by_cases h3 : k + 1 = 3
   ·rw [if_pos h3, bnd_pur, bnd_pur];exact chain_last hlo (by omega)
   ·rw [if_neg h3, bnd_assoc];exact congrArg _ (funext fun y => chain_last hlo (by omega))
theorem Rv.pur {α : Type} (x : α) (S : ES) : Rv (fun _ => pur x) S x S := Rv.of (Rel.pur x S)
theorem Rv.to {α : Type} {F G : Nat → PM α} {S S' : ES} {x : α} (h : Rv F S x S') (e : ∀ n, F n = G n) : Rv G S x S' := (funext e : F = G) ▸ h
theorem Rv.unbind {α β : Type} [Inhabited α] {F : Nat → PM α} {G : Nat → α → PM β} {S S2 : ES} {y : β} (hF : ∀ n, Le (F n) (F (n + 1))) (h0 : S2 ≠ .error 0) (h : Rv (fun n => bnd (F n) (G n)) S y S2) : ∃ x S1, Rv F S x S1 ∧ Rv (fun n => G n x) S1 y S2 := by
 obtain ⟨n0, h⟩ := h;obtain ⟨x, S1, h1, h2⟩ := Rel.unbind (h n0 (Nat.le_refl _))
 have hz : S1 ≠ .error 0 := fun e => by
  subst e;exact h0 h2
 have r1 : Rv F S x S1 := Rv.up h1 hF hz;refine ⟨x, S1, r1, n0, fun n hn => ?_⟩
 have r2 : Rel (F n) S x S1 := by
  obtain ⟨d, rfl⟩ := Nat.exists_eq_add_of_le hn;clear hn
  induction d with
  | zero => exact h1
  | succ d ih => exact ih.up (hF _) hz
 have g := h n hn
 cases S with
 | error e =>
  have r2 : S1 = .error e := r2;subst r2;exact g
 | ok σ =>
  cases hFn : F n σ with
  | error e =>
   have := r2.get_err hFn;subst this;exact g.get_err (by simp only [bnd, hFn])
  | ok p =>
   obtain ⟨z, τ⟩ := p;obtain ⟨rfl, rfl⟩ := r2.get_ok hFn;unfold Rel at g ⊢
   simpa only [bnd, hFn] using g
theorem Rv.any {α : Type} {F : Nat → PM α} {S : ES} {x y : α} {e : Int} (h : Rv F S x (.error e)) : Rv F S y (.error e) := by
 obtain ⟨n0, h⟩ := h;refine ⟨n0, fun n hn => ?_⟩;have g := h n hn
 cases S with
 | error e => exact g
 | ok σ =>
  cases hF : F n σ with
  | error e' =>
   cases g.get_err hF;exact Rel.of_err hF
  | ok p =>
   obtain ⟨z, τ⟩ := p;cases (g.get_ok hF).2
theorem Rv.then_pur {α : Type} {F : Nat → PM α} {S S1 S' : ES} {x y : α} (h : Rv F S x S1) (g : Rv (fun _ => Go.Proofs.YthhpkjmhcolgfaaGreatDoor.pur x) S1 y S') : Rv F S y S' := by
 obtain ⟨e, hx⟩ := g.det (Rv.pur x S1);subst e
 cases S' with
 | error e => exact h.any
 | ok τ => rw [hx τ rfl]; exact h
theorem loop_le (r : Int) (x : EV) (n : Nat) : Le (loopT n r x) (loopT (n + 1) r x) := (expr_le n).2.1 r x
theorem chain_le : ∀ (hi lo : Nat) (x : EV) (n : Nat), Le (chainT n hi lo x) (chainT (n + 1) hi lo x)
 | 0, lo, x, n => Le.refl _
 | h + 1, lo, x, n => by
  rw [chainT, chainT];exact Le.ite (Le.refl _) (Le.bnd (Le.ite (Le.refl _) (loop_le _ _ n)) fun y => chain_le h lo y n)
theorem expr_atom {S S1 : ES} {x : EV} (ha : Rv atomT S x S1) : ∀ (k r : Nat), r + k = 7 → 0 < r → (r ≤ 3 → stands kNot S = false) → ∀ (y : EV) (S' : ES), S' ≠ .error 0 → Rv (fun n => chainT n 6 r x) S1 y S' → Rv (fun n => exprT n r) S y S'
 | 0, r, hr, h0, hn, y, S', hz, hc => by
  have : r = 7 := by omega
  subst this;have e : Rv (fun _ => Go.Proofs.YthhpkjmhcolgfaaGreatDoor.pur x) S1 y S' := hc.to fun n => chain_stop (by omega);exact Rv.succ ((ha.then_pur e).to fun n => by rw [exprT]; rfl)
 | k + 1, r, hr, h0, hn, y, S', hz, hc => by
  have e : Rv (fun n => bnd (chainT n 6 (r + 1) x) fun y => if r = 3 then Go.Proofs.YthhpkjmhcolgfaaGreatDoor.pur y else loopT n r y) S1 y S' := hc.to fun n => chain_last h0 (by omega);obtain ⟨z, S2, h1, h2⟩ := Rv.unbind (fun n => chain_le 6 (r + 1) x n) hz e
  have hz2 : S2 ≠ .error 0 := fun e => by
   subst e;obtain ⟨n, h2⟩ := h2;exact hz (h2 n (Nat.le_refl _))
  have ih := expr_atom ha k (r + 1) (by omega) (by omega) (fun q => hn (by omega)) z S2 hz2 h1;refine Rv.succ ?_
  by_cases h3 : r = 3
  ·subst h3;have h2 : Rv (fun _ => Go.Proofs.YthhpkjmhcolgfaaGreatDoor.pur z) S2 y S' := h2;have g := (Rv.of (rel_is kNot S)).bind (G := fun n c => if c then notT n else exprT n (3 + 1)) ((show Rv (fun n => exprT n 4) S z S2 from ih).to fun n => by rw [hn (by omega)]; rfl);have g : Rv (fun n => exprT (n + 1) 3) S z S2 := g.to fun n => by rw [exprT]; rfl
   exact g.then_pur h2
  ·have h2 : Rv (fun n => loopT n r z) S2 y S' := h2.to fun n => by rw [if_neg h3]
   have g := ih.bind (G := fun n y => loopT n r y) h2;refine g.to fun n => ?_;rw [exprT, if_neg (by omega), if_neg (by omega)];rfl
def Lw {α : Type} (F : PM α) : Prop := ∀ σ x τ, Rel F (.ok σ) x (.ok τ) → (mu σ : Int) - 5000 ≤ σ.lv → σ.lv ≤ 32 → σ.lv - mu σ ≤ τ.lv - mu τ ∧ τ.lv ≤ 32
theorem mu_shr {α : Type} {F : PM α} (h : Shr F) {σ τ : St} {x : α} (q : Rel F (.ok σ) x (.ok τ)) : mu τ ≤ mu σ := by
 have q : 16 * mu τ ≤ 16 * mu σ := h _ _ _ q;omega
theorem Lw.keep {α : Type} {F : PM α} (h : Shr F) (g : ∀ σ x τ, Rel F (.ok σ) x (.ok τ) → τ.lv = σ.lv) : Lw F := fun σ x τ q h1 h2 => by
 have := mu_shr h q;have := g σ x τ q;omega
theorem Lw.bd {α β : Type} [Inhabited α] {F : PM α} {G : α → PM β} (h : Lw F) (g : ∀ x, Lw (G x)) : Lw (bnd F G) := fun σ y τ q h1 h2 => by
 obtain ⟨x, S1, h3, h4⟩ := Rel.unbind q
 cases S1 with
 | error e => cases (show Except.ok τ = Except.error e from h4)
 | ok σ1 =>
  have a := h σ x σ1 h3 h1 h2;have b := g x σ1 y τ h4 (by omega) a.2;omega
theorem Lw.fail {α : Type} (e : Int) : Lw (failT e : PM α) := fun σ x τ q => by cases q.get_err (e := e) rfl
theorem Lw.wrong {α : Type} : Lw (wrongT : PM α) := fun σ x τ q => by cases q.get_err (e := errT σ) rfl
theorem Lw.pur {α : Type} (x : α) : Lw (pur x) := Lw.keep (Shr.pur x) fun σ y τ q => by cases (q.get_ok rfl).2; rfl
theorem Lw.is (s : Key) : Lw (isT s) := Lw.keep (Shr.is s) fun σ y τ q => by cases (q.get_ok rfl).2; rfl
theorem Lw.pick (l : List (Int × Key)) : Lw (pickT l) := Lw.keep (Shr.pick l) fun σ y τ q => by cases (q.get_ok rfl).2; rfl
theorem next_lv {σ τ : St} (q : Rel nextT (.ok σ) () (.ok τ)) : τ.lv = σ.lv := by
 cases h : nextT σ with
 | error e => cases q.get_err h
 | ok p =>
  obtain ⟨⟨⟩, ρ⟩ := p;cases (q.get_ok h).2;unfold nextT at h
  split at h
  ·cases h
  ·cases h; rfl
theorem Lw.next : Lw nextT := Lw.keep Shr.next fun σ y τ q => next_lv q
theorem take_lv {s : Key} {σ τ : St} (q : Rel (takeT s) (.ok σ) () (.ok τ)) : τ.lv = σ.lv ∧ mu τ + 1 ≤ mu σ := by
 by_cases hs : σ.now = .fixed s
 ·have h : 16 * mu τ + 16 ≤ 16 * mu σ := (need_take q).2 (decide_eq_true hs);refine ⟨next_lv (Rel.at (F := takeT s) q fun ρ e => ?_), by omega⟩;injection e with e
  subst e;exact if_pos hs
 ·cases q.get_err (if_neg hs)
theorem Lw.take (s : Key) : Lw (takeT s) := Lw.keep (Shr.take s) fun σ y τ q => (take_lv q).1
theorem deeper_lv {σ τ : St} (q : Rel deeperT (.ok σ) () (.ok τ)) (h1 : (mu σ : Int) - 5000 ≤ σ.lv) (h2 : σ.lv ≤ 32) : τ.lv = σ.lv + 1 ∧ mu τ = mu σ ∧ τ.lv ≤ 32 := by
 by_cases h32 : σ.lv = 32
 ·cases q.get_err (if_pos h32)
 ·cases (q.get_ok (if_neg h32)).2;have : wrap64 (σ.lv + 1) = σ.lv + 1 := by unfold wrap64; omega
  refine ⟨this, rfl, ?_⟩;show wrap64 (σ.lv + 1) ≤ 32;omega
theorem Lw.deeper : Lw deeperT := fun σ x τ q h1 h2 => by
 have := deeper_lv q h1 h2;omega
theorem up_lv {σ τ : St} (q : Rel upT (.ok σ) () (.ok τ)) (h1 : -6000 ≤ σ.lv) (h2 : σ.lv ≤ 32) : τ.lv = σ.lv - 1 ∧ mu τ = mu σ := by
 cases (q.get_ok (y := ()) rfl).2;have : wrap64 (σ.lv - 1) = σ.lv - 1 := by unfold wrap64; omega
 exact ⟨this, rfl⟩
theorem Lw.shut (s : Key) : Lw (shutT s) := fun σ x τ q h1 h2 => by
 obtain ⟨⟨⟩, S1, h3, h4⟩ := Rel.unbind q
 cases S1 with
 | error e => cases (show Except.ok τ = Except.error e from h4)
 | ok σ1 =>
  have a := take_lv h3;have b := up_lv h4 (by omega) (by omega);omega
theorem Lw.ite {α : Type} {c : Prop} [Decidable c] {F G : PM α} (h : Lw F) (g : Lw G) : Lw (if c then F else G) := by
 by_cases q : c
 ·rw [if_pos q]; exact h
 ·rw [if_neg q]; exact g
theorem Lw.open (s : Key) : Lw (openT s) := Lw.bd (Lw.is s) fun c => Lw.bd (Lw.ite Lw.deeper (Lw.pur _)) fun _ => Lw.take s
theorem Lw.room (n m : Int) : Lw (roomT n m) := Lw.ite (Lw.fail _) (Lw.pur _)
theorem Lw.at {α : Type} {F : PM α} (h : ∀ σ, ∃ G : PM α, Lw G ∧ G σ = F σ) : Lw F := fun σ x τ q => by
 obtain ⟨G, hG, e⟩ := h σ;refine hG σ x τ ?_;unfold Rel at q ⊢;simp only [e];exact q
theorem Lw.name : Lw nameT := Lw.at fun σ => by
 cases h : σ.now with
 | name s => exact ⟨_, Lw.bd Lw.next fun _ => Lw.pur s, by unfold nameT; rw [h]⟩
 | num m => exact ⟨_, Lw.wrong, by unfold nameT; rw [h]; rfl⟩
 | none => exact ⟨_, Lw.wrong, by unfold nameT; rw [h]; rfl⟩
 | fin => exact ⟨_, Lw.wrong, by unfold nameT; rw [h]; rfl⟩
 | fixed s => exact ⟨_, Lw.wrong, by unfold nameT; rw [h]; rfl⟩
theorem not_lw {n : Nat} (h : Lw (exprT n 3)) : Lw (notT (n + 1)) := fun σ x τ q h1 h2 => by
 rw [notT] at q;obtain ⟨⟨⟩, S1, q1, q⟩ := Rel.unbind q
 cases S1 with
 | error e => cases (show Except.ok τ = Except.error e from q)
 | ok σ1 =>
  have a1 := deeper_lv q1 h1 h2;obtain ⟨⟨⟩, S2, q2, q⟩ := Rel.unbind q
  cases S2 with
  | error e => cases (show Except.ok τ = Except.error e from q)
  | ok σ2 =>
   have a2 := take_lv q2;obtain ⟨y, S3, q3, q⟩ := Rel.unbind q
   cases S3 with
   | error e => cases (show Except.ok τ = Except.error e from q)
   | ok σ3 =>
    have a3 := h σ2 y σ3 q3 (by omega) (by omega);obtain ⟨⟨⟩, S4, q4, q⟩ := Rel.unbind q
    cases S4 with
    | error e => cases (show Except.ok τ = Except.error e from q)
    | ok σ4 =>
     have a4 := up_lv q4 (by omega) (by omega);cases (q.get_ok rfl).2;omega
theorem expr_lw : ∀ n, (∀ r, Lw (exprT n r)) ∧ (∀ r x, Lw (loopT n r x)) ∧ Lw (notT n) ∧ (∀ o c, Lw (innerT n o c)) ∧ Lw (commaT n) ∧ (∀ l, Lw (moreT n l)) ∧ Lw (argsT n) ∧ Lw (namedT n) ∧ Lw (wordT n) ∧ Lw (atomT n) := by
 intro n
 induction n with
 | zero => exact ⟨fun _ => Lw.fail _, fun _ _ => Lw.fail _, Lw.fail _, fun _ _ => Lw.fail _, Lw.fail _, fun _ => Lw.fail _, Lw.fail _, Lw.fail _, Lw.fail _, Lw.fail _⟩
 | succ n ih =>
  obtain ⟨h1, h2, h3, h4, h5, h6, h7, h8, h9, h10⟩ := ih;refine ⟨fun r => ?_, fun r x => ?_, not_lw (h1 3), fun o c => ?_, ?_, fun l => ?_, ?_, ?_, ?_, ?_⟩
  ·rw [exprT];exact Lw.ite h10 (Lw.ite (Lw.bd (Lw.is _) fun c => Lw.ite h3 (h1 _)) (Lw.bd (h1 _) fun x => h2 _ x))
  ·rw [loopT];exact Lw.bd (Lw.pick _) fun op => Lw.ite (Lw.pur _) (Lw.bd Lw.next fun _ => Lw.bd (h1 _) fun y => Lw.ite (Lw.pur _) (h2 _ _))
  ·rw [innerT];exact Lw.bd (Lw.open _) fun _ => Lw.bd (h1 _) fun x => Lw.bd (Lw.shut _) fun _ => Lw.pur _
  ·rw [commaT];exact Lw.bd (Lw.is _) fun c => Lw.ite (Lw.pur _) (Lw.bd (h1 _) fun x => h6 _)
  ·rw [moreT];exact Lw.bd (Lw.is _) fun c => Lw.ite (Lw.bd (Lw.room _ _) fun _ => Lw.bd (Lw.take _) fun _ => Lw.bd (h1 _) fun x => h6 _) (Lw.pur _)
  ·rw [argsT];exact Lw.bd (Lw.open _) fun _ => Lw.bd h5 fun l => Lw.bd (Lw.shut _) fun _ => Lw.pur _
  ·rw [namedT];exact Lw.bd Lw.name fun s => Lw.bd (Lw.is _) fun c => Lw.ite (Lw.bd (h4 _ _) fun y => Lw.pur _) (Lw.bd (Lw.is _) fun d => Lw.ite (Lw.bd h7 fun l => Lw.pur _) (Lw.pur _))
  ·rw [wordT];exact Lw.bd (Lw.is _) fun c => Lw.ite (h4 _ _) (Lw.bd (Lw.is _) fun c => Lw.ite (Lw.bd (Lw.take _) fun _ => Lw.pur _) (Lw.bd (Lw.is _) fun c => Lw.ite (Lw.bd (Lw.take _) fun _ => Lw.pur _) (Lw.bd (Lw.pick _) fun op => Lw.ite Lw.wrong (Lw.bd Lw.next fun _ => Lw.ite (Lw.bd (h4 _ _) fun y => Lw.pur _) (Lw.pur _)))))
  ·refine Lw.at fun σ => ?_;rw [atomT]
   cases h : σ.now with
   | num m => exact ⟨_, Lw.bd Lw.next fun _ => Lw.pur (exP 1 m [] []), by simp only [h]⟩
   | name s => exact ⟨_, h8, by simp only [h]⟩
   | none => exact ⟨_, h9, by simp only [h]⟩
   | fin => exact ⟨_, h9, by simp only [h]⟩
   | fixed s => exact ⟨_, h9, by simp only [h]⟩
def Up : ES → Prop
 | .ok σ => (mu σ : Int) - 4999 ≤ σ.lv
 | .error _ => True
theorem up_take {s : Key} {S S1 : ES} (h0 : ∀ σ, S = .ok σ → (mu σ : Int) - 5000 ≤ σ.lv) (h : Rv (fun _ => takeT s) S () S1) : Up S1 := by
 obtain ⟨n, h⟩ := h;have h := h n (Nat.le_refl _)
 cases S with
 | error e => have h : S1 = .error e := h; subst h; trivial
 | ok σ =>
  cases S1 with
  | error e => trivial
  | ok τ =>
   have := take_lv h;have := h0 σ rfl;show (mu τ : Int) - 4999 ≤ τ.lv;omega
def downS : ES → ES
 | .ok σ => .ok { σ with lv := wrap64 (σ.lv - 1) }
 | .error e => .error e
theorem rel_down (S : ES) : Rel upT S () (downS S) := by
 cases S with
 | error e => rfl
 | ok σ => exact ⟨rfl, rfl⟩
theorem PBox.low {text : Key} {c : C4} {w : World} {b : Nat} {S : ES} (R : PBox text c w b S) : ∀ σ, S = .ok σ → (mu σ : Int) - 5000 ≤ σ.lv := fun σ e => by
 subst e;obtain ⟨a, t, h1, h2, k, h3, h4, h5, h6⟩ := R;exact h6
theorem PBox.high {text : Key} {c : C4} {w : World} {b : Nat} {S : ES} (R : PBox text c w b S) : ∀ σ, S = .ok σ → σ.lv ≤ 32 := fun σ e => by
 subst e;obtain ⟨a, t, h1, h2, k, h3, h4, h5, h6⟩ := R;exact h5
theorem PBox.down {text : Key} {c : C4} {w : World} {b : Nat} {S : ES} (R : PBox text c w b S) (hu : Up S) : ∃ at_ kd tx n lv e, Blk w b (pC text at_ kd tx n lv e c) 48 ∧ ∀ w', Blk w' b (pC text at_ kd tx n (IntKind.i64.wrap (lv - 1)) e c) 48 → PBox text c w' b (downS S) := by
 cases S with
 | ok σ =>
  obtain ⟨a, t, h1, h2, k, h3, h4, h5, h6⟩ := R;have hu : (mu σ : Int) - 4999 ≤ σ.lv := hu;have e1 : IntKind.i64.wrap (σ.lv - 1) = σ.lv - 1 := wrapJ _ (by omega) (by omega);have e2 : wrap64 (σ.lv - 1) = σ.lv - 1 := by unfold wrap64; omega
  refine ⟨a, _, t, _, _, _, k, fun w' k' => ?_⟩;rw [e1] at k';rw [downS, e2];refine ⟨a, t, h1, h2, k', h3, h4, by show σ.lv - 1 ≤ 32; omega, ?_⟩;have : mu { σ with lv := σ.lv - 1 } = mu σ := rfl;rw [this];show _ ≤ σ.lv - 1;omega
 | error er =>
  obtain ⟨h, a, kd, t, n, lv, k⟩ := R;exact ⟨a, kd, t, n, lv, er, k, fun w' k' => ⟨h, _, _, _, _, _, k'⟩⟩
theorem rshut_m (s : Key) (text : Key) (c : C4) (b : Nat) (S : ES) : Meth Tryz.prog (PdX text c b) (fun k => k = b) 81 [ptr b, .string (str s)] S fun v fs S' => Rv (fun _ => shutT s) S () S' := by
 refine ⟨by kernel_rfl, fun wO R _ => ?_⟩;have M := pd_begin R;have kn := (Kn.here (F := fun _ => shutT s) (S := S)).to fun _ => rfl;have h0 := R.low;refine sw_fn Tryz.func81 rfl 14 Tryz.ntmps81 rfl fun A F => ?_;refine sq (rg ?_);refine mv F fun A F=>?_;refine mv F fun A F=>?_;refine sw_call0 (rneed_m s text c b S) F M ⟨rfl, rfl, rfl⟩ rfl rfl ?_;rintro _ S1 A w ⟨_, h2⟩ F M;replace kn := kn.step h2;refine en (rg ?_);refine mv F fun A F=>?_;refine ni F fun A F=>?_;refine fl F 5 fun A F=>?_;obtain ⟨atq, kdq, txq, nq, lvq, eq, kb, hdn⟩ := M.st.down (up_take h0 h2);refine sw_ext F ((kb.cell 5).trans rfl) ⟨rfl, rfl, rfl⟩ rfl (by kernel_rfl) rfl fun A F => ?_;refine sw_subw F ⟨rfl, rfl, rfl⟩ rfl rfl rfl fun A F => ?_;refine ni F fun A F=>?_;refine fl F 5 fun A F=>?_;refine sw_setX1 F ⟨rfl, rfl, rfl⟩ rfl rfl kb (by kernel_rfl) rfl rfl rfl fun w B kb => ?_;replace M := M.unit B (hdn _ kb);replace kn := kn.last (Rv.of (rel_down S1));refine sw_end ?_;repeat first|refine tn ?_|refine bn ?_
 exact sw_endnone F Tryz.results81 ⟨_, [], (downS S1), rfl, M.but, M.st, lie_nil _ _, kn⟩
def leafI (s : Key) : Int := bif s == [115, 101, 108, 102] then 20 else bif s == [99, 97, 108, 108, 101, 114] then 21 else bif s == [118, 97, 108, 117, 101] then 22 else bif s == [104, 101, 105, 103, 104, 116] then 23 else 0
theorem rpLeaf_any (s : Key) (wO : World) : Calls Tryz.prog 172 ([.string (str s)] : List Value).toArray wO fun e w' => e = .returned (.int .i64 (leafI s)) ∧ w' = wO := by
 refine sw_fn Tryz.func172 rfl 12 Tryz.ntmps172 rfl fun A F => ?_;refine sq (rg ?_);refine as1 F fun A F=>?_;refine en (sq (sq (rg ?_)));refine mv F fun A F=>?_;refine en (wp_block ?_);refine sq (rg ?_);refine sw_seq2 F ⟨rfl, rfl, rfl⟩ rfl rfl rfl fun A F => ?_;refine as1 F fun A F=>?_;refine en (cd F (fun hc1=>?_) fun hc1=>?_)
 ·refine sq (rg ?_);refine as1 F fun A F=>?_;refine en (wp_ret ?_);repeat first|refine tr ?_|refine br ?_
  exact sw_rettmp F Tryz.results172 rfl ⟨by simp only [leafI, hc1, cond_true, cond_false], rfl⟩
 refine sq (rg ?_);refine sw_seq2 F ⟨rfl, rfl, rfl⟩ rfl rfl rfl fun A F => ?_;refine as1 F fun A F=>?_;refine en (cd F (fun hc2=>?_) fun hc2=>?_)
 ·refine sq (rg ?_);refine as1 F fun A F=>?_;refine en (wp_ret ?_);repeat first|refine tr ?_|refine br ?_
  exact sw_rettmp F Tryz.results172 rfl ⟨by simp only [leafI, hc1, hc2, cond_true, cond_false], rfl⟩
 refine sq (rg ?_);refine sw_seq2 F ⟨rfl, rfl, rfl⟩ rfl rfl rfl fun A F => ?_;refine as1 F fun A F=>?_;refine en (cd F (fun hc3=>?_) fun hc3=>?_)
 ·refine sq (rg ?_);refine as1 F fun A F=>?_;refine en (wp_ret ?_);repeat first|refine tr ?_|refine br ?_
  exact sw_rettmp F Tryz.results172 rfl ⟨by simp only [leafI, hc1, hc2, hc3, cond_true, cond_false], rfl⟩
 refine sq (rg ?_);refine sw_seq2 F ⟨rfl, rfl, rfl⟩ rfl rfl rfl fun A F => ?_;refine as1 F fun A F=>?_;refine en (cd F (fun hc4=>?_) fun hc4=>?_)
 ·refine sq (rg ?_);refine as1 F fun A F=>?_;refine en (wp_ret ?_);repeat first|refine tr ?_|refine br ?_
  exact sw_rettmp F Tryz.results172 rfl ⟨by simp only [leafI, hc1, hc2, hc3, hc4, cond_true, cond_false], rfl⟩
 refine wp_skip (sq (rg ?_));refine as1 F fun A F=>?_;refine en (wp_ret ?_);repeat first|refine tr ?_|refine br ?_
 exact sw_rettmp F Tryz.results172 rfl ⟨by simp only [leafI, hc1, hc2, hc3, hc4, cond_true, cond_false], rfl⟩
def ofI (s : Key) : Int := bif s == [98, 97, 108, 97, 110, 99, 101] then 24 else bif s == [119, 104, 111] then 25 else bif s == [110, 117, 109] then 26 else 0
theorem rpOf_any (s : Key) (wO : World) : Calls Tryz.prog 173 ([.string (str s)] : List Value).toArray wO fun e w' => e = .returned (.int .i64 (ofI s)) ∧ w' = wO := by
 refine sw_fn Tryz.func173 rfl 10 Tryz.ntmps173 rfl fun A F => ?_;refine sq (rg ?_);refine as1 F fun A F=>?_;refine en (sq (sq (rg ?_)));refine mv F fun A F=>?_;refine en (wp_block ?_);refine sq (rg ?_);refine sw_seq2 F ⟨rfl, rfl, rfl⟩ rfl rfl rfl fun A F => ?_;refine as1 F fun A F=>?_;refine en (cd F (fun hc1=>?_) fun hc1=>?_)
 ·refine sq (rg ?_);refine as1 F fun A F=>?_;refine en (wp_ret ?_);repeat first|refine tr ?_|refine br ?_
  exact sw_rettmp F Tryz.results173 rfl ⟨by simp only [ofI, hc1, cond_true, cond_false], rfl⟩
 refine sq (rg ?_);refine sw_seq2 F ⟨rfl, rfl, rfl⟩ rfl rfl rfl fun A F => ?_;refine as1 F fun A F=>?_;refine en (cd F (fun hc2=>?_) fun hc2=>?_)
 ·refine sq (rg ?_);refine as1 F fun A F=>?_;refine en (wp_ret ?_);repeat first|refine tr ?_|refine br ?_
  exact sw_rettmp F Tryz.results173 rfl ⟨by simp only [ofI, hc1, hc2, cond_true, cond_false], rfl⟩
 refine sq (rg ?_);refine sw_seq2 F ⟨rfl, rfl, rfl⟩ rfl rfl rfl fun A F => ?_;refine as1 F fun A F=>?_;refine en (cd F (fun hc3=>?_) fun hc3=>?_)
 ·refine sq (rg ?_);refine as1 F fun A F=>?_;refine en (wp_ret ?_);repeat first|refine tr ?_|refine br ?_
  exact sw_rettmp F Tryz.results173 rfl ⟨by simp only [ofI, hc1, hc2, hc3, cond_true, cond_false], rfl⟩
 refine wp_skip (sq (rg ?_));refine as1 F fun A F=>?_;refine en (wp_ret ?_);repeat first|refine tr ?_|refine br ?_
 exact sw_rettmp F Tryz.results173 rfl ⟨by simp only [ofI, hc1, hc2, hc3, cond_true, cond_false], rfl⟩
def plainI (s : Key) : Int := bif s == [114, 101, 116, 117, 114, 110] then 6 else bif s == [110, 101, 101, 100] then 7 else bif s == [110, 111, 116, 101] then 9 else 0
theorem rpPlain_any (s : Key) (wO : World) : Calls Tryz.prog 114 ([.string (str s)] : List Value).toArray wO fun e w' => e = .returned (.int .i64 (plainI s)) ∧ w' = wO := by
 refine sw_fn Tryz.func114 rfl 10 Tryz.ntmps114 rfl fun A F => ?_;refine sq (rg ?_);refine as1 F fun A F=>?_;refine en (sq (sq (rg ?_)));refine mv F fun A F=>?_;refine en (wp_block ?_);refine sq (rg ?_);refine sw_seq2 F ⟨rfl, rfl, rfl⟩ rfl rfl rfl fun A F => ?_;refine as1 F fun A F=>?_;refine en (cd F (fun hc1=>?_) fun hc1=>?_)
 ·refine sq (rg ?_);refine as1 F fun A F=>?_;refine en (wp_ret ?_);repeat first|refine tr ?_|refine br ?_
  exact sw_rettmp F Tryz.results114 rfl ⟨by simp only [plainI, hc1, cond_true, cond_false], rfl⟩
 refine sq (rg ?_);refine sw_seq2 F ⟨rfl, rfl, rfl⟩ rfl rfl rfl fun A F => ?_;refine as1 F fun A F=>?_;refine en (cd F (fun hc2=>?_) fun hc2=>?_)
 ·refine sq (rg ?_);refine as1 F fun A F=>?_;refine en (wp_ret ?_);repeat first|refine tr ?_|refine br ?_
  exact sw_rettmp F Tryz.results114 rfl ⟨by simp only [plainI, hc1, hc2, cond_true, cond_false], rfl⟩
 refine sq (rg ?_);refine sw_seq2 F ⟨rfl, rfl, rfl⟩ rfl rfl rfl fun A F => ?_;refine as1 F fun A F=>?_;refine en (cd F (fun hc3=>?_) fun hc3=>?_)
 ·refine sq (rg ?_);refine as1 F fun A F=>?_;refine en (wp_ret ?_);repeat first|refine tr ?_|refine br ?_
  exact sw_rettmp F Tryz.results114 rfl ⟨by simp only [plainI, hc1, hc2, hc3, cond_true, cond_false], rfl⟩
 refine wp_skip (sq (rg ?_));refine as1 F fun A F=>?_;refine en (wp_ret ?_);repeat first|refine tr ?_|refine br ?_
 exact sw_rettmp F Tryz.results114 rfl ⟨by simp only [plainI, hc1, hc2, hc3, cond_true, cond_false], rfl⟩
theorem flatV_at {sz : Nat} : ∀ (es : List (List Fld)) (k : Nat) (d : List Fld), (∀ d ∈ es, d.length = sz) → es[k]? = some d → ∀ i u, (d.map Fld.val)[i]? = some u → (flatV es)[k * sz + i]? = some u
 | [], k, d, hl, hk, i, u, hi => by simp at hk
 | e :: es, 0, d, hl, hk, i, u, hi => by
  simp at hk;subst hk;show (e.map Fld.val ++ flatV es)[0 * sz + i]? = some u;have : i < (e.map Fld.val).length := (List.getElem?_eq_some_iff.1 hi).1;rw [Nat.zero_mul, Nat.zero_add, List.getElem?_append_left this];exact hi
 | e :: es, k + 1, d, hl, hk, i, u, hi => by
  show (e.map Fld.val ++ flatV es)[(k + 1) * sz + i]? = some u;have h1 : (e.map Fld.val).length = sz := by rw [List.length_map]; exact hl e (List.mem_cons_self ..)
  have h2 : (k + 1) * sz + i = sz + (k * sz + i) := by rw [Nat.succ_mul]; omega
  rw [h2, List.getElem?_append_right (by omega), h1, Nat.add_sub_cancel_left];exact flatV_at es k d (fun x hx => hl x (List.mem_cons_of_mem _ hx)) (by simpa using hk) i u hi
theorem lie_range (sz : Nat) {lo : Nat} {w : World} {b o lc : Nat} {es : List (List Fld)} (h : (Fld.l (some ⟨b, o, none⟩) lc es).lies lo w) (hl : ∀ d ∈ es, d.length = sz) {k : Nat} {d : List Fld} (hk : es[k]? = some d) : w.rangeAt b (o + k * sz) (d.map Fld.val) := fun i u hi => by
 obtain ⟨h1, h2, h3⟩ := h;rcases h3 with h3 | ⟨rb, ro, e, q1, q2, q3⟩
 ·subst h3;simp at hk
 ·injection e with e
  injection e with e1 e2 _
  subst e1 e2;have := (rowsLie_src q3).1 _ u (flatV_at es k d hl hk i u hi);rw [Nat.add_assoc];exact this
section
variable {P : Program} {ops : Array Oper} {Q : Exit → Act → World → Prop} {a : Act} {w : World} {rest : List Oper} {o : Oper} {N : Nat} {L : List (Nat × Value)}
theorem sw_rng (F : Fm N L a) {i : Nat} {t : TypeId} {x : Operand} {b n : Nat} {cs : List Value} (hc : w.rangeAt b n cs) (h : Is o (some i) (.load t x)) (hx : opv L x = some (.pointer (some ⟨b, n, none⟩))) (ht : rowT P t = true) (hz : (P.info? t).map (·.size) = some cs.length) (hi : Nat.blt i N = true) (K : ∀ a', Fm N ((i, .agg cs.toArray) :: L) a' → wpList P ops Q rest a' w) : wpList P ops Q (o :: rest) a w := by
 obtain ⟨d, hu, hd⟩ := rowT_out ht;exact ol_row h.2.2 h.2.1 (F.ev hx) hc hu hd hz (by rw [h.1]; exact K _ (F.put hi))
end
def opn : List (Key × Int × Int) := [([111, 114], 6, 1), ([97, 110, 100], 7, 2), ([61, 61], 9, 4), ([33, 61], 10, 4), ([60], 11, 4), ([60, 61], 12, 4), ([62], 13, 4), ([62, 61], 14, 4), ([43], 15, 5), ([45], 16, 5), ([42], 17, 6), ([47], 18, 6), ([37], 19, 6)]
def opF (p : Key × Int × Int) : List Fld := [.s p.1, .i p.2.1, .i p.2.2]
def opsF : List (List Fld) := opn.map opF
theorem opsF_len : ∀ d ∈ opsF, d.length = 3 := fun d hd => by
 obtain ⟨p, _, rfl⟩ := List.mem_map.1 hd;rfl
theorem opn_ok : ∀ p ∈ opn, (0 ≤ p.2.1 ∧ p.2.1 ≤ 26) ∧ (0 ≤ p.2.2 ∧ p.2.2 ≤ 6) := by decide
def hereI : List (Key × Int × Int) → ES → Key × Int × Int
 | [], _ => ([], 0, 0)
 | p :: r, S => bif stands p.1 S then p else hereI r S
theorem here_at {k : Nat} {p : Key × Int × Int} {S : ES} (h : opn[k]? = some p) : hereI (opn.drop k) S = bif stands p.1 S then p else hereI (opn.drop (k + 1)) S := by
 obtain ⟨h1, h2⟩ := List.getElem?_eq_some_iff.1 h;rw [List.drop_eq_getElem_cons h1, h2];rfl
theorem rops_m (text : Key) (c : C4) (b : Nat) (S : ES) : Meth Tryz.prog (PdX text c b) (fun k => k = b) 187 [] S fun v fs S' => S = S' ∧ ∃ x, v = .slice (some ⟨x, 0, none⟩) 13 13 ∧ fs = [.l (some ⟨x, 0, none⟩) 13 opsF] := by
 refine ⟨by kernel_rfl, fun wO R _ => ?_⟩;have M := pd_begin R;refine sw_fn Tryz.func187 rfl 15 Tryz.ntmps187 rfl fun A F => ?_;refine sq (rg ?_);refine as1 F fun A F=>?_;refine en (sq (rg ?_));refine sw_build F _ [.string (str [111, 114]), .int .i64 6, .int .i64 1] ⟨rfl, rfl, rfl⟩ rfl (by kernel_rfl) rfl fun A F => ?_;refine sw_build F _ [.string (str [97, 110, 100]), .int .i64 7, .int .i64 2] ⟨rfl, rfl, rfl⟩ rfl (by kernel_rfl) rfl fun A F => ?_;refine sw_build F _ [.string (str [61, 61]), .int .i64 9, .int .i64 4] ⟨rfl, rfl, rfl⟩ rfl (by kernel_rfl) rfl fun A F => ?_;refine sw_build F _ [.string (str [33, 61]), .int .i64 10, .int .i64 4] ⟨rfl, rfl, rfl⟩ rfl (by kernel_rfl) rfl fun A F => ?_;refine sw_build F _ [.string (str [60]), .int .i64 11, .int .i64 4] ⟨rfl, rfl, rfl⟩ rfl (by kernel_rfl) rfl fun A F => ?_;refine sw_build F _ [.string (str [60, 61]), .int .i64 12, .int .i64 4] ⟨rfl, rfl, rfl⟩ rfl (by kernel_rfl) rfl fun A F => ?_;refine sw_build F _ [.string (str [62]), .int .i64 13, .int .i64 4] ⟨rfl, rfl, rfl⟩ rfl (by kernel_rfl) rfl fun A F => ?_;refine sw_build F _ [.string (str [62, 61]), .int .i64 14, .int .i64 4] ⟨rfl, rfl, rfl⟩ rfl (by kernel_rfl) rfl fun A F => ?_;refine sw_build F _ [.string (str [43]), .int .i64 15, .int .i64 5] ⟨rfl, rfl, rfl⟩ rfl (by kernel_rfl) rfl fun A F => ?_;refine sw_build F _ [.string (str [45]), .int .i64 16, .int .i64 5] ⟨rfl, rfl, rfl⟩ rfl (by kernel_rfl) rfl fun A F => ?_;refine sw_build F _ [.string (str [42]), .int .i64 17, .int .i64 6] ⟨rfl, rfl, rfl⟩ rfl (by kernel_rfl) rfl fun A F => ?_;refine sw_build F _ [.string (str [47]), .int .i64 18, .int .i64 6] ⟨rfl, rfl, rfl⟩ rfl (by kernel_rfl) rfl fun A F => ?_;refine sw_build F _ [.string (str [37]), .int .i64 19, .int .i64 6] ⟨rfl, rfl, rfl⟩ rfl (by kernel_rfl) rfl fun A F => ?_;refine sw_mkrow (ety := 186) (sz := 3) (z := .agg #[.string ⟨#[]⟩, .int .i64 0, .int .i64 0]) F M _ opsF ⟨rfl, rfl, rfl⟩ rfl (by kernel_rfl) (by kernel_rfl) rfl (by kernel_rfl) rfl ?_ ?_ rfl fun x1 A w F M => ?_
 ·intro g hg;obtain ⟨p, hp, rfl⟩ := List.mem_map.1 hg;have q := opn_ok p hp;exact ⟨rfl, lie_cons trivial (lie_cons ⟨by omega, by omega⟩ (lie_cons ⟨by omega, by omega⟩ (lie_nil _ _)))⟩
 ·intro i f b hf hm g hg;obtain ⟨p, _, rfl⟩ := List.mem_map.1 hg;intro y hy;rcases List.mem_cons.1 hy with rfl | hy
  ·trivial
  rcases List.mem_cons.1 hy with rfl | hy
  ·trivial
  rw [List.mem_singleton.1 hy];trivial
 refine as1 F fun A F=>?_;refine en (wp_ret ?_);repeat first|refine tr ?_|refine br ?_
 exact sw_rettmp F Tryz.results187 rfl ⟨_, [.l (some ⟨x1, 0, none⟩) 13 opsF], S, rfl, M.but, M.st, lie_cons (M.mem.rowlie 0 rfl) (lie_nil _ _), rfl, x1, rfl, rfl⟩
theorem rhere_m (text : Key) (c : C4) (b : Nat) (S : ES) : Meth Tryz.prog (PdX text c b) (fun k => k = b) 171 [ptr b] S fun v fs S' => S = S' ∧ v = .agg #[.string (str (hereI opn S).1), .int .i64 (hereI opn S).2.1, .int .i64 (hereI opn S).2.2] := by
 refine ⟨by kernel_rfl, fun wO R _ => ?_⟩;have M := pd_begin R;refine sw_fn Tryz.func171 rfl 26 Tryz.ntmps171 rfl fun A F => ?_;refine sq (rg ?_);refine alo F M [.string ⟨#[]⟩, .int .i64 0, .int .i64 0] fun r A w F M=>?_;refine en (sq (rg ?_));refine sw_call (rops_m text c b S) F M ⟨rfl, rfl, rfl⟩ rfl rfl ?_;rintro _ _ _ A w ⟨rfl, x, rfl, rfl⟩ F M;refine as1 F fun A F=>?_;refine en (sq (sq (rg ?_)));refine as1 F fun A F=>?_;refine en (wp_block ?_);refine wp_loop (fun A w => ∃ k : Nat, k ≤ 13 ∧ Fm 26 [(4, .int .i64 k), (3, .slice (some ⟨x, 0, none⟩) 13 13), (2, ptr r), (0, ptr b)] A ∧ Mm (PdX text c b) (fun k => k = b) wO [.val [.l (some ⟨x, 0, none⟩) 13 opsF], .box r [.string ⟨#[]⟩, .int .i64 0, .int .i64 0] 186] S w ∧ hereI opn S = hereI (opn.drop k) S) (fun A _ => 13 - (intOf (A.eval (.tmp 4))).toNat) ?_ ?_
 ·exact ⟨0, by omega, F.keep [4, 3, 2, 0] rfl, M, rfl⟩
 rintro A w ⟨k, hk, F, M, hpk⟩;have hA : A.eval (.tmp 4) = .int .i64 (k : Int) := F.2.2 4 _ rfl;refine sq (sq (rg ?_));refine mv F fun A F=>?_;refine mv F fun A F=>?_;refine sw_len F ⟨rfl, rfl, rfl⟩ rfl Tryz.underlying190 rfl fun A F => ?_;refine lsi F fun A F=>?_;refine en (cd F (fun hc1=>?_) fun hc1=>?_)
 ·have hk3 : k < 13 := by have := of_decide_eq_true hc1; omega
  obtain ⟨p, hget⟩ : ∃ p, opn[k]? = some p := ⟨_, List.getElem?_eq_getElem (by have : opn.length = 13 := rfl; omega)⟩;have hrg := lie_range 3 (M.mem.vallie 0 rfl) opsF_len (k := k) (d := opF p) (by rw [opsF, List.getElem?_map, hget]; rfl);refine wp_skip (sq ?_);refine wp_block ?_;refine sq (rg ?_);refine mv F fun A F=>?_;refine mv F fun A F=>?_;refine mv F fun A F=>?_;refine sw_at F 3 ⟨rfl, rfl, rfl⟩ rfl rfl hk3 Tryz.underlying190 (by kernel_rfl) rfl fun A F => ?_;refine fl F 0 fun A F=>?_;refine sw_ext F ((hrg 0 _ rfl)) ⟨rfl, rfl, rfl⟩ rfl (by kernel_rfl) rfl fun A F => ?_;refine sw_call0 (ris_m p.1 text c b S) F M ⟨rfl, rfl, rfl⟩ rfl rfl ?_;rintro _ _ A w ⟨_, rfl, rfl⟩ F M;refine as1 F fun A F=>?_;refine en (sq (rg ?_));refine mv F fun A F=>?_;refine en (cd F (fun hc2=>?_) fun hc2=>?_)
  ·have hst := hc2;have hrg := lie_range 3 (M.mem.vallie 0 rfl) opsF_len (k := k) (d := opF p) (by rw [opsF, List.getElem?_map, hget]; rfl);refine sq (rg ?_);refine mv F fun A F=>?_;refine mv F fun A F=>?_;refine sw_at F 3 ⟨rfl, rfl, rfl⟩ rfl rfl hk3 Tryz.underlying190 (by kernel_rfl) rfl fun A F => ?_;refine sw_rng F hrg ⟨rfl, rfl, rfl⟩ rfl (by kernel_rfl) (by kernel_rfl) rfl fun A F => ?_;refine sta F M 1 fun w M=>?_;refine en (wp_ret ?_);repeat first|refine tr ?_|refine br ?_
   exact sw_retbox F M 1 Tryz.results171 rfl rfl (by kernel_rfl) (by kernel_rfl) ⟨_, [], S, rfl, M.but, M.st, lie_nil _ _, rfl, by rw [hpk, here_at hget, hst, cond_true]; rfl⟩
  have hst := hc2;refine wp_skip (rg ?_);refine mv F fun A F=>?_;refine sw_add F ⟨rfl, rfl, rfl⟩ rfl rfl (by omega) rfl fun A F => ?_;refine as1 F fun A F=>?_;refine sw_end ?_;show _ ∧ _;refine ⟨⟨k + 1, by omega, F.keep [4, 3, 2, 0] rfl, M, by rw [hpk, here_at hget, hst, cond_false]⟩, ?_⟩;rw [(F.keep [4, 3, 2, 0] rfl).2.2 4 (.int .i64 ((k + 1 : Nat) : Int)) rfl, hA];simp only [intOf];omega
 have hk3 : k = 13 := by have := of_decide_eq_false hc1; omega
 refine wp_exit ?_;repeat (first | refine then_exit ?_ | refine exit_block ?_ | refine exit_pass rfl ?_)
 show Code.wp _ _ _ _ _;refine sq (rg ?_);refine sw_build F _ [.string ⟨#[]⟩, .int .i64 0, .int .i64 0] ⟨rfl, rfl, rfl⟩ rfl (by kernel_rfl) rfl fun A F => ?_;refine sta F M 1 fun w M=>?_;refine en (wp_ret ?_);repeat first|refine tr ?_|refine br ?_
 exact sw_retbox F M 1 Tryz.results171 rfl rfl (by kernel_rfl) (by kernel_rfl) ⟨_, [], S, rfl, M.but, M.st, lie_nil _ _, rfl, by rw [hpk, hk3]; rfl⟩
end Go.Proofs.YthhpkjmhcolgfaaGreatDoor
