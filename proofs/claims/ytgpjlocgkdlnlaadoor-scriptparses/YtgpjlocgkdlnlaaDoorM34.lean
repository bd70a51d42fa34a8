/- Expressions by their operators, as the answer reads them; levels are kept (no program). -/
import Derived.Test.YtgpjlocgkdlnlaaDoorSRmid2

namespace Go.Proofs.YtgpjlocgkdlnlaaDoor
open Go.RowKit
set_option linter.unusedVariables false
set_option linter.unusedSimpArgs false

/-- The loops of the ranks from hi down to lo. -/
def chainT (n : Nat) : Nat → Nat → EV → PM EV
  | 0, _, x => pur x
  | h + 1, lo, x => if h + 1 < lo then pur x else bnd (if h + 1 = 3 then pur x else loopT n ((h : Int) + 1) x) fun y => chainT n h lo y
theorem chain_eq (n h lo : Nat) (x : EV) : chainT n (h + 1) lo x = if h + 1 < lo then pur x else bnd (if h + 1 = 3 then pur x else loopT n ((h : Int) + 1) x) fun y => chainT n h lo y := rfl
theorem chain_stop {n hi lo : Nat} {x : EV} (h : hi < lo) : chainT n hi lo x = pur x := by
  cases hi with
  | zero => rfl
  | succ k => rw [chainT, if_pos h]
theorem pur_bnd {α : Type} (F : PM α) : (bnd F fun x => pur x) = F := by
  funext σ
  simp only [bnd]
  cases F σ with
  | error e => rfl
  | ok p => rfl
/-- The last rank apart. -/
theorem chain_last {n lo : Nat} (hlo : 0 < lo) : ∀ {hi : Nat} {x : EV}, lo ≤ hi → chainT n hi lo x = bnd (chainT n hi (lo + 1) x) fun y => if lo = 3 then pur y else loopT n lo y
  | 0, x, h => by omega
  | k + 1, x, h => by
    rw [chainT, if_neg (by omega)]
    by_cases e : k + 1 = lo
    · subst e
      rw [chain_stop (hi := k + 1) (lo := k + 1 + 1) (by omega), bnd_pur]
      rw [show (fun y => chainT n k (k + 1) y) = fun y => pur y from funext fun y => chain_stop (by omega), pur_bnd]
      by_cases h3 : k + 1 = 3
      · rw [if_pos h3, if_pos h3]
      · rw [if_neg h3, if_neg h3]; rfl
    · rw [chain_eq n k (lo + 1) x, if_neg (show ¬ k + 1 < lo + 1 by omega)]
      by_cases h3 : k + 1 = 3
      · rw [if_pos h3, bnd_pur, bnd_pur]
        exact chain_last hlo (by omega)
      · rw [if_neg h3, bnd_assoc]
        exact congrArg _ (funext fun y => chain_last hlo (by omega))
theorem Rv.pur {α : Type} (x : α) (S : ES) : Rv (fun _ => pur x) S x S := Rv.of (Rel.pur x S)
theorem Rv.to {α : Type} {F G : Nat → PM α} {S S' : ES} {x : α} (h : Rv F S x S') (e : ∀ n, F n = G n) : Rv G S x S' := (funext e : F = G) ▸ h
theorem Rv.unbind {α β : Type} [Inhabited α] {F : Nat → PM α} {G : Nat → α → PM β} {S S2 : ES} {y : β} (hF : ∀ n, Le (F n) (F (n + 1))) (h0 : S2 ≠ .error 0) (h : Rv (fun n => bnd (F n) (G n)) S y S2) : ∃ x S1, Rv F S x S1 ∧ Rv (fun n => G n x) S1 y S2 := by
  obtain ⟨n0, h⟩ := h
  obtain ⟨x, S1, h1, h2⟩ := Rel.unbind (h n0 (Nat.le_refl _))
  have hz : S1 ≠ .error 0 := fun e => by
    subst e
    exact h0 h2
  have r1 : Rv F S x S1 := Rv.up h1 hF hz
  refine ⟨x, S1, r1, n0, fun n hn => ?_⟩
  have r2 : Rel (F n) S x S1 := by
    obtain ⟨d, rfl⟩ := Nat.exists_eq_add_of_le hn
    clear hn
    induction d with
    | zero => exact h1
    | succ d ih => exact ih.up (hF _) hz
  have g := h n hn
  cases S with
  | error e =>
    have r2 : S1 = .error e := r2
    subst r2
    exact g
  | ok σ =>
    cases hFn : F n σ with
    | error e =>
      have := r2.get_err hFn
      subst this
      exact g.get_err (by simp only [bnd, hFn])
    | ok p =>
      obtain ⟨z, τ⟩ := p
      obtain ⟨rfl, rfl⟩ := r2.get_ok hFn
      unfold Rel at g ⊢
      simpa only [bnd, hFn] using g
theorem Rv.any {α : Type} {F : Nat → PM α} {S : ES} {x y : α} {e : Int} (h : Rv F S x (.error e)) : Rv F S y (.error e) := by
  obtain ⟨n0, h⟩ := h
  refine ⟨n0, fun n hn => ?_⟩
  have g := h n hn
  cases S with
  | error e => exact g
  | ok σ =>
    cases hF : F n σ with
    | error e' =>
      cases g.get_err hF
      exact Rel.of_err hF
    | ok p =>
      obtain ⟨z, τ⟩ := p
      cases (g.get_ok hF).2
/-- Read, and then nothing more. -/
theorem Rv.then_pur {α : Type} {F : Nat → PM α} {S S1 S' : ES} {x y : α} (h : Rv F S x S1) (g : Rv (fun _ => Go.Proofs.YtgpjlocgkdlnlaaDoor.pur x) S1 y S') : Rv F S y S' := by
  obtain ⟨e, hx⟩ := g.det (Rv.pur x S1)
  subst e
  cases S' with
  | error e => exact h.any
  | ok τ => rw [hx τ rfl]; exact h
theorem loop_le (r : Int) (x : EV) (n : Nat) : Le (loopT n r x) (loopT (n + 1) r x) := (expr_le n).2.1 r x
theorem chain_le : ∀ (hi lo : Nat) (x : EV) (n : Nat), Le (chainT n hi lo x) (chainT (n + 1) hi lo x)
  | 0, lo, x, n => Le.refl _
  | h + 1, lo, x, n => by
    rw [chainT, chainT]
    exact Le.ite (Le.refl _) (Le.bnd (Le.ite (Le.refl _) (loop_le _ _ n)) fun y => chain_le h lo y n)
theorem not_le (n : Nat) : Le (notT n) (notT (n + 1)) := (expr_le n).2.2.1
theorem atom_le (n : Nat) : Le (atomT n) (atomT (n + 1)) := (expr_le n).2.2.2.2.2.2.2.2.2
/-- An expression of a rank: what is read first, and the operators behind it. -/
theorem expr_atom {S S1 : ES} {x : EV} (ha : Rv atomT S x S1) : ∀ (k r : Nat), r + k = 7 → 0 < r → (r ≤ 3 → stands kNot S = false) → ∀ (y : EV) (S' : ES), S' ≠ .error 0 → Rv (fun n => chainT n 6 r x) S1 y S' → Rv (fun n => exprT n r) S y S'
  | 0, r, hr, h0, hn, y, S', hz, hc => by
    have : r = 7 := by omega
    subst this
    have e : Rv (fun _ => Go.Proofs.YtgpjlocgkdlnlaaDoor.pur x) S1 y S' := hc.to fun n => chain_stop (by omega)
    exact Rv.succ ((ha.then_pur e).to fun n => by rw [exprT]; rfl)
  | k + 1, r, hr, h0, hn, y, S', hz, hc => by
    have e : Rv (fun n => bnd (chainT n 6 (r + 1) x) fun y => if r = 3 then Go.Proofs.YtgpjlocgkdlnlaaDoor.pur y else loopT n r y) S1 y S' := hc.to fun n => chain_last h0 (by omega)
    obtain ⟨z, S2, h1, h2⟩ := Rv.unbind (fun n => chain_le 6 (r + 1) x n) hz e
    have hz2 : S2 ≠ .error 0 := fun e => by
      subst e
      obtain ⟨n, h2⟩ := h2
      exact hz (h2 n (Nat.le_refl _))
    have ih := expr_atom ha k (r + 1) (by omega) (by omega) (fun q => hn (by omega)) z S2 hz2 h1
    refine Rv.succ ?_
    by_cases h3 : r = 3
    · subst h3
      have h2 : Rv (fun _ => Go.Proofs.YtgpjlocgkdlnlaaDoor.pur z) S2 y S' := h2
      have g := (Rv.of (rel_is kNot S)).bind (G := fun n c => if c then notT n else exprT n (3 + 1)) ((show Rv (fun n => exprT n 4) S z S2 from ih).to fun n => by rw [hn (by omega)]; rfl)
      have g : Rv (fun n => exprT (n + 1) 3) S z S2 := g.to fun n => by rw [exprT]; rfl
      exact g.then_pur h2
    · have h2 : Rv (fun n => loopT n r z) S2 y S' := h2.to fun n => by rw [if_neg h3]
      have g := ih.bind (G := fun n y => loopT n r y) h2
      refine g.to fun n => ?_
      rw [exprT, if_neg (by omega), if_neg (by omega)]
      rfl
end Go.Proofs.YtgpjlocgkdlnlaaDoor

namespace Go.Proofs.YtgpjlocgkdlnlaaDoor
open Go.RowKit
set_option linter.unusedVariables false
set_option linter.unusedSimpArgs false

/-- Levels fall no faster than tokens are taken. -/
def Lw {α : Type} (F : PM α) : Prop := ∀ σ x τ, Rel F (.ok σ) x (.ok τ) → (mu σ : Int) - 5000 ≤ σ.lv → σ.lv ≤ 32 → σ.lv - mu σ ≤ τ.lv - mu τ ∧ τ.lv ≤ 32
theorem mu_shr {α : Type} {F : PM α} (h : Shr F) {σ τ : St} {x : α} (q : Rel F (.ok σ) x (.ok τ)) : mu τ ≤ mu σ := by
  have q : 16 * mu τ ≤ 16 * mu σ := h _ _ _ q
  omega
theorem Lw.keep {α : Type} {F : PM α} (h : Shr F) (g : ∀ σ x τ, Rel F (.ok σ) x (.ok τ) → τ.lv = σ.lv) : Lw F := fun σ x τ q h1 h2 => by
  have := mu_shr h q
  have := g σ x τ q
  omega
theorem Lw.bd {α β : Type} [Inhabited α] {F : PM α} {G : α → PM β} (h : Lw F) (g : ∀ x, Lw (G x)) : Lw (bnd F G) := fun σ y τ q h1 h2 => by
  obtain ⟨x, S1, h3, h4⟩ := Rel.unbind q
  cases S1 with
  | error e => cases (show Except.ok τ = Except.error e from h4)
  | ok σ1 =>
    have a := h σ x σ1 h3 h1 h2
    have b := g x σ1 y τ h4 (by omega) a.2
    omega
theorem Lw.fail {α : Type} (e : Int) : Lw (failT e : PM α) := fun σ x τ q => by cases q.get_err (e := e) rfl
theorem Lw.wrong {α : Type} : Lw (wrongT : PM α) := fun σ x τ q => by cases q.get_err (e := errT σ) rfl
theorem Lw.pur {α : Type} (x : α) : Lw (pur x) := Lw.keep (Shr.pur x) fun σ y τ q => by cases (q.get_ok rfl).2; rfl
theorem Lw.is (s : Key) : Lw (isT s) := Lw.keep (Shr.is s) fun σ y τ q => by cases (q.get_ok rfl).2; rfl
theorem Lw.pick (l : List (Int × Key)) : Lw (pickT l) := Lw.keep (Shr.pick l) fun σ y τ q => by cases (q.get_ok rfl).2; rfl
theorem next_lv {σ τ : St} (q : Rel nextT (.ok σ) () (.ok τ)) : τ.lv = σ.lv := by
  cases h : nextT σ with
  | error e => cases q.get_err h
  | ok p =>
    obtain ⟨⟨⟩, ρ⟩ := p
    cases (q.get_ok h).2
    unfold nextT at h
    split at h
    · cases h
    · cases h; rfl
theorem Lw.next : Lw nextT := Lw.keep Shr.next fun σ y τ q => next_lv q
theorem take_lv {s : Key} {σ τ : St} (q : Rel (takeT s) (.ok σ) () (.ok τ)) : τ.lv = σ.lv ∧ mu τ + 1 ≤ mu σ := by
  by_cases hs : σ.now = .fixed s
  · have h : 16 * mu τ + 16 ≤ 16 * mu σ := (need_take q).2 (decide_eq_true hs)
    refine ⟨next_lv (Rel.at (F := takeT s) q fun ρ e => ?_), by omega⟩
    injection e with e
    subst e
    exact if_pos hs
  · cases q.get_err (if_neg hs)
theorem Lw.take (s : Key) : Lw (takeT s) := Lw.keep (Shr.take s) fun σ y τ q => (take_lv q).1
theorem deeper_lv {σ τ : St} (q : Rel deeperT (.ok σ) () (.ok τ)) (h1 : (mu σ : Int) - 5000 ≤ σ.lv) (h2 : σ.lv ≤ 32) : τ.lv = σ.lv + 1 ∧ mu τ = mu σ ∧ τ.lv ≤ 32 := by
  by_cases h32 : σ.lv = 32
  · cases q.get_err (if_pos h32)
  · cases (q.get_ok (if_neg h32)).2
    have : wrap64 (σ.lv + 1) = σ.lv + 1 := by unfold wrap64; omega
    refine ⟨this, rfl, ?_⟩
    show wrap64 (σ.lv + 1) ≤ 32
    omega
theorem Lw.deeper : Lw deeperT := fun σ x τ q h1 h2 => by
  have := deeper_lv q h1 h2
  omega
theorem up_lv {σ τ : St} (q : Rel upT (.ok σ) () (.ok τ)) (h1 : -6000 ≤ σ.lv) (h2 : σ.lv ≤ 32) : τ.lv = σ.lv - 1 ∧ mu τ = mu σ := by
  cases (q.get_ok (y := ()) rfl).2
  have : wrap64 (σ.lv - 1) = σ.lv - 1 := by unfold wrap64; omega
  exact ⟨this, rfl⟩
theorem Lw.shut (s : Key) : Lw (shutT s) := fun σ x τ q h1 h2 => by
  obtain ⟨⟨⟩, S1, h3, h4⟩ := Rel.unbind q
  cases S1 with
  | error e => cases (show Except.ok τ = Except.error e from h4)
  | ok σ1 =>
    have a := take_lv h3
    have b := up_lv h4 (by omega) (by omega)
    omega
theorem Lw.ite {α : Type} {c : Prop} [Decidable c] {F G : PM α} (h : Lw F) (g : Lw G) : Lw (if c then F else G) := by
  by_cases q : c
  · rw [if_pos q]; exact h
  · rw [if_neg q]; exact g
theorem Lw.open (s : Key) : Lw (openT s) := Lw.bd (Lw.is s) fun c => Lw.bd (Lw.ite Lw.deeper (Lw.pur _)) fun _ => Lw.take s
theorem Lw.room (n m : Int) : Lw (roomT n m) := Lw.ite (Lw.fail _) (Lw.pur _)
theorem Lw.at {α : Type} {F : PM α} (h : ∀ σ, ∃ G : PM α, Lw G ∧ G σ = F σ) : Lw F := fun σ x τ q => by
  obtain ⟨G, hG, e⟩ := h σ
  refine hG σ x τ ?_
  unfold Rel at q ⊢
  simp only [e]
  exact q
theorem Lw.name : Lw nameT := Lw.at fun σ => by
  cases h : σ.now with
  | name s => exact ⟨_, Lw.bd Lw.next fun _ => Lw.pur s, by unfold nameT; rw [h]⟩
  | num m => exact ⟨_, Lw.wrong, by unfold nameT; rw [h]; rfl⟩
  | none => exact ⟨_, Lw.wrong, by unfold nameT; rw [h]; rfl⟩
  | fin => exact ⟨_, Lw.wrong, by unfold nameT; rw [h]; rfl⟩
  | fixed s => exact ⟨_, Lw.wrong, by unfold nameT; rw [h]; rfl⟩
theorem not_lw {n : Nat} (h : Lw (exprT n 3)) : Lw (notT (n + 1)) := fun σ x τ q h1 h2 => by
  rw [notT] at q
  obtain ⟨⟨⟩, S1, q1, q⟩ := Rel.unbind q
  cases S1 with
  | error e => cases (show Except.ok τ = Except.error e from q)
  | ok σ1 =>
    have a1 := deeper_lv q1 h1 h2
    obtain ⟨⟨⟩, S2, q2, q⟩ := Rel.unbind q
    cases S2 with
    | error e => cases (show Except.ok τ = Except.error e from q)
    | ok σ2 =>
      have a2 := take_lv q2
      obtain ⟨y, S3, q3, q⟩ := Rel.unbind q
      cases S3 with
      | error e => cases (show Except.ok τ = Except.error e from q)
      | ok σ3 =>
        have a3 := h σ2 y σ3 q3 (by omega) (by omega)
        obtain ⟨⟨⟩, S4, q4, q⟩ := Rel.unbind q
        cases S4 with
        | error e => cases (show Except.ok τ = Except.error e from q)
        | ok σ4 =>
          have a4 := up_lv q4 (by omega) (by omega)
          cases (q.get_ok rfl).2
          omega
theorem expr_lw : ∀ n, (∀ r, Lw (exprT n r)) ∧ (∀ r x, Lw (loopT n r x)) ∧ Lw (notT n) ∧ (∀ o c, Lw (innerT n o c)) ∧ Lw (commaT n) ∧ (∀ l, Lw (moreT n l)) ∧ Lw (argsT n) ∧ Lw (namedT n) ∧ Lw (wordT n) ∧ Lw (atomT n) := by
  intro n
  induction n with
  | zero => exact ⟨fun _ => Lw.fail _, fun _ _ => Lw.fail _, Lw.fail _, fun _ _ => Lw.fail _, Lw.fail _, fun _ => Lw.fail _, Lw.fail _, Lw.fail _, Lw.fail _, Lw.fail _⟩
  | succ n ih =>
    obtain ⟨h1, h2, h3, h4, h5, h6, h7, h8, h9, h10⟩ := ih
    refine ⟨fun r => ?_, fun r x => ?_, not_lw (h1 3), fun o c => ?_, ?_, fun l => ?_, ?_, ?_, ?_, ?_⟩
    · rw [exprT]
      exact Lw.ite h10 (Lw.ite (Lw.bd (Lw.is _) fun c => Lw.ite h3 (h1 _)) (Lw.bd (h1 _) fun x => h2 _ x))
    · rw [loopT]
      exact Lw.bd (Lw.pick _) fun op => Lw.ite (Lw.pur _) (Lw.bd Lw.next fun _ => Lw.bd (h1 _) fun y => Lw.ite (Lw.pur _) (h2 _ _))
    · rw [innerT]
      exact Lw.bd (Lw.open _) fun _ => Lw.bd (h1 _) fun x => Lw.bd (Lw.shut _) fun _ => Lw.pur _
    · rw [commaT]
      exact Lw.bd (Lw.is _) fun c => Lw.ite (Lw.pur _) (Lw.bd (h1 _) fun x => h6 _)
    · rw [moreT]
      exact Lw.bd (Lw.is _) fun c => Lw.ite (Lw.bd (Lw.room _ _) fun _ => Lw.bd (Lw.take _) fun _ => Lw.bd (h1 _) fun x => h6 _) (Lw.pur _)
    · rw [argsT]
      exact Lw.bd (Lw.open _) fun _ => Lw.bd h5 fun l => Lw.bd (Lw.shut _) fun _ => Lw.pur _
    · rw [namedT]
      exact Lw.bd Lw.name fun s => Lw.bd (Lw.is _) fun c => Lw.ite (Lw.bd (h4 _ _) fun y => Lw.pur _) (Lw.bd (Lw.is _) fun d => Lw.ite (Lw.bd h7 fun l => Lw.pur _) (Lw.pur _))
    · rw [wordT]
      exact Lw.bd (Lw.is _) fun c => Lw.ite (h4 _ _) (Lw.bd (Lw.is _) fun c => Lw.ite (Lw.bd (Lw.take _) fun _ => Lw.pur _) (Lw.bd (Lw.is _) fun c => Lw.ite (Lw.bd (Lw.take _) fun _ => Lw.pur _) (Lw.bd (Lw.pick _) fun op => Lw.ite Lw.wrong (Lw.bd Lw.next fun _ => Lw.ite (Lw.bd (h4 _ _) fun y => Lw.pur _) (Lw.pur _)))))
    · refine Lw.at fun σ => ?_
      rw [atomT]
      cases h : σ.now with
      | num m => exact ⟨_, Lw.bd Lw.next fun _ => Lw.pur (exP 1 m [] []), by simp only [h]⟩
      | name s => exact ⟨_, h8, by simp only [h]⟩
      | none => exact ⟨_, h9, by simp only [h]⟩
      | fin => exact ⟨_, h9, by simp only [h]⟩
      | fixed s => exact ⟨_, h9, by simp only [h]⟩
/-- May a level end here? -/
def Up : ES → Prop
  | .ok σ => (mu σ : Int) - 4999 ≤ σ.lv
  | .error _ => True
theorem up_take {s : Key} {S S1 : ES} (h0 : ∀ σ, S = .ok σ → (mu σ : Int) - 5000 ≤ σ.lv) (h : Rv (fun _ => takeT s) S () S1) : Up S1 := by
  obtain ⟨n, h⟩ := h
  have h := h n (Nat.le_refl _)
  cases S with
  | error e => have h : S1 = .error e := h; subst h; trivial
  | ok σ =>
    cases S1 with
    | error e => trivial
    | ok τ =>
      have := take_lv h
      have := h0 σ rfl
      show (mu τ : Int) - 4999 ≤ τ.lv
      omega
end Go.Proofs.YtgpjlocgkdlnlaaDoor
