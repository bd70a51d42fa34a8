import Derived.Test.YtemjajljpoaioaaDoorM09
namespace Go.Proofs.YtemjajljpoaioaaDoor
open Go.RowKit
set_option linter.unusedVariables false
set_option linter.unusedSimpArgs false
set_option maxRecDepth 20000
set_option maxHeartbeats 8000000
section
variable {Q : Exit → Act → World → Prop} {a : Act} {w : World}
theorem then_exit {next : Act → World → Prop} {id : Nat} (h : Q (.exit id) a w) : Exit.then next Q (.exit id) a w := h
theorem exit_block {id : Nat} (h : Q .normal a w) : Exit.inBlock id Q (.exit id) a w := by
 show (if id = id then Q .normal a w else Q (.exit id) a w)
 rw [if_pos rfl]; exact h
theorem exit_pass {id j : Nat} (hne : Nat.beq j id = false) (h : Q (.exit j) a w) : Exit.inBlock id Q (.exit j) a w := by
 show (if j = id then Q .normal a w else Q (.exit j) a w)
 rw [if_neg (fun e => by subst e; rw [Nat.beq_refl] at hne; cases hne)]
 exact h
end
theorem isD_range {c : UInt8} (h : isD c = true) : 48 ≤ c.toNat ∧ c.toNat ≤ 57 := by
 unfold isD at h
 rw [Bool.and_eq_true, decide_eq_true_eq, decide_eq_true_eq] at h
 exact h
def DV (d v : Int) : Prop := 0 ≤ v ∧ 0 ≤ d ∧ d ≤ 10995116277760 ∧ (d ≤ 1099511627775 → d = v) ∧ (1099511627775 < d → 1099511627775 < v)
theorem DV.step {d v : Int} {c : UInt8} (h : DV d v) (hc : isD c = true) : DV (if d ≤ 1099511627775 then d * 10 + ((c.toNat : Int) - 48) else d) (10 * v + ((c.toNat : Int) - 48)) := by
 obtain ⟨h1, h2, h3, h4, h5⟩ := h
 have hc := isD_range hc
 by_cases hl : d ≤ 1099511627775
 ·rw [if_pos hl]
  have := h4 hl
  exact ⟨by omega, by omega, by omega, fun _ => by omega, fun _ => by omega⟩
 ·rw [if_neg hl]
  have := h5 (by omega)
  exact ⟨by omega, by omega, by omega, fun _ => by omega, fun _ => by omega⟩
def NX (text : Key) (r : Key) (at_ : Nat) (kd : Int) (tx : Key) (n e : Int) : Prop :=
 match cutT r with
 | (.none, _) => e = 6
 | (t, r') => e = 0 ∧ at_ ≤ text.length ∧ text.drop at_ = r' ∧ kd = tokK t ∧ tokT t tx ∧ n = t.n
theorem NX.ok {text r : Key} {at_ : Nat} {kd n : Int} {tx : Key} {t : Tok} {r' : Key} (h : cutT r = (t, r')) (ht : t ≠ .none) (h1 : at_ ≤ text.length) (h2 : text.drop at_ = r') (h3 : kd = tokK t) (h4 : tokT t tx) (h5 : n = t.n) : NX text r at_ kd tx n 0 := by
 unfold NX
 rw [h]
 cases t with
 | none => exact absurd rfl ht
 | _ => exact ⟨rfl, h1, h2, h3, h4, h5⟩
section
variable {P : Program} {md : Region.Mode} {ops : Array Oper} {Q : Exit → Act → World → Prop} {S : World → Prop} {a : Act} {w w0 : World} {o : Oper} {N m : Nat} {L : List (Nat × Value)} {fuel : Nat} {listed : Array Bool}
theorem sd_asg (F : Fm N L a) (i : Nat) {d : Nat} {x : Operand} {v : Value} (hi : ops[i]? = some o) (h : Is o (some d) (.assign x)) (hv : opv L x = some v) (hs : Region.noSelect ops = true) (hf : Region.free md ops listed i = true) (hr : (Region.ready md ops listed).contains i = true) (hQ : ∀ c a w, Q (.panic c) (a.put (some d) v) w → Q (.panic c) a w)
  (hb : Nat.blt d N = true) (hS : S w) (K : ∀ a', Fm N ((d, v) :: L) a' → wpAnyH P md ops Q S fuel (listed.setIfInBounds i true) a' w) : wpAnyH P md ops Q S (fuel + 1) listed a w :=
 sd_val F i hi hs hf hr hQ h.1 h.2.2 hb (fun w _ => by unfold execOp; rw [h.2.1]; simp only [F.ev hv]; rfl) hS K
theorem sd_at (F : Fm N L a) (j sz : Nat) {i : Nat} {x y : Operand} {t e : TypeId} {rb ro n c k : Nat} (hj : ops[j]? = some o) (h : Is o (some i) (.indexAddr t x y)) (hx : opv L x = some (.slice (some ⟨rb, ro, none⟩) n c)) (hy : opv L y = some (.int .i64 k)) (hk : k < n) (hu : P.underlying t = some (.slice e)) (hz : (P.info? e).map (·.size) = some sz) (hs : Region.noSelect ops = true) (hf : Region.free md ops listed j = true) (hr : (Region.ready md ops listed).contains j = true) (hQ : ∀ c a w, Q (.panic c) (a.put (some i) (.pointer (some ⟨rb, ro + k * sz, none⟩))) w → Q (.panic c) a w)
  (hb : Nat.blt i N = true) (hS : S w) (K : ∀ a', Fm N ((i, .pointer (some ⟨rb, ro + k * sz, none⟩)) :: L) a' → wpAnyH P md ops Q S fuel (listed.setIfInBounds j true) a' w) : wpAnyH P md ops Q S (fuel + 1) listed a w :=
 sd_val F j hj hs hf hr hQ h.1 h.2.2 hb (fun w _ => by
  unfold execOp
  rw [h.2.1]
  simp only [F.ev hx, F.ev hy]
  cases hi : P.info? e with
  | none => rw [hi] at hz; cases hz
  | some i =>
   have hz : i.size = sz := by rw [hi] at hz; simpa using hz
   simp [Instr.indexAt, run_underlying hu, asIntOf, sizeOf, typeInfo, hi, hz, hk, Addr.add_lit]) hS K
end
section
variable {text : Key} {i j : Nat} {c : UInt8}
end
section
variable {P : Program} {ops : Array Oper} {Q : Exit → Act → World → Prop} {a : Act} {w : World} {rest : List Oper} {o : Oper} {N : Nat} {L : List (Nat × Value)}
end
theorem Rv.pur {α : Type} (x : α) (S : ES) : Rv (fun _ => pur x) S x S := Rv.of (Rel.pur x S)
theorem Rv.to {α : Type} {F G : Nat → PM α} {S S' : ES} {x : α} (h : Rv F S x S') (e : ∀ n, F n = G n) : Rv G S x S' := (funext e : F = G) ▸ h
theorem Rv.unbind {α β : Type} [Inhabited α] {F : Nat → PM α} {G : Nat → α → PM β} {S S2 : ES} {y : β} (hF : ∀ n, Le (F n) (F (n + 1))) (h0 : S2 ≠ .error 0) (h : Rv (fun n => bnd (F n) (G n)) S y S2) : ∃ x S1, Rv F S x S1 ∧ Rv (fun n => G n x) S1 y S2 := by
 obtain ⟨n0, h⟩ := h
 obtain ⟨x, S1, h1, h2⟩ := Rel.unbind (h n0 (Nat.le_refl _))
 have hz : S1 ≠ .error 0 := fun e => by
  subst e
  exact h0 h2
 have r1 : Rv F S x S1 := Rv.up h1 hF hz
 refine ⟨x, S1, r1, n0, fun n hn => ?_⟩
 have r2 : Rel (F n) S x S1 := by
  obtain ⟨d, rfl⟩ := Nat.exists_eq_add_of_le hn
  clear hn
  induction d with
  | zero => exact h1
  | succ d ih => exact ih.up (hF _) hz
 have g := h n hn
 cases S with
 | error e =>
  have r2 : S1 = .error e := r2
  subst r2
  exact g
 | ok σ =>
  cases hFn : F n σ with
  | error e =>
   have := r2.get_err hFn
   subst this
   exact g.get_err (by simp only [bnd, hFn])
  | ok p =>
   obtain ⟨z, τ⟩ := p
   obtain ⟨rfl, rfl⟩ := r2.get_ok hFn
   unfold Rel at g ⊢
   simpa only [bnd, hFn] using g
theorem Rv.any {α : Type} {F : Nat → PM α} {S : ES} {x y : α} {e : Int} (h : Rv F S x (.error e)) : Rv F S y (.error e) := by
 obtain ⟨n0, h⟩ := h
 refine ⟨n0, fun n hn => ?_⟩
 have g := h n hn
 cases S with
 | error e => exact g
 | ok σ =>
  cases hF : F n σ with
  | error e' =>
   cases g.get_err hF
   exact Rel.of_err hF
  | ok p =>
   obtain ⟨z, τ⟩ := p
   cases (g.get_ok hF).2
def Lw {α : Type} (F : PM α) : Prop := ∀ σ x τ, Rel F (.ok σ) x (.ok τ) → (mu σ : Int) - 5000 ≤ σ.lv → σ.lv ≤ 32 → σ.lv - mu σ ≤ τ.lv - mu τ ∧ τ.lv ≤ 32
theorem mu_shr {α : Type} {F : PM α} (h : Shr F) {σ τ : St} {x : α} (q : Rel F (.ok σ) x (.ok τ)) : mu τ ≤ mu σ := by
 have q : 16 * mu τ ≤ 16 * mu σ := h _ _ _ q
 omega
theorem Lw.keep {α : Type} {F : PM α} (h : Shr F) (g : ∀ σ x τ, Rel F (.ok σ) x (.ok τ) → τ.lv = σ.lv) : Lw F := fun σ x τ q h1 h2 => by
 have := mu_shr h q
 have := g σ x τ q
 omega
theorem Lw.bd {α β : Type} [Inhabited α] {F : PM α} {G : α → PM β} (h : Lw F) (g : ∀ x, Lw (G x)) : Lw (bnd F G) := fun σ y τ q h1 h2 => by
 obtain ⟨x, S1, h3, h4⟩ := Rel.unbind q
 cases S1 with
 | error e => cases (show Except.ok τ = Except.error e from h4)
 | ok σ1 =>
  have a := h σ x σ1 h3 h1 h2
  have b := g x σ1 y τ h4 (by omega) a.2
  omega
theorem Lw.fail {α : Type} (e : Int) : Lw (failT e : PM α) := fun σ x τ q => by cases q.get_err (e := e) rfl
theorem Lw.wrong {α : Type} : Lw (wrongT : PM α) := fun σ x τ q => by cases q.get_err (e := errT σ) rfl
theorem Lw.pur {α : Type} (x : α) : Lw (pur x) := Lw.keep (Shr.pur x) fun σ y τ q => by cases (q.get_ok rfl).2; rfl
theorem Lw.is (s : Key) : Lw (isT s) := Lw.keep (Shr.is s) fun σ y τ q => by cases (q.get_ok rfl).2; rfl
theorem Lw.pick (l : List (Int × Key)) : Lw (pickT l) := Lw.keep (Shr.pick l) fun σ y τ q => by cases (q.get_ok rfl).2; rfl
theorem next_lv {σ τ : St} (q : Rel nextT (.ok σ) () (.ok τ)) : τ.lv = σ.lv := by
 cases h : nextT σ with
 | error e => cases q.get_err h
 | ok p =>
  obtain ⟨⟨⟩, ρ⟩ := p
  cases (q.get_ok h).2
  unfold nextT at h
  split at h
  ·cases h
  ·cases h; rfl
theorem Lw.next : Lw nextT := Lw.keep Shr.next fun σ y τ q => next_lv q
theorem take_lv {s : Key} {σ τ : St} (q : Rel (takeT s) (.ok σ) () (.ok τ)) : τ.lv = σ.lv ∧ mu τ + 1 ≤ mu σ := by
 by_cases hs : σ.now = .fixed s
 ·have h : 16 * mu τ + 16 ≤ 16 * mu σ := (need_take q).2 (decide_eq_true hs)
  refine ⟨next_lv (Rel.at (F := takeT s) q fun ρ e => ?_), by omega⟩
  injection e with e
  subst e
  exact if_pos hs
 ·cases q.get_err (if_neg hs)
theorem Lw.take (s : Key) : Lw (takeT s) := Lw.keep (Shr.take s) fun σ y τ q => (take_lv q).1
theorem deeper_lv {σ τ : St} (q : Rel deeperT (.ok σ) () (.ok τ)) (h1 : (mu σ : Int) - 5000 ≤ σ.lv) (h2 : σ.lv ≤ 32) : τ.lv = σ.lv + 1 ∧ mu τ = mu σ ∧ τ.lv ≤ 32 := by
 by_cases h32 : σ.lv = 32
 ·cases q.get_err (if_pos h32)
 ·cases (q.get_ok (if_neg h32)).2
  have : wrap64 (σ.lv + 1) = σ.lv + 1 := by unfold wrap64; omega
  refine ⟨this, rfl, ?_⟩
  show wrap64 (σ.lv + 1) ≤ 32
  omega
theorem Lw.deeper : Lw deeperT := fun σ x τ q h1 h2 => by
 have := deeper_lv q h1 h2
 omega
theorem Lw.ite {α : Type} {c : Prop} [Decidable c] {F G : PM α} (h : Lw F) (g : Lw G) : Lw (if c then F else G) := by
 by_cases q : c
 ·rw [if_pos q]; exact h
 ·rw [if_neg q]; exact g
theorem Lw.open (s : Key) : Lw (openT s) := Lw.bd (Lw.is s) fun c => Lw.bd (Lw.ite Lw.deeper (Lw.pur _)) fun _ => Lw.take s
theorem Lw.room (n m : Int) : Lw (roomT n m) := Lw.ite (Lw.fail _) (Lw.pur _)
theorem Lw.at {α : Type} {F : PM α} (h : ∀ σ, ∃ G : PM α, Lw G ∧ G σ = F σ) : Lw F := fun σ x τ q => by
 obtain ⟨G, hG, e⟩ := h σ
 refine hG σ x τ ?_
 unfold Rel at q ⊢
 simp only [e]
 exact q
theorem Lw.name : Lw nameT := Lw.at fun σ => by
 cases h : σ.now with
 | name s => exact ⟨_, Lw.bd Lw.next fun _ => Lw.pur s, by unfold nameT; rw [h]⟩
 | num m => exact ⟨_, Lw.wrong, by unfold nameT; rw [h]; rfl⟩
 | none => exact ⟨_, Lw.wrong, by unfold nameT; rw [h]; rfl⟩
 | fin => exact ⟨_, Lw.wrong, by unfold nameT; rw [h]; rfl⟩
 | fixed s => exact ⟨_, Lw.wrong, by unfold nameT; rw [h]; rfl⟩
section
variable {P : Program} {ops : Array Oper} {Q : Exit → Act → World → Prop} {a : Act} {w : World} {rest : List Oper} {o : Oper} {N : Nat} {L : List (Nat × Value)}
theorem sw_rng (F : Fm N L a) {i : Nat} {t : TypeId} {x : Operand} {b n : Nat} {cs : List Value} (hc : w.rangeAt b n cs) (h : Is o (some i) (.load t x)) (hx : opv L x = some (.pointer (some ⟨b, n, none⟩))) (ht : rowT P t = true) (hz : (P.info? t).map (·.size) = some cs.length) (hi : Nat.blt i N = true) (K : ∀ a', Fm N ((i, .agg cs.toArray) :: L) a' → wpList P ops Q rest a' w) : wpList P ops Q (o :: rest) a w := by
 obtain ⟨d, hu, hd⟩ := rowT_out ht
 exact ol_row h.2.2 h.2.1 (F.ev hx) hc hu hd hz (by rw [h.1]; exact K _ (F.put hi))
end
def opn : List (Key × Int × Int) := [([111, 114], 6, 1), ([97, 110, 100], 7, 2), ([61, 61], 9, 4), ([33, 61], 10, 4), ([60], 11, 4), ([60, 61], 12, 4), ([62], 13, 4), ([62, 61], 14, 4), ([43], 15, 5), ([45], 16, 5), ([42], 17, 6), ([47], 18, 6), ([37], 19, 6)]
theorem Rv.fault {α : Type} (F : Nat → PM α) (e : Int) (x : α) : Rv F (.error e) x (.error e) := ⟨0, fun _ _ => rfl⟩
end Go.Proofs.YtemjajljpoaioaaDoor
