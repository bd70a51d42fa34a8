import Derived.Test.YtemjajljpoaioaaDoorM05
namespace Go.Proofs.YtemjajljpoaioaaDoor
open Go.RowKit
set_option linter.unusedVariables false
set_option linter.unusedSimpArgs false
set_option maxRecDepth 20000
set_option maxHeartbeats 8000000
structure St where
 rest : Key
 now : Tok
 lv : Int
abbrev ES := Except Int St
def Tok.ok : Tok → Prop
 | .num n => 0 ≤ n ∧ n ≤ 1099511627775
 | _ => True
abbrev PM (α : Type) := St → Except Int (α × St)
def pur {α : Type} (x : α) : PM α := fun σ => .ok (x, σ)
def bnd {α β : Type} (F : PM α) (G : α → PM β) : PM β := fun σ =>
 match F σ with
 | .error e => .error e
 | .ok (x, τ) => G x τ
def Rel {α : Type} (F : PM α) (S : ES) (x : α) (S' : ES) : Prop :=
 match S with
 | .error e => S' = .error e
 | .ok σ =>
  match F σ with
  | .error e => S' = .error e
  | .ok (y, τ) => x = y ∧ S' = .ok τ
theorem Rel.pur {α : Type} (x : α) (S : ES) : Rel (pur x) S x S := by
 cases S with
 | error e => rfl
 | ok σ => exact ⟨rfl, rfl⟩
theorem Rel.bind {α β : Type} {F : PM α} {G : α → PM β} {S S1 S2 : ES} {x : α} {y : β} (h : Rel F S x S1) (g : Rel (G x) S1 y S2) : Rel (bnd F G) S y S2 := by
 cases S with
 | error e =>
  have h : S1 = .error e := h
  subst h
  exact g
 | ok σ =>
  unfold Rel at h ⊢
  simp only [bnd] at h ⊢
  cases hF : F σ with
  | error e =>
   rw [hF] at h
   simp only at h ⊢
   subst h
   exact g
  | ok p =>
   obtain ⟨z, τ⟩ := p
   rw [hF] at h
   simp only at h ⊢
   obtain ⟨rfl, rfl⟩ := h
   exact g
theorem Rel.of_err {α : Type} {F : PM α} {σ : St} {e : Int} {x : α} (h : F σ = .error e) : Rel F (.ok σ) x (.error e) := by
 unfold Rel; simp only [h]
theorem Rel.of_ok {α : Type} {F : PM α} {σ τ : St} {x : α} (h : F σ = .ok (x, τ)) : Rel F (.ok σ) x (.ok τ) := by
 unfold Rel; simp only [h, and_self]
theorem Rel.get_err {α : Type} {F : PM α} {σ : St} {S : ES} {e : Int} {x : α} (g : Rel F (.ok σ) x S) (h : F σ = .error e) : S = .error e := by
 unfold Rel at g; simpa only [h] using g
theorem Rel.get_ok {α : Type} {F : PM α} {σ τ : St} {S : ES} {x y : α} (g : Rel F (.ok σ) x S) (h : F σ = .ok (y, τ)) : x = y ∧ S = .ok τ := by
 unfold Rel at g; simpa only [h] using g
theorem Rel.to {α : Type} {F F' : PM α} {S S' : ES} {x : α} (h : Rel F S x S') (e : F = F') : Rel F' S x S' := e ▸ h
def stands (s : Key) : ES → Bool
 | .error _ => false
 | .ok σ => decide (σ.now = .fixed s)
def pickI : List (Int × Key) → ES → Int
 | [], _ => 0
 | (k, s) :: r, S => if stands s S then k else pickI r S
def errT (σ : St) : Int := if σ.now = .fin then 1 else 6
def wrongT {α : Type} : PM α := fun σ => .error (errT σ)
def failT {α : Type} (e : Int) : PM α := fun _ => .error e
def nextT : PM Unit := fun σ =>
 match cutT (gap false σ.rest) with
 | (.none, _) => .error 6
 | (t, r) => .ok ((), { σ with now := t, rest := r })
def isT (s : Key) : PM Bool := fun σ => .ok (decide (σ.now = .fixed s), σ)
def pickT (l : List (Int × Key)) : PM Int := fun σ => .ok (pickI l (.ok σ), σ)
def takeT (s : Key) : PM Unit := fun σ => if σ.now = .fixed s then nextT σ else .error (errT σ)
def deeperT : PM Unit := fun σ => if σ.lv = 32 then .error 7 else .ok ((), { σ with lv := wrap64 (σ.lv + 1) })
def upT : PM Unit := fun σ => .ok ((), { σ with lv := wrap64 (σ.lv - 1) })
def openT (s : Key) : PM Unit := bnd (isT s) fun c => bnd (if c then deeperT else pur ()) fun _ => takeT s
def shutT (s : Key) : PM Unit := bnd (takeT s) fun _ => upT
def roomT (n m : Int) : PM Unit := if m ≤ n then failT 3 else pur ()
def nameT : PM Key := fun σ =>
 match σ.now with
 | .name s => bnd nextT (fun _ => pur s) σ
 | _ => .error (errT σ)
theorem signOf_len (s : Key) : (signOf s).2.length ≤ s.length := by
 unfold signOf
 split
 ·simp
 ·simp
theorem cutT_len (s : Key) : (cutT s).2.length ≤ s.length := by
 cases s with
 | nil => simp [cutT]
 | cons c r =>
  rw [cutT]
  split
  ·simp
  ·split
   ·simp
   ·exact signOf_len _
def mu (σ : St) : Nat := σ.rest.length + (if σ.now = .fin ∨ σ.now = .none then 0 else 1)
def need : ES → Nat
 | .error _ => 0
 | .ok σ => 16 * mu σ
theorem spanN_pos (f : UInt8 → Bool) (c : UInt8) (r : Key) (h : f c = true) : 1 ≤ spanN f (c :: r) := by simp [spanN, h]
theorem sign_len : ∀ g ∈ signL, 1 ≤ g.length := by decide
theorem cutT_less (s : Key) (h1 : (cutT s).1 ≠ .fin) (h2 : (cutT s).1 ≠ .none) : (cutT s).2.length < s.length := by
 cases s with
 | nil => exact absurd rfl h1
 | cons c r =>
  rw [cutT] at h1 h2 ⊢
  split
  ·rename_i hc
   have := spanN_pos goes c r (by simp [goes, hc])
   simp
   omega
  ·split
   ·rename_i hc
    have := spanN_pos isD c r hc
    simp
    omega
   ·rename_i hl hd
    rw [if_neg hl, if_neg hd] at h2
    unfold signOf at h2 ⊢
    cases hf : signL.find? (fun g => decide ((c :: r).take g.length = g)) with
    | none => rw [hf] at h2; exact absurd rfl h2
    | some g =>
     have := sign_len g (List.mem_of_find?_eq_some hf)
     simp
     omega
theorem mu_next {σ τ : St} (h : nextT σ = .ok ((), τ)) : mu τ ≤ σ.rest.length := by
 unfold nextT at h
 have h2 := cutT_less (gap false σ.rest)
 have h3 := gap_len false σ.rest
 cases hc : cutT (gap false σ.rest) with
 | mk t r =>
  rw [hc] at h h2
  have hl : r.length ≤ σ.rest.length := by
   have : (cutT (gap false σ.rest)).2.length ≤ (gap false σ.rest).length := cutT_len _
   rw [hc] at this
   simp only at this
   omega
  cases t with
  | none => cases h
  | fin =>
   injection h with h
   injection h with _ h
   subst h
   simp [mu]; exact hl
  | name s =>
   injection h with h
   injection h with _ h
   subst h
   have := h2 (by simp) (by simp)
   simp [mu] at this ⊢; omega
  | num s =>
   injection h with h
   injection h with _ h
   subst h
   have := h2 (by simp) (by simp)
   simp [mu] at this ⊢; omega
  | fixed s =>
   injection h with h
   injection h with _ h
   subst h
   have := h2 (by simp) (by simp)
   simp [mu] at this ⊢; omega
theorem need_next {S S' : ES} (h : Rel nextT S () S') : need S' ≤ need S := by
 cases S with
 | error e =>
  have h : S' = .error e := h
  subst h
  exact Nat.le_refl _
 | ok σ =>
  cases hn : nextT σ with
  | error e => rw [h.get_err hn]; exact Nat.zero_le _
  | ok p =>
   obtain ⟨⟨⟩, τ⟩ := p
   rw [(h.get_ok hn).2]
   have := mu_next hn
   show 16 * mu τ ≤ 16 * mu σ
   have : σ.rest.length ≤ mu σ := by unfold mu; omega
   omega
def Here : ES → Prop
 | .error _ => False
 | .ok σ => σ.now ≠ .fin ∧ σ.now ≠ .none
theorem Here.of_stands {s : Key} {S : ES} (h : stands s S = true) : Here S := by
 cases S with
 | error e => cases h
 | ok σ =>
  have : σ.now = .fixed s := of_decide_eq_true h
  exact ⟨by rw [this]; simp, by rw [this]; simp⟩
theorem need_here {S S' : ES} (h : Rel nextT S () S') (hh : Here S) : need S' + 16 ≤ need S := by
 cases S with
 | error e => exact hh.elim
 | ok σ =>
  have hm : mu σ = σ.rest.length + 1 := by unfold mu; rw [if_neg (by rintro (q | q); exact hh.1 q; exact hh.2 q)]
  cases hn : nextT σ with
  | error e => rw [h.get_err hn]; show 0 + 16 ≤ 16 * mu σ; omega
  | ok p =>
   obtain ⟨⟨⟩, τ⟩ := p
   rw [(h.get_ok hn).2]
   have := mu_next hn
   show 16 * mu τ + 16 ≤ 16 * mu σ
   omega
theorem need_take {s : Key} {S S' : ES} (h : Rel (takeT s) S () S') : need S' ≤ need S ∧ (stands s S = true → need S' + 16 ≤ need S) := by
 cases S with
 | error e =>
  have h : S' = .error e := h
  subst h
  exact ⟨Nat.le_refl _, fun q => by cases q⟩
 | ok σ =>
  by_cases hs : σ.now = .fixed s
  ·have e : takeT s σ = nextT σ := if_pos hs
   have h' : Rel nextT (.ok σ) () S' := by unfold Rel at h ⊢; simpa only [e] using h
   exact ⟨need_next h', fun q => need_here h' (Here.of_stands q)⟩
  ·have e : takeT s σ = .error (errT σ) := if_neg hs
   rw [h.get_err e]
   exact ⟨Nat.zero_le _, fun q => absurd (of_decide_eq_true q) hs⟩
theorem need_deeper {S S' : ES} (h : Rel deeperT S () S') : need S' ≤ need S := by
 cases S with
 | error e =>
  have h : S' = .error e := h
  subst h; exact Nat.le_refl _
 | ok σ =>
  by_cases h32 : σ.lv = 32
  ·rw [h.get_err (if_pos h32)]; exact Nat.zero_le _
  ·rw [(h.get_ok (if_neg h32)).2]; exact Nat.le_refl _
theorem need_up {S S' : ES} (h : Rel upT S () S') : need S' ≤ need S := by
 cases S with
 | error e =>
  have h : S' = .error e := h
  subst h; exact Nat.le_refl _
 | ok σ => rw [(h.get_ok rfl).2]; exact Nat.le_refl _
end Go.Proofs.YtemjajljpoaioaaDoor
