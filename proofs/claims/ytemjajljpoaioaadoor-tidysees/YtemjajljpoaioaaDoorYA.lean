import Derived.Test.YtemjajljpoaioaaDoorCPure
namespace Go.Proofs.YtemjajljpoaioaaDoor
open Go.RowKit
set_option linter.unusedVariables false
set_option linter.unusedSimpArgs false
set_option maxRecDepth 20000
set_option maxHeartbeats 8000000
instance : DecidableEq Ins := fun x y =>
 if h : x.op = y.op ∧ x.a = y.a ∧ x.b = y.b then .isTrue (by cases x; cases y; obtain ⟨rfl, rfl, rfl⟩ := h; rfl)
 else .isFalse fun e => h (by subst e; exact ⟨rfl, rfl, rfl⟩)
def isJ (i : Ins) : Bool := decide (i.op = 14) || decide (i.op = 15)
def Lds (b : List Ins) : Prop := ∀ i ∈ b, isJ i = true → 0 ≤ i.a ∧ i.a.toNat < b.length
def endOf (b : List Ins) : Nat → Nat → Option Nat
 | 0, _ => none
 | n + 1, k => match b[k]? with
  | none => none
  | some i => if i.op = 14 then (if i.a.toNat = k then none else endOf b n i.a.toNat) else some k
def strI (b : List Ins) (k : Nat) (i : Ins) : Ins :=
 if isJ i = true then match endOf b b.length i.a.toNat with
  | some t => ⟨i.op, t, i.b⟩
  | none => if i.op = 14 then ⟨i.op, k, i.b⟩ else i
 else i
def strt (b : List Ins) : List Ins := b.mapIdx (strI b)
def Ends (b : List Ins) : Nat → Nat → Nat → Prop
 | k, 0, t => k = t ∧ ∃ i, b[k]? = some i ∧ i.op ≠ 14
 | k, m + 1, t => ∃ i, b[k]? = some i ∧ i.op = 14 ∧ i.a.toNat ≠ k ∧ Ends b i.a.toNat m t
theorem Ends.at_ {b : List Ins} : ∀ {m k t : Nat}, Ends b k m t → ∃ i, b[t]? = some i ∧ i.op ≠ 14
 | 0, _, _, ⟨rfl, h⟩ => h
 | _ + 1, _, _, ⟨_, _, _, _, h⟩ => h.at_
theorem Ends.one {b : List Ins} : ∀ {m m' k t t' : Nat}, Ends b k m t → Ends b k m' t' → m = m' ∧ t = t'
 | 0, 0, _, _, _, ⟨rfl, _⟩, ⟨rfl, _⟩ => ⟨rfl, rfl⟩
 | 0, _ + 1, _, _, _, ⟨rfl, i, h1, h2⟩, ⟨j, h3, h4, _⟩ => absurd h4 (by rw [h1] at h3; cases h3; exact h2)
 | _ + 1, 0, _, _, _, ⟨j, h3, h4, _⟩, ⟨rfl, i, h1, h2⟩ => absurd h4 (by rw [h1] at h3; cases h3; exact h2)
 | m + 1, m' + 1, _, _, _, ⟨i, h1, _, _, h⟩, ⟨j, h2, _, _, h'⟩ => by
  rw [h1] at h2
  cases h2
  obtain ⟨rfl, e⟩ := h.one h'
  exact ⟨rfl, e⟩
theorem endOf_iff {b : List Ins} : ∀ {n k t : Nat}, endOf b n k = some t ↔ ∃ m, m < n ∧ Ends b k m t
 | 0, k, t => ⟨fun h => (by cases h), fun ⟨m, h, _⟩ => by omega⟩
 | n + 1, k, t => by
  unfold endOf
  cases hb : b[k]? with
  | none =>
   refine ⟨fun h => (by cases h), fun ⟨m, _, h⟩ => ?_⟩
   cases m with
   | zero => obtain ⟨rfl, i, h, _⟩ := h; rw [hb] at h; cases h
   | succ m => obtain ⟨i, h, _⟩ := h; rw [hb] at h; cases h
  | some i =>
   show (if i.op = 14 then (if i.a.toNat = k then none else endOf b n i.a.toNat) else some k) = some t ↔ _
   by_cases h14 : i.op = 14
   ·rw [if_pos h14]
    by_cases hk : i.a.toNat = k
    ·rw [if_pos hk]
     refine ⟨fun h => (by cases h), fun ⟨m, _, h⟩ => ?_⟩
     cases m with
     | zero => obtain ⟨rfl, j, h, h'⟩ := h; rw [hb] at h; cases h; exact absurd h14 h'
     | succ m => obtain ⟨j, h, _, h', _⟩ := h; rw [hb] at h; cases h; exact absurd hk h'
    ·rw [if_neg hk, endOf_iff]
     constructor
     ·rintro ⟨m, hm, h⟩; exact ⟨m + 1, by omega, i, hb, h14, hk, h⟩
     ·rintro ⟨m, hm, h⟩
      cases m with
      | zero => obtain ⟨rfl, j, h, h'⟩ := h; rw [hb] at h; cases h; exact absurd h14 h'
      | succ m => obtain ⟨j, h, _, _, h'⟩ := h; rw [hb] at h; cases h; exact ⟨m, by omega, h'⟩
   ·rw [if_neg h14]
    constructor
    ·intro h; cases h; exact ⟨0, by omega, rfl, i, hb, h14⟩
    ·rintro ⟨m, hm, h⟩
     cases m with
     | zero => rw [h.1]
     | succ m => obtain ⟨j, h, h', _⟩ := h; rw [hb] at h; cases h; exact absurd h' h14
theorem pigeon : ∀ (n m : Nat) (f : Nat → Nat), (∀ j, j < m → f j < n) → (∀ i j, i < m → j < m → f i = f j → i = j) → m ≤ n
 | 0, m, f, h, _ => by
  cases m with
  | zero => exact Nat.le_refl _
  | succ m => exact absurd (h 0 (by omega)) (by omega)
 | n + 1, m, f, h, inj => by
  by_cases q : ∃ j, j < m ∧ f j = n
  ·obtain ⟨j, hj, hfj⟩ := q
   have := pigeon n (m - 1) (fun i => if i < j then f i else f (i + 1)) (fun i hi => by
    by_cases c : i < j
    ·simp only [if_pos c]
     have h1 := h i (by omega)
     have h2 : f i ≠ n := fun e => by have := inj i j (by omega) hj (e.trans hfj.symm); omega
     omega
    ·simp only [if_neg c]
     have h1 := h (i + 1) (by omega)
     have h2 : f (i + 1) ≠ n := fun e => by have := inj (i + 1) j (by omega) hj (e.trans hfj.symm); omega
     omega) (fun i i' hi hi' e => by
    by_cases c : i < j
    ·by_cases c' : i' < j
     ·simp only [if_pos c, if_pos c'] at e
      exact inj i i' (by omega) (by omega) e
     ·simp only [if_pos c, if_neg c'] at e
      have := inj i (i' + 1) (by omega) (by omega) e
      omega
    ·by_cases c' : i' < j
     ·simp only [if_neg c, if_pos c'] at e
      have := inj (i + 1) i' (by omega) (by omega) e
      omega
     ·simp only [if_neg c, if_neg c'] at e
      have := inj (i + 1) (i' + 1) (by omega) (by omega) e
      omega)
   omega
  ·have := pigeon n m f (fun j hj => by
    have h1 := h j hj
    have h2 : f j ≠ n := fun e => q ⟨j, hj, e⟩
    omega) inj
   omega
theorem Ends.each {b : List Ins} : ∀ {m k t : Nat}, Ends b k m t → ∃ f : Nat → Nat, ∀ j, j ≤ m → ∃ u, Ends b (f j) j u ∧ f j < b.length
 | 0, k, t, h => by
  refine ⟨fun _ => k, fun j hj => ?_⟩
  obtain rfl : j = 0 := by omega
  obtain ⟨i, hi, _⟩ := h.2
  exact ⟨t, h, (List.getElem?_eq_some_iff.1 hi).1⟩
 | m + 1, k, t, h => by
  obtain ⟨i, hi, h1, h2, h3⟩ := id h
  obtain ⟨f, hf⟩ := h3.each
  refine ⟨fun j => if j = m + 1 then k else f j, fun j hj => ?_⟩
  by_cases e : j = m + 1
  ·subst e
   simp only [if_true]
   exact ⟨t, h, (List.getElem?_eq_some_iff.1 hi).1⟩
  ·simp only [if_neg e]
   exact hf j (by omega)
theorem Ends.short {b : List Ins} {m k t : Nat} (h : Ends b k m t) : m < b.length := by
 obtain ⟨f, hf⟩ := h.each
 have := pigeon b.length (m + 1) f (fun j hj => (hf j (by omega)).choose_spec.2) (fun i j hi hj e => by
  obtain ⟨u, h1, _⟩ := hf i (by omega)
  obtain ⟨v, h2, _⟩ := hf j (by omega)
  rw [e] at h1
  exact (h1.one h2).1)
 omega
theorem endOf_some {b : List Ins} {k t : Nat} : endOf b b.length k = some t ↔ ∃ m, Ends b k m t := by
 rw [endOf_iff]
 exact ⟨fun ⟨m, _, h⟩ => ⟨m, h⟩, fun ⟨m, h⟩ => ⟨m, h.short, h⟩⟩
theorem endOf_none {b : List Ins} {k : Nat} (h : endOf b b.length k = none) {m t : Nat} : ¬ Ends b k m t := fun e => by
 rw [endOf_some.2 ⟨m, e⟩] at h
 cases h
theorem strI_to {b : List Ins} {k t : Nat} {i : Ins} (hj : isJ i = true) (he : endOf b b.length i.a.toNat = some t) : strI b k i = ⟨i.op, t, i.b⟩ := by
 unfold strI
 rw [if_pos hj, he]
theorem strI_self {b : List Ins} {k : Nat} {i : Ins} (hj : isJ i = true) (he : endOf b b.length i.a.toNat = none) (h14 : i.op = 14) : strI b k i = ⟨i.op, k, i.b⟩ := by
 unfold strI
 rw [if_pos hj, he]
 simp only [if_pos h14]
theorem strI_stay {b : List Ins} {k : Nat} {i : Ins} (hj : isJ i = true) (he : endOf b b.length i.a.toNat = none) (h14 : i.op ≠ 14) : strI b k i = i := by
 unfold strI
 rw [if_pos hj, he]
 simp only [if_neg h14]
theorem strI_no {b : List Ins} {k : Nat} {i : Ins} (hj : ¬ isJ i = true) : strI b k i = i := by
 unfold strI
 rw [if_neg hj]
theorem strI_op (b : List Ins) (k : Nat) (i : Ins) : (strI b k i).op = i.op := by
 unfold strI
 split
 ·split
  ·rfl
  ·split <;> rfl
 ·rfl
theorem strI_b (b : List Ins) (k : Nat) (i : Ins) : (strI b k i).b = i.b := by
 unfold strI
 split
 ·split
  ·rfl
  ·split <;> rfl
 ·rfl
theorem strt_len (b : List Ins) : (strt b).length = b.length := by simp [strt]
theorem strt_get (b : List Ins) (k : Nat) : (strt b)[k]? = (b[k]?).map (strI b k) := by simp [strt]
theorem isJ_op {i j : Ins} (h : i.op = j.op) : isJ i = isJ j := by unfold isJ; rw [h]
theorem self_never {b : List Ins} {k : Nat} {i : Ins} (hb : b[k]? = some i) (h14 : i.op = 14) (ha : i.a.toNat = k) {m t : Nat} : ¬ Ends b k m t := fun h => by
 cases m with
 | zero => obtain ⟨rfl, j, h, h'⟩ := h; rw [hb] at h; cases h; exact h' h14
 | succ m => obtain ⟨j, h, _, h', _⟩ := h; rw [hb] at h; cases h; exact h' ha
theorem strt_idem {b : List Ins} (L : Lds b) : strt (strt b) = strt b := by
 apply List.ext_getElem?
 intro k
 rw [strt_get, strt_get, Option.map_map]
 cases hb : b[k]? with
 | none => rfl
 | some i =>
  simp only [Option.map_some, Function.comp, Option.some.injEq]
  by_cases hj : isJ i = true
  ·obtain ⟨a0, a1⟩ := L i (List.mem_of_getElem? hb) hj
   cases he : endOf b b.length i.a.toNat with
   | some t =>
    have e : strI b k i = ⟨i.op, t, i.b⟩ := strI_to hj he
    obtain ⟨m, hm⟩ := endOf_some.1 he
    obtain ⟨x, hx, hx14⟩ := hm.at_
    have hz : endOf (strt b) (strt b).length ((t : Int).toNat) = some t :=
     endOf_some.2 ⟨0, Int.toNat_natCast t, strI b t x, by rw [Int.toNat_natCast, strt_get, hx]; rfl, by rw [strI_op]; exact hx14⟩
    rw [e]
    exact strI_to (i := ⟨i.op, t, i.b⟩) hj hz
   | none =>
    by_cases h14 : i.op = 14
    ·have e : strI b k i = ⟨i.op, k, i.b⟩ := strI_self hj he h14
     have hz : endOf (strt b) (strt b).length ((k : Int).toNat) = none := by
      cases q : endOf (strt b) (strt b).length ((k : Int).toNat) with
      | none => rfl
      | some t =>
       obtain ⟨m, hm⟩ := endOf_some.1 q
       rw [Int.toNat_natCast] at hm
       have hk : (strt b)[k]? = some ⟨i.op, k, i.b⟩ := by rw [strt_get, hb, ← e]; rfl
       exact absurd hm (self_never hk h14 (Int.toNat_natCast k))
     rw [e]
     exact strI_self (i := ⟨i.op, k, i.b⟩) hj hz h14
    ·have e : strI b k i = i := strI_stay hj he h14
     have hz : endOf (strt b) (strt b).length i.a.toNat = none := by
      cases q : endOf (strt b) (strt b).length i.a.toNat with
      | none => rfl
      | some t =>
       obtain ⟨m, hm⟩ := endOf_some.1 q
       obtain ⟨x, hx⟩ : ∃ x, b[i.a.toNat]? = some x := ⟨_, List.getElem?_eq_getElem a1⟩
       have hx14 : x.op = 14 := Classical.byContradiction fun h => endOf_none he (m := 0) (t := i.a.toNat) ⟨rfl, x, hx, h⟩
       have hn : endOf b b.length x.a.toNat = none := by
        cases q2 : endOf b b.length x.a.toNat with
        | none => rfl
        | some u =>
         obtain ⟨m', hm'⟩ := endOf_some.1 q2
         by_cases hs : x.a.toNat = i.a.toNat
         ·rw [hs] at hm'
          exact absurd hm' (endOf_none he)
         ·exact absurd (show Ends b i.a.toNat (m' + 1) u from ⟨x, hx, hx14, hs, hm'⟩) (endOf_none he)
       have ex : strI b i.a.toNat x = ⟨x.op, (i.a.toNat : Int), x.b⟩ := strI_self (by simp [isJ, hx14]) hn hx14
       have hk : (strt b)[i.a.toNat]? = some ⟨x.op, (i.a.toNat : Int), x.b⟩ := by rw [strt_get, hx, ← ex]; rfl
       exact absurd hm (self_never hk hx14 (Int.toNat_natCast _))
     rw [e]
     exact strI_stay hj hz h14
  ·rw [strI_no (b := b) (k := k) hj]
   exact strI_no hj
def rnd (b : List Ins) : Nat → Nat → Bool
 | 0, _ => true
 | n + 1, k => match b[k]? with
  | none => true
  | some i => decide (i.op = 14) && rnd b n i.a.toNat
theorem rnd_false {b : List Ins} : ∀ {n k : Nat}, rnd b n k = false → ∃ m t, Ends b k m t
 | 0, _, h => by cases h
 | n + 1, k, h => by
  unfold rnd at h
  cases hb : b[k]? with
  | none => rw [hb] at h; cases h
  | some i =>
   rw [hb] at h
   by_cases h14 : i.op = 14
   ·have h : rnd b n i.a.toNat = false := by simpa [h14] using h
    obtain ⟨m, t, q⟩ := rnd_false h
    by_cases hk : i.a.toNat = k
    ·rw [hk] at q; exact ⟨m, t, q⟩
    ·exact ⟨m + 1, t, i, hb, h14, hk, q⟩
   ·exact ⟨0, k, rfl, i, hb, h14⟩
theorem strt_ok {b : List Ins} (e : strt b = b) {k : Nat} {i x : Ins} (hi : b[k]? = some i) (hj : isJ i = true) (hx : b[i.a.toNat]? = some x) (h14 : x.op = 14) (n : Nat) : rnd b n i.a.toNat = true := by
 cases h : rnd b n i.a.toNat with
 | true => rfl
 | false =>
  obtain ⟨m, t, q⟩ := rnd_false h
  have he := endOf_some.2 ⟨m, q⟩
  have h1 := strt_get b k
  rw [e, hi] at h1
  have h2 : i = strI b k i := Option.some.inj h1
  have h3 : strI b k i = ⟨i.op, t, i.b⟩ := strI_to hj he
  rw [h3] at h2
  have h4 : i.a.toNat = t := by rw [congrArg Ins.a h2]; exact Int.toNat_natCast t
  obtain ⟨y, hy, hy14⟩ := q.at_
  rw [← h4, hx] at hy
  cases hy
  exact absurd h14 hy14
end Go.Proofs.YtemjajljpoaioaaDoor
