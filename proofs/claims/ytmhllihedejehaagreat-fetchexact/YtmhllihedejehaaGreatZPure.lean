/- Trees, with no program: where keys part, what begins with a text, what is shown of a tree. -/
import Derived.Test.YtmhllihedejehaaGreatM17
namespace Go.Proofs.YtmhllihedejehaaGreat
open Go.RowKit
set_option linter.unusedVariables false
set_option linter.unusedSimpArgs false

/-- So many go to the left at a place. -/
def zerosP (q : Nat) (l : List (Key × Key)) : Nat := (l.filter fun x => decide (bitP x.1 q = 0)).length
theorem zerosP_nil (q : Nat) : zerosP q [] = 0 := rfl
theorem zerosP_le (q : Nat) (l : List (Key × Key)) : zerosP q l ≤ l.length := List.length_filter_le _ _
theorem zerosP_snoc (q : Nat) (l : List (Key × Key)) (x : Key × Key) : zerosP q (l ++ [x]) = zerosP q l + (if bitP x.1 q = 0 then 1 else 0) := by
  unfold zerosP
  rw [List.filter_append, List.length_append]
  congr 1
  by_cases h : bitP x.1 q = 0 <;> simp [h]
theorem zerosP_same (q : Nat) (l : List (Key × Key)) (h : ∀ x ∈ l, ∀ y ∈ l, bitP x.1 q = bitP y.1 q) : zerosP q l = 0 ∨ zerosP q l = l.length := by
  cases l with
  | nil => exact .inl rfl
  | cons a r =>
    by_cases ha : bitP a.1 q = 0
    · right
      unfold zerosP
      rw [List.filter_eq_self.2 fun x hx => by rw [h x hx a (by simp)]; simpa using ha]
    · left
      unfold zerosP
      rw [List.filter_eq_nil_iff.2 fun x hx => by rw [h x hx a (by simp)]; simpa using ha]
      rfl
theorem Tr.items_pos (t : Tr) : 0 < t.items.length := by
  obtain ⟨x, hx⟩ := t.any
  exact List.length_pos_of_mem hx
/-- Where a fork's keys part. -/
theorem fork_at {p : Nat} {l r : Tr} (h : (Tr.fork p l r).wf) : zerosP p (l.items ++ r.items) = l.items.length := by
  obtain ⟨_, _, h0, h1, _⟩ := h
  unfold zerosP
  rw [List.filter_append, List.filter_eq_self.2 fun x hx => by simpa using h0 x hx, List.filter_eq_nil_iff.2 fun x hx => by have := h1 x hx; simp; omega, List.append_nil]
theorem fork_ahead {p : Nat} {l r : Tr} (h : (Tr.fork p l r).wf) (q : Nat) (hq : q < p) : zerosP q (l.items ++ r.items) = 0 ∨ zerosP q (l.items ++ r.items) = (l.items ++ r.items).length := by
  obtain ⟨_, _, _, _, ha⟩ := h
  exact zerosP_same q _ fun x hx y hy => ha x hx y hy q hq

/-- It begins with a text. -/
theorem pre_agree : ∀ (p k : Key), p <+: k ↔ agree (9 * p.length) k p
  | [], k => by simp [agree]
  | c :: p, [] => by
    constructor
    · intro h
      have := h.length_le
      simp at this
    · intro h
      have := h 0 (by simp)
      rw [bitP_nil, bitP_zero] at this
      omega
  | c :: p, d :: k => by
    rw [List.cons_prefix_cons]
    constructor
    · rintro ⟨rfl, h⟩ q hq
      have ih := (pre_agree p k).1 h
      simp only [List.length_cons] at hq
      by_cases h9 : q < 9
      · by_cases h0 : q = 0
        · subst h0; rw [bitP_zero, bitP_zero]
        · rw [bitP_in c k q (by omega) h9, bitP_in c p q (by omega) h9]
      · obtain ⟨r, rfl⟩ : ∃ r, q = 9 + r := ⟨q - 9, by omega⟩
        rw [bitP_behind, bitP_behind]
        exact ih r (by omega)
    · intro h
      have hlen : 9 * (c :: p).length = 9 + 9 * p.length := by simp; omega
      have e : d = c := byte_eq d c fun q q0 q9 => by
        have := h q (by omega)
        rw [bitP_in d k q q0 q9, bitP_in c p q q0 q9] at this
        exact this
      refine ⟨e.symm, (pre_agree p k).2 fun q hq => ?_⟩
      have := h (9 + q) (by omega)
      rw [bitP_behind, bitP_behind] at this
      exact this

/-- The part of a tree to which the bits of a text lead. -/
def Tr.sub (p : Key) : Tr → Tr
  | .leaf k v => .leaf k v
  | .fork q l r => if q < 9 * p.length then (if bitP p q = 0 then l.sub p else r.sub p) else .fork q l r
def pre (p : Key) (x : Key × Key) : Bool := p.isPrefixOf x.1
theorem pre_iff (p : Key) (x : Key × Key) : pre p x = true ↔ p <+: x.1 := by unfold pre; exact List.isPrefixOf_iff_prefix
theorem Tr.sub_filter (p : Key) (t : Tr) (h : t.wf) : t.items.filter (pre p) = (t.sub p).items.filter (pre p) := by
  induction t with
  | leaf k v => rfl
  | fork q l r ihl ihr =>
    obtain ⟨hl, hr, h0, h1, ha⟩ := h
    simp only [Tr.sub]
    split
    · rename_i hq
      have off : ∀ (s : Tr), (∀ x ∈ s.items, bitP x.1 q ≠ bitP p q) → s.items.filter (pre p) = [] := fun s hs =>
        List.filter_eq_nil_iff.2 fun x hx hp => hs x hx ((pre_agree p x.1).1 ((pre_iff p x).1 hp) q hq)
      rw [Tr.items, List.filter_append]
      split
      · rename_i hb
        rw [off r fun x hx => by rw [h1 x hx]; omega, List.append_nil, ihl hl]
      · rename_i hb
        rw [off l fun x hx => by rw [h0 x hx]; omega, List.nil_append, ihr hr]
    · rfl
theorem Tr.sub_wf (p : Key) (t : Tr) (h : t.wf) : (t.sub p).wf := by
  induction t with
  | leaf k v => exact h
  | fork q l r ihl ihr =>
    simp only [Tr.sub]
    split
    · split
      · exact ihl h.1
      · exact ihr h.2.1
    · exact h
theorem Tr.sub_sub (p : Key) (t : Tr) : ∀ x ∈ (t.sub p).items, x ∈ t.items := by
  induction t with
  | leaf k v => exact fun x h => h
  | fork q l r ihl ihr =>
    simp only [Tr.sub]
    split
    · split
      · exact fun x hx => by simp [Tr.items, ihl x hx]
      · exact fun x hx => by simp [Tr.items, ihr x hx]
    · exact fun x h => h
theorem Tr.sub_len (p : Key) (t : Tr) : (t.sub p).items.length ≤ t.items.length := by
  induction t with
  | leaf k v => exact Nat.le_refl _
  | fork q l r ihl ihr =>
    simp only [Tr.sub]
    split
    · split
      · simp only [Tr.items, List.length_append]; omega
      · simp only [Tr.items, List.length_append]; omega
    · exact Nat.le_refl _
theorem Tr.sub_alike (p : Key) (t : Tr) (h : t.wf) : ∀ x ∈ (t.sub p).items, ∀ y ∈ (t.sub p).items, pre p x = true → pre p y = true := by
  induction t with
  | leaf k v =>
    intro x hx y hy
    simp only [Tr.sub, Tr.items, List.mem_singleton] at hx hy
    rw [hx, hy]; exact id
  | fork q l r ihl ihr =>
    simp only [Tr.sub]
    split
    · split
      · exact ihl h.1
      · exact ihr h.2.1
    · rename_i hq
      obtain ⟨hl, hr, h0, h1, ha⟩ := h
      intro x hx y hy hp
      rw [pre_iff] at hp ⊢
      refine (pre_agree p y.1).2 ?_
      exact ((ha y hy x hx).mono (by omega)).trans ((pre_agree p x.1).1 hp)
/-- At most so many (below 0: all). -/
def most (n : Int) (l : List (Key × Key)) : List (Key × Key) := if n < 0 then l else l.take n.toNat
def someP (p : Key) (n : Int) (o : Option Tr) : List (Key × Key) := most n ((itemsO o).filter (pre p))
/-- What the program's loop comes to. -/
theorem some_stop (p : Key) (n : Int) (t : Tr) (h : t.wf) (ys : List (Key × Key)) (z : Key × Key) (hp : ys ++ [z] <+: (t.sub p).items) (hall : ∀ x ∈ ys, pre p x = true) (hn : n < 0 ∨ (ys.length : Int) ≤ n) (hs : (ys.length : Int) = n ∨ pre p z = false) : ys = someP p n (some t) := by
  have hf := Tr.sub_filter p t h
  obtain ⟨r, hr⟩ := hp
  have hz : z ∈ (t.sub p).items := by rw [← hr]; simp
  unfold someP itemsO
  rw [hf]
  by_cases hpz : pre p z = true
  · have e : (t.sub p).items.filter (pre p) = (t.sub p).items := List.filter_eq_self.2 fun x hx => Tr.sub_alike p t h z hz x hx hpz
    rw [e]
    have hn' : (ys.length : Int) = n := hs.resolve_right (by rw [hpz]; simp)
    unfold most
    rw [if_neg (by omega), ← hr, List.append_assoc]
    have : n.toNat = ys.length := by omega
    rw [this, List.take_left]
  · have e : (t.sub p).items.filter (pre p) = [] := List.filter_eq_nil_iff.2 fun x hx hx2 => hpz (Tr.sub_alike p t h x hx z hz hx2)
    have hy : ys = [] := by
      cases ys with
      | nil => rfl
      | cons a b => exact absurd (Tr.sub_alike p t h a (by rw [← hr]; simp) z hz (hall a (by simp))) hpz
    rw [e, hy]
    unfold most
    split <;> simp
theorem some_all (p : Key) (n : Int) (t : Tr) (h : t.wf) (hall : ∀ x ∈ (t.sub p).items, pre p x = true) (hn : n < 0 ∨ ((t.sub p).items.length : Int) ≤ n) : (t.sub p).items = someP p n (some t) := by
  unfold someP itemsO most
  rw [Tr.sub_filter p t h, List.filter_eq_self.2 hall]
  split
  · rfl
  · rw [List.take_of_length_le (by omega)]

/-- The answer's way through a list of keys. -/
def someGo (p : Key) (n : Int) : List (Key × Key) → List (Key × Key) → List (Key × Key)
  | acc, [] => acc
  | acc, x :: xs => someGo p n (if pre p x && (decide (n < 0) || decide ((acc.length : Int) < n)) then acc ++ [x] else acc) xs
theorem someGo_eq (p : Key) (n : Int) : ∀ (l acc : List (Key × Key)), (n < 0 ∨ (acc.length : Int) ≤ n) → someGo p n acc l = most n (acc ++ l.filter (pre p))
  | [], acc, h => by
    simp only [someGo, List.filter_nil, List.append_nil, most]
    split
    · rfl
    · rw [List.take_of_length_le (by omega)]
  | x :: xs, acc, h => by
    simp only [someGo, List.filter_cons]
    by_cases hp : pre p x = true
    · rw [if_pos hp]
      by_cases hn : n < 0 ∨ (acc.length : Int) < n
      · have e : (pre p x && (decide (n < 0) || decide ((acc.length : Int) < n))) = true := by simp [hp, hn]
        rw [if_pos e, someGo_eq p n xs _ (by simp only [List.length_append, List.length_singleton]; omega)]
        simp
      · have e : ¬ (pre p x && (decide (n < 0) || decide ((acc.length : Int) < n))) = true := by simp only [hp, Bool.true_and, Bool.or_eq_true, decide_eq_true_eq]; exact hn
        rw [if_neg e, someGo_eq p n xs acc h]
        have hl : n.toNat = acc.length := by omega
        unfold most
        rw [if_neg (by omega), if_neg (by omega), hl, List.take_left, List.take_left]
    · rw [if_neg hp]
      have e : ¬ (pre p x && (decide (n < 0) || decide ((acc.length : Int) < n))) = true := by simp [hp]
      rw [if_neg e, someGo_eq p n xs acc h]

/-- The answer's Get. -/
def rgetP (key : Key) (l : List (Key × Key)) : Key := match l.find? (fun x => x.1 == key) with
  | some x => x.2
  | none => []
theorem rget_getO (key : Key) (o : Option Tr) (h : Good o) : rgetP key (itemsO o) = getO key o := by
  unfold rgetP
  cases e : (itemsO o).find? (fun x => x.1 == key) with
  | some x =>
    have h1 := List.mem_of_find?_eq_some e
    have h2 := List.find?_some e
    have hx : x = (key, x.2) := by
      have : x.1 = key := by simpa using h2
      rw [← this]
    rw [hx] at h1
    exact (getO_mem h key x.2 h1).symm
  | none =>
    rw [List.find?_eq_none] at e
    by_cases hg : getO key o = []
    · exact hg.symm
    · have := e _ (getO_some h key hg)
      simp at this

/-- What stands at the end of a way. -/
def Tr.at_ : List Bool → Tr → Option Tr
  | [], t => some t
  | _ :: _, .leaf _ _ => none
  | b :: w, .fork _ l r => if b then r.at_ w else l.at_ w
end Go.Proofs.YtmhllihedejehaaGreat
