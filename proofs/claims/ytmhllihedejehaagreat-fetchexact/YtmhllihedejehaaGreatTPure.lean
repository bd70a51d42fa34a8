/- Trees, with no program: bits of keys, order, what is in a tree, what is put into it and taken out. -/
import Derived.WalkKit
namespace Go.Proofs.YtmhllihedejehaaGreat
set_option linter.unusedVariables false

abbrev Key := List UInt8

/-- The bit of a key at a place. -/
def bitP (k : Key) (p : Nat) : Nat := match k[p / 9]? with
  | none => 0
  | some c => if p % 9 = 0 then 1 else c.toNat / 2 ^ (8 - p % 9) % 2

theorem bitP_01 (k : Key) (p : Nat) : bitP k p = 0 ∨ bitP k p = 1 := by
  unfold bitP
  split
  · exact .inl rfl
  · split
    · exact .inr rfl
    · omega
theorem bitP_nil (p : Nat) : bitP [] p = 0 := by simp [bitP]
theorem bitP_zero (c : UInt8) (k : Key) : bitP (c :: k) 0 = 1 := by simp [bitP]
theorem bitP_in (c : UInt8) (k : Key) (p : Nat) (h0 : 0 < p) (h : p < 9) : bitP (c :: k) p = c.toNat / 2 ^ (8 - p) % 2 := by
  have e : p / 9 = 0 := by omega
  have e2 : p % 9 = p := by omega
  simp only [bitP, e, e2, List.getElem?_cons_zero]
  rw [if_neg (by omega)]
theorem bitP_behind (c : UInt8) (k : Key) (p : Nat) : bitP (c :: k) (9 + p) = bitP k p := by
  have e : (9 + p) / 9 = p / 9 + 1 := by omega
  have e2 : (9 + p) % 9 = p % 9 := by omega
  simp only [bitP, e, e2, List.getElem?_cons_succ]

/-- Alike at all places ahead of p. -/
def agree (p : Nat) (a b : Key) : Prop := ∀ q, q < p → bitP a q = bitP b q
theorem agree.symm {p : Nat} {a b : Key} (h : agree p a b) : agree p b a := fun q hq => (h q hq).symm
theorem agree.trans {p : Nat} {a b c : Key} (h : agree p a b) (g : agree p b c) : agree p a c := fun q hq => (h q hq).trans (g q hq)
theorem agree.mono {p q : Nat} {a b : Key} (h : agree p a b) (hq : q ≤ p) : agree q a b := fun r hr => h r (by omega)

theorem byte_eq (c d : UInt8) (h : ∀ q, 0 < q → q < 9 → c.toNat / 2 ^ (8 - q) % 2 = d.toNat / 2 ^ (8 - q) % 2) : c = d := by
  have h1 := h 1 (by omega) (by omega)
  have h2 := h 2 (by omega) (by omega)
  have h3 := h 3 (by omega) (by omega)
  have h4 := h 4 (by omega) (by omega)
  have h5 := h 5 (by omega) (by omega)
  have h6 := h 6 (by omega) (by omega)
  have h7 := h 7 (by omega) (by omega)
  have h8 := h 8 (by omega) (by omega)
  have hc := c.toNat_lt
  have hd := d.toNat_lt
  apply UInt8.toNat_inj.1
  simp at h1 h2 h3 h4 h5 h6 h7 h8
  omega

theorem byte_lt (c d : UInt8) (p : Nat) (h0 : 0 < p) (h9 : p < 9) (h : ∀ q, 0 < q → q < p → c.toNat / 2 ^ (8 - q) % 2 = d.toNat / 2 ^ (8 - q) % 2) (hc0 : c.toNat / 2 ^ (8 - p) % 2 = 0) (hd1 : d.toNat / 2 ^ (8 - p) % 2 = 1) : c < d := by
  have hc := c.toNat_lt
  have hd := d.toNat_lt
  rw [UInt8.lt_iff_toNat_lt]
  have e : p = 1 ∨ p = 2 ∨ p = 3 ∨ p = 4 ∨ p = 5 ∨ p = 6 ∨ p = 7 ∨ p = 8 := by omega
  have hh : ∀ q, 0 < q → q < 9 → q < p → c.toNat / 2 ^ (8 - q) % 2 = d.toNat / 2 ^ (8 - q) % 2 := fun q a _ b => h q a b
  have h1 := hh 1 (by omega) (by omega)
  have h2 := hh 2 (by omega) (by omega)
  have h3 := hh 3 (by omega) (by omega)
  have h4 := hh 4 (by omega) (by omega)
  have h5 := hh 5 (by omega) (by omega)
  have h6 := hh 6 (by omega) (by omega)
  have h7 := hh 7 (by omega) (by omega)
  simp only [Nat.reduceSub, Nat.reducePow] at h1 h2 h3 h4 h5 h6 h7
  rcases e with rfl | rfl | rfl | rfl | rfl | rfl | rfl | rfl <;> simp only [Nat.reduceSub, Nat.reducePow, Nat.reduceLT, false_implies, true_implies] at * <;> omega

/-- The order of bytes is that of bits. -/
theorem less_of_bits : ∀ (a b : Key) (p : Nat), agree p a b → bitP a p = 0 → bitP b p = 1 → Op.bytesLess a b = true
  | a, [], p, _, _, h1 => by rw [bitP_nil] at h1; omega
  | [], _ :: _, _, _, _, _ => rfl
  | c :: x, d :: y, p, ha, h0, h1 => by
    by_cases hp0 : p = 0
    · subst hp0; rw [bitP_zero] at h0; omega
    by_cases hp : p < 9
    · have hl := byte_lt c d p (by omega) hp (fun q q0 qp => by
        have := ha q qp
        rw [bitP_in c x q q0 (by omega), bitP_in d y q q0 (by omega)] at this
        exact this) (by rw [← bitP_in c x p (by omega) hp]; exact h0) (by rw [← bitP_in d y p (by omega) hp]; exact h1)
      simp [Op.bytesLess, hl]
    · have he : c = d := byte_eq c d fun q q0 q9 => by
        have := ha q (by omega)
        rw [bitP_in c x q q0 q9, bitP_in d y q q0 q9] at this
        exact this
      obtain ⟨r, rfl⟩ : ∃ r, p = 9 + r := ⟨p - 9, by omega⟩
      rw [bitP_behind] at h0 h1
      have ih := less_of_bits x y r (fun q hq => by have := ha (9 + q) (by omega); rwa [bitP_behind, bitP_behind] at this) h0 h1
      simp [Op.bytesLess, he, ih]

theorem less_irr : ∀ a : Key, Op.bytesLess a a = false
  | [] => rfl
  | c :: x => by simp [Op.bytesLess, less_irr x]
theorem less_trans : ∀ a b c : Key, Op.bytesLess a b = true → Op.bytesLess b c = true → Op.bytesLess a c = true
  | _, b, [], _, h => by cases b <;> simp [Op.bytesLess] at h
  | a, [], _ :: _, h, _ => by cases a <;> simp [Op.bytesLess] at h
  | [], _ :: _, _ :: _, _, _ => rfl
  | a :: x, b :: y, c :: z, h1, h2 => by
    simp only [Op.bytesLess, Bool.or_eq_true, Bool.and_eq_true, decide_eq_true_eq, beq_iff_eq] at h1 h2 ⊢
    rcases h1 with h1 | ⟨rfl, h1⟩
    · rcases h2 with h2 | ⟨rfl, h2⟩
      · left; rw [UInt8.lt_iff_toNat_lt] at *; omega
      · left; exact h1
    · rcases h2 with h2 | ⟨rfl, h2⟩
      · left; exact h2
      · right; exact ⟨rfl, less_trans x y z h1 h2⟩
theorem less_asymm (a b : Key) (h1 : Op.bytesLess a b = true) (h2 : Op.bytesLess b a = true) : False := by
  have := less_trans a b a h1 h2
  rw [less_irr] at this; cases this
theorem less_total : ∀ a b : Key, Op.bytesLess a b = true ∨ a = b ∨ Op.bytesLess b a = true
  | [], [] => .inr (.inl rfl)
  | [], _ :: _ => .inl rfl
  | _ :: _, [] => .inr (.inr rfl)
  | c :: x, d :: y => by
    rcases less_total x y with h | h | h <;> simp only [Op.bytesLess, Bool.or_eq_true, Bool.and_eq_true, decide_eq_true_eq, beq_iff_eq, List.cons.injEq, UInt8.lt_iff_toNat_lt, ← UInt8.toNat_inj] <;> by_cases h1 : c.toNat < d.toNat <;> by_cases h2 : d.toNat < c.toNat
    all_goals first | exact .inl (.inl h1) | exact .inr (.inr (.inl h2)) | exact .inl (.inr ⟨by omega, h⟩) | exact .inr (.inl ⟨by omega, h⟩) | exact .inr (.inr (.inr ⟨by omega, h⟩))

/-- Sorted, with no key twice. -/
def Sorted (l : List (Key × Key)) : Prop := l.Pairwise fun x y => Op.bytesLess x.1 y.1 = true

theorem sorted_uniq : ∀ (l m : List (Key × Key)), Sorted l → Sorted m → (∀ x, x ∈ l ↔ x ∈ m) → l = m
  | [], [], _, _, _ => rfl
  | [], y :: m, _, _, h => by have := (h y).2 (by simp); simp at this
  | x :: l, [], _, _, h => by have := (h x).1 (by simp); simp at this
  | x :: l, y :: m, hl, hm, h => by
    obtain ⟨hl1, hl2⟩ := List.pairwise_cons.1 hl
    obtain ⟨hm1, hm2⟩ := List.pairwise_cons.1 hm
    have exy : x = y := by
      rcases List.mem_cons.1 ((h x).1 (by simp)) with e | hx
      · exact e
      · rcases List.mem_cons.1 ((h y).2 (by simp)) with e | hy
        · exact e.symm
        · exact (less_asymm _ _ (hm1 x hx) (hl1 y hy)).elim
    subst exy
    rw [sorted_uniq l m hl2 hm2 fun z => ?_]
    have hz := h z
    constructor
    · intro hzl
      rcases List.mem_cons.1 (hz.1 (List.mem_cons_of_mem _ hzl)) with e | hh
      · subst e; have := hl1 _ hzl; rw [less_irr] at this; cases this
      · exact hh
    · intro hzm
      rcases List.mem_cons.1 (hz.2 (List.mem_cons_of_mem _ hzm)) with e | hh
      · subst e; have := hm1 _ hzm; rw [less_irr] at this; cases this
      · exact hh

/-- What the answer's Put makes of the rest of its keys; done: nothing is to be put any more. -/
def putGo (key value : Key) : Bool → List (Key × Key) → List (Key × Key)
  | done, [] => if done then [] else [(key, value)]
  | done, x :: xs => (if !done && (Op.bytesLess key x.1 || key == x.1) then [(key, value)] else []) ++ (if x.1 == key then [] else [x]) ++ putGo key value (done || (Op.bytesLess key x.1 || key == x.1)) xs

def del (key : Key) (l : List (Key × Key)) : List (Key × Key) := l.filter fun x => !(x.1 == key)

theorem putGo_done (key value : Key) : ∀ l, putGo key value true l = del key l
  | [] => rfl
  | x :: xs => by
    simp only [putGo, Bool.not_true, Bool.false_and, Bool.false_eq_true, if_false, List.nil_append, Bool.true_or, del, List.filter_cons]
    rw [putGo_done key value xs]
    by_cases h : x.1 == key <;> simp [h, del]

theorem del_sorted {key : Key} {l : List (Key × Key)} (h : Sorted l) : Sorted (del key l) := List.Pairwise.filter _ h
theorem mem_del {key : Key} {l : List (Key × Key)} {x : Key × Key} : x ∈ del key l ↔ x ∈ l ∧ x.1 ≠ key := by simp [del]

theorem putGo_spec (key value : Key) : ∀ l, Sorted l → Sorted (putGo key value false l) ∧ ∀ y, y ∈ putGo key value false l ↔ y = (key, value) ∨ (y ∈ l ∧ y.1 ≠ key)
  | [], _ => ⟨List.pairwise_singleton _ _, fun y => by simp [putGo]⟩
  | x :: xs, h => by
    obtain ⟨h1, h2⟩ := List.pairwise_cons.1 h
    by_cases hle : (Op.bytesLess key x.1 || key == x.1) = true
    · have e : putGo key value false (x :: xs) = (key, value) :: del key (x :: xs) := by
        simp only [putGo, hle, Bool.not_false, Bool.true_and, if_true, Bool.or_true]
        rw [putGo_done]
        simp only [del, List.filter_cons]
        by_cases hk : x.1 == key <;> simp [hk]
      rw [e]
      refine ⟨List.pairwise_cons.2 ⟨fun y hy => ?_, del_sorted h⟩, fun y => by rw [List.mem_cons, mem_del]⟩
      obtain ⟨hy1, hy2⟩ := mem_del.1 hy
      rw [Bool.or_eq_true, beq_iff_eq] at hle
      rcases List.mem_cons.1 hy1 with rfl | hy1
      · rcases hle with hl | hl
        · exact hl
        · exact (hy2 hl.symm).elim
      · have := h1 y hy1
        rcases hle with hl | hl
        · exact less_trans _ _ _ hl this
        · rw [hl]; exact this
    · have hlf : (Op.bytesLess key x.1 || key == x.1) = false := by simpa using hle
      have hne : x.1 ≠ key := by
        intro e; rw [e] at hlf; simp at hlf
      have hlt : Op.bytesLess x.1 key = true := by
        rcases less_total x.1 key with g | g | g
        · exact g
        · exact (hne g).elim
        · rw [g] at hlf; simp at hlf
      have e : putGo key value false (x :: xs) = x :: putGo key value false xs := by
        simp [putGo, hlf, hne]
      obtain ⟨i1, i2⟩ := putGo_spec key value xs h2
      rw [e]
      refine ⟨List.pairwise_cons.2 ⟨fun y hy => ?_, i1⟩, fun y => ?_⟩
      · rcases (i2 y).1 hy with rfl | ⟨hy, _⟩
        · exact hlt
        · exact h1 y hy
      · rw [List.mem_cons, i2, List.mem_cons]
        constructor
        · rintro (rfl | h | ⟨h, g⟩)
          · exact .inr ⟨.inl rfl, hne⟩
          · exact .inl h
          · exact .inr ⟨.inr h, g⟩
        · rintro (h | ⟨rfl | h, g⟩)
          · exact .inr (.inl h)
          · exact .inl rfl
          · exact .inr (.inr ⟨h, g⟩)

/-- A tree that is not empty. -/
inductive Tr where
  | leaf (k v : Key)
  | fork (p : Nat) (l r : Tr)

def Tr.items : Tr → List (Key × Key)
  | .leaf k v => [(k, v)]
  | .fork _ l r => l.items ++ r.items
def Tr.size : Tr → Nat
  | .leaf _ _ => 1
  | .fork _ l r => l.size + r.size + 1
def Tr.wf : Tr → Prop
  | .leaf _ _ => True
  | .fork p l r => l.wf ∧ r.wf ∧ (∀ x ∈ l.items, bitP x.1 p = 0) ∧ (∀ x ∈ r.items, bitP x.1 p = 1) ∧ ∀ x ∈ l.items ++ r.items, ∀ y ∈ l.items ++ r.items, agree p x.1 y.1
def Tr.find (key : Key) : Tr → Key × Key
  | .leaf k v => (k, v)
  | .fork p l r => if bitP key p = 0 then l.find key else r.find key

theorem Tr.any (t : Tr) : ∃ x, x ∈ t.items := by
  induction t with
  | leaf k v => exact ⟨(k, v), by simp [Tr.items]⟩
  | fork p l r ihl _ => obtain ⟨x, hx⟩ := ihl; exact ⟨x, by simp [Tr.items, hx]⟩
theorem Tr.find_mem (key : Key) (t : Tr) : t.find key ∈ t.items := by
  induction t with
  | leaf k v => simp [Tr.find, Tr.items]
  | fork p l r ihl ihr =>
    simp only [Tr.find, Tr.items, List.mem_append]
    split
    · exact .inl ihl
    · exact .inr ihr
theorem Tr.sorted (t : Tr) (h : t.wf) : Sorted t.items := by
  induction t with
  | leaf k v => exact List.pairwise_singleton _ _
  | fork p l r ihl ihr =>
    obtain ⟨hl, hr, h0, h1, ha⟩ := h
    refine List.pairwise_append.2 ⟨ihl hl, ihr hr, fun x hx y hy => ?_⟩
    exact less_of_bits x.1 y.1 p (ha x (by simp [hx]) y (by simp [hy])) (h0 x hx) (h1 y hy)
theorem Tr.find_key (t : Tr) (h : t.wf) (key : Key) (v : Key) (hk : (key, v) ∈ t.items) : t.find key = (key, v) := by
  induction t with
  | leaf k v' => simp only [Tr.items, List.mem_singleton] at hk; rw [hk]; rfl
  | fork p l r ihl ihr =>
    obtain ⟨hl, hr, h0, h1, ha⟩ := h
    simp only [Tr.items, List.mem_append] at hk
    simp only [Tr.find]
    rcases hk with hk | hk
    · rw [if_pos (h0 _ hk)]; exact ihl hl hk
    · rw [if_neg (by have := h1 _ hk; simp only at this; omega)]; exact ihr hr hk

/-- A tree is what is in it. -/
theorem Tr.uniq (t : Tr) : ∀ u : Tr, t.wf → u.wf → t.items = u.items → t = u := by
  induction t with
  | leaf k v =>
    intro u _ hu e
    cases u with
    | leaf k' v' => simp only [Tr.items, List.cons.injEq, Prod.mk.injEq, and_true] at e; rw [e.1, e.2]
    | fork p l r =>
      exfalso
      obtain ⟨x, hx⟩ := l.any
      obtain ⟨y, hy⟩ := r.any
      simp only [Tr.items] at e
      have := congrArg List.length e
      have h1 := List.length_pos_of_mem hx
      have h2 := List.length_pos_of_mem hy
      simp at this; omega
  | fork p l r ihl ihr =>
    intro u ht hu e
    cases u with
    | leaf k v =>
      exfalso
      obtain ⟨x, hx⟩ := l.any
      obtain ⟨y, hy⟩ := r.any
      simp only [Tr.items] at e
      have := congrArg List.length e
      have h1 := List.length_pos_of_mem hx
      have h2 := List.length_pos_of_mem hy
      simp at this; omega
    | fork p' l' r' =>
      obtain ⟨hl, hr, h0, h1, ha⟩ := ht
      obtain ⟨hl', hr', h0', h1', ha'⟩ := hu
      simp only [Tr.items] at e
      have hp : p = p' := by
        obtain ⟨x, hx⟩ := l.any
        obtain ⟨y, hy⟩ := r.any
        obtain ⟨x', hx'⟩ := l'.any
        obtain ⟨y', hy'⟩ := r'.any
        rcases Nat.lt_trichotomy p p' with g | g | g
        · have := ha' x (by rw [← e]; simp [hx]) y (by rw [← e]; simp [hy]) p g
          rw [h0 x hx, h1 y hy] at this; omega
        · exact g
        · have := ha x' (by rw [e]; simp [hx']) y' (by rw [e]; simp [hy']) p' g
          rw [h0' x' hx', h1' y' hy'] at this; omega
      subst hp
      have f : ∀ (a b : List (Key × Key)), (∀ x ∈ a, bitP x.1 p = 0) → (∀ x ∈ b, bitP x.1 p = 1) → (a ++ b).filter (fun x => decide (bitP x.1 p = 0)) = a ∧ (a ++ b).filter (fun x => !decide (bitP x.1 p = 0)) = b := by
        intro a b ha hb
        rw [List.filter_append, List.filter_append]
        refine ⟨?_, ?_⟩
        · rw [List.filter_eq_self.2 (fun x hx => by simp [ha x hx]), List.filter_eq_nil_iff.2 (fun x hx => by simp [hb x hx]), List.append_nil]
        · rw [List.filter_eq_nil_iff.2 (fun x hx => by simp [ha x hx]), List.filter_eq_self.2 (fun x hx => by simp [hb x hx]), List.nil_append]
      have f1 := f _ _ h0 h1
      have f2 := f _ _ h0' h1'
      rw [e] at f1
      rw [ihl l' hl hl' (f1.1.symm.trans f2.1), ihr r' hr hr' (f1.2.symm.trans f2.2)]

/-- Without a key. -/
def Tr.without (key : Key) : Tr → Option Tr
  | .leaf _ _ => none
  | .fork p l r => if bitP key p = 0 then (match l.without key with | none => some r | some l' => some (.fork p l' r)) else (match r.without key with | none => some l | some r' => some (.fork p l r'))

def itemsO : Option Tr → List (Key × Key)
  | none => []
  | some t => t.items
def wfO : Option Tr → Prop
  | none => True
  | some t => t.wf

theorem del_off {key : Key} {l : List (Key × Key)} (h : ∀ x ∈ l, x.1 ≠ key) : del key l = l := List.filter_eq_self.2 fun x hx => by simp [h x hx]
theorem del_app (key : Key) (l m : List (Key × Key)) : del key (l ++ m) = del key l ++ del key m := List.filter_append _ _

theorem Tr.without_spec (t : Tr) (h : t.wf) (key v : Key) (hk : (key, v) ∈ t.items) : itemsO (t.without key) = del key t.items ∧ wfO (t.without key) := by
  induction t with
  | leaf k v' =>
    simp only [Tr.items, List.mem_singleton, Prod.mk.injEq] at hk
    obtain ⟨rfl, _⟩ := hk
    exact ⟨by simp [Tr.without, itemsO, Tr.items, del], trivial⟩
  | fork p l r ihl ihr =>
    obtain ⟨hl, hr, h0, h1, ha⟩ := h
    simp only [Tr.items, List.mem_append] at hk
    rcases hk with hk | hk
    · have hb : bitP key p = 0 := h0 _ hk
      have hoff : del key r.items = r.items := del_off fun x hx e => by have := h1 x hx; rw [e] at this; omega
      obtain ⟨e, g⟩ := ihl hl hk
      have hw : ((Tr.fork p l r).without key) = (match l.without key with | none => some r | some l' => some (.fork p l' r)) := by simp [Tr.without, hb]
      rw [hw]
      cases hq : l.without key with
      | none =>
        rw [hq] at e
        exact ⟨by simp only [itemsO, Tr.items, del_app, hoff]; rw [← e]; rfl, hr⟩
      | some l' =>
        rw [hq] at e g
        have sub : ∀ x ∈ l'.items, x ∈ l.items := fun x hx => by
          have : x ∈ del key l.items := by rw [← e]; exact hx
          exact (mem_del.1 this).1
        refine ⟨by simp only [itemsO, Tr.items, del_app, hoff]; rw [← e]; rfl, g, hr, fun x hx => h0 x (sub x hx), h1, fun x hx y hy => ha x ?_ y ?_⟩
        · rcases List.mem_append.1 hx with hx | hx
          · simp [sub x hx]
          · simp [hx]
        · rcases List.mem_append.1 hy with hy | hy
          · simp [sub y hy]
          · simp [hy]
    · have hb : ¬ bitP key p = 0 := by have := h1 _ hk; simp only at this; omega
      have hoff : del key l.items = l.items := del_off fun x hx e => by have := h0 x hx; rw [e] at this; omega
      obtain ⟨e, g⟩ := ihr hr hk
      have hw : ((Tr.fork p l r).without key) = (match r.without key with | none => some l | some r' => some (.fork p l r')) := by simp [Tr.without, hb]
      rw [hw]
      cases hq : r.without key with
      | none =>
        rw [hq] at e
        exact ⟨by simp only [itemsO, Tr.items, del_app, hoff]; rw [← e]; simp [itemsO], hl⟩
      | some r' =>
        rw [hq] at e g
        have sub : ∀ x ∈ r'.items, x ∈ r.items := fun x hx => by
          have : x ∈ del key r.items := by rw [← e]; exact hx
          exact (mem_del.1 this).1
        refine ⟨by simp only [itemsO, Tr.items, del_app, hoff]; rw [← e]; rfl, hl, g, h0, fun x hx => h1 x (sub x hx), fun x hx y hy => ha x ?_ y ?_⟩
        · rcases List.mem_append.1 hx with hx | hx
          · simp [hx]
          · simp [sub x hx]
        · rcases List.mem_append.1 hy with hy | hy
          · simp [hy]
          · simp [sub y hy]

/-- A fork at a place, with x on the side 'at'. -/
def mkFork (place at_ : Nat) (x y : Tr) : Tr := if at_ = 0 then .fork place x y else .fork place y x

/-- With a key; place: where it parts from what is found at its way's end. -/
def Tr.with_ (key value : Key) (place : Nat) : Tr → Tr
  | .leaf k v => if k = key then .leaf key value else mkFork place (bitP key place) (.leaf key value) (.leaf k v)
  | .fork p l r => if p < place then (if bitP key p = 0 then .fork p (l.with_ key value place) r else .fork p l (r.with_ key value place)) else mkFork place (bitP key place) (.leaf key value) (.fork p l r)

theorem mkFork_spec (key value : Key) (place : Nat) (t : Tr) (h : t.wf) (hb : ∀ x ∈ t.items, bitP x.1 place ≠ bitP key place) (ha : ∀ x ∈ t.items, agree place x.1 key) (hs : ∀ x ∈ t.items, ∀ y ∈ t.items, agree place x.1 y.1) :
    (mkFork place (bitP key place) (.leaf key value) t).wf ∧ ∀ y, y ∈ (mkFork place (bitP key place) (.leaf key value) t).items ↔ y = (key, value) ∨ (y ∈ t.items ∧ y.1 ≠ key) := by
  have hne : ∀ y ∈ t.items, y.1 ≠ key := fun y hy e => hb y hy (by rw [e])
  have all : ∀ (x y : Key × Key), (x = (key, value) ∨ x ∈ t.items) → (y = (key, value) ∨ y ∈ t.items) → agree place x.1 y.1 := by
    rintro x y (rfl | hx) (rfl | hy)
    · exact fun _ _ => rfl
    · exact (ha y hy).symm
    · exact ha x hx
    · exact hs x hx y hy
  unfold mkFork
  rcases bitP_01 key place with e | e
  · rw [if_pos e]
    refine ⟨⟨trivial, h, fun x hx => ?_, fun x hx => ?_, fun x hx y hy => all x y ?_ ?_⟩, fun y => ?_⟩
    · simp only [Tr.items, List.mem_singleton] at hx; rw [hx]; exact e
    · have := hb x hx; have := bitP_01 x.1 place; omega
    · simpa [Tr.items] using hx
    · simpa [Tr.items] using hy
    · simp only [Tr.items, List.mem_append, List.mem_singleton]
      exact ⟨fun h => h.imp id fun g => ⟨g, hne y g⟩, fun h => h.imp id fun g => g.1⟩
  · rw [if_neg (by omega)]
    refine ⟨⟨h, trivial, fun x hx => ?_, fun x hx => ?_, fun x hx y hy => all x y ?_ ?_⟩, fun y => ?_⟩
    · have := hb x hx; have := bitP_01 x.1 place; omega
    · simp only [Tr.items, List.mem_singleton] at hx; rw [hx]; exact e
    · simp only [Tr.items, List.mem_append, List.mem_singleton] at hx; exact hx.symm
    · simp only [Tr.items, List.mem_append, List.mem_singleton] at hy; exact hy.symm
    · simp only [Tr.items, List.mem_append, List.mem_singleton]
      exact ⟨fun h => h.symm.imp id fun g => ⟨g, hne y g⟩, fun h => (h.imp id fun g => g.1).symm⟩

/-- Where a key parts from what is found at the end of its way; or it is found, and the place lies behind all. -/
def Parts (key : Key) (place : Nat) (t : Tr) : Prop := (agree place key (t.find key).1 ∧ bitP key place ≠ bitP (t.find key).1 place) ∨ ((t.find key).1 = key ∧ ∀ p, (∃ x ∈ t.items, ∃ y ∈ t.items, bitP x.1 p ≠ bitP y.1 p) → p < place)

theorem Tr.with_spec (key value : Key) (place : Nat) (t : Tr) (h : t.wf) (hp : Parts key place t) :
    (t.with_ key value place).wf ∧ ∀ y, y ∈ (t.with_ key value place).items ↔ y = (key, value) ∨ (y ∈ t.items ∧ y.1 ≠ key) := by
  induction t with
  | leaf k v =>
    simp only [Tr.with_]
    by_cases hk : k = key
    · rw [if_pos hk]
      exact ⟨trivial, fun y => by simp only [Tr.items, List.mem_singleton]; exact ⟨.inl, fun h => h.elim id fun ⟨e, n⟩ => (n (by rw [e]; exact hk)).elim⟩⟩
    · rw [if_neg hk]
      rcases hp with ⟨ha, hb⟩ | ⟨e, _⟩
      · simp only [Tr.find] at ha hb
        refine mkFork_spec key value place _ trivial (fun x hx => ?_) (fun x hx => ?_) (fun x hx y hy => ?_)
        · simp only [Tr.items, List.mem_singleton] at hx; rw [hx]; exact fun e => hb e.symm
        · simp only [Tr.items, List.mem_singleton] at hx; rw [hx]; exact ha.symm
        · simp only [Tr.items, List.mem_singleton] at hx hy; rw [hx, hy]; exact fun _ _ => rfl
      · exact (hk e).elim
  | fork p l r ihl ihr =>
    have hw := h
    obtain ⟨hl, hr, h0, h1, ha⟩ := h
    simp only [Tr.with_]
    by_cases hlt : p < place
    · rw [if_pos hlt]
      by_cases hb : bitP key p = 0
      · rw [if_pos hb]
        have hf : (Tr.fork p l r).find key = l.find key := by simp [Tr.find, hb]
        have hp' : Parts key place l := by
          unfold Parts at hp ⊢
          rw [hf] at hp
          refine hp.imp id fun ⟨e, g⟩ => ⟨e, fun q ⟨x, hx, y, hy, n⟩ => g q ⟨x, by simp [Tr.items, hx], y, by simp [Tr.items, hy], n⟩⟩
        obtain ⟨iw, im⟩ := ihl hl hp'
        have hnr : ∀ y ∈ r.items, y.1 ≠ key := fun y hy e => by have := h1 y hy; rw [e] at this; omega
        have hka : ∀ x ∈ l.items ++ r.items, agree p key x.1 := fun x hx => by
          have hm : l.find key ∈ l.items ++ r.items := by simp [Tr.find_mem]
          rcases hp' with ⟨g, _⟩ | ⟨g, _⟩
          · exact (g.mono (by omega)).trans (ha _ hm x hx)
          · have := ha _ hm x hx; rwa [g] at this
        have mem : ∀ x, x ∈ (l.with_ key value place).items ++ r.items → x = (key, value) ∨ x ∈ l.items ++ r.items := fun x hx => by
          rcases List.mem_append.1 hx with hx | hx
          · rcases (im x).1 hx with e | ⟨hx, _⟩
            · exact .inl e
            · exact .inr (by simp [hx])
          · exact .inr (by simp [hx])
        refine ⟨⟨iw, hr, fun x hx => ?_, h1, fun x hx y hy => ?_⟩, fun y => ?_⟩
        · rcases (im x).1 hx with e | ⟨hx, _⟩
          · rw [e]; exact hb
          · exact h0 x hx
        · rcases mem x hx with e | hx <;> rcases mem y hy with e' | hy
          · rw [e, e']; exact fun _ _ => rfl
          · rw [e]; exact hka y hy
          · rw [e']; exact (hka x hx).symm
          · exact ha x hx y hy
        · simp only [Tr.items, List.mem_append, im]
          constructor
          · rintro ((e | ⟨g, n⟩) | g)
            · exact .inl e
            · exact .inr ⟨.inl g, n⟩
            · exact .inr ⟨.inr g, hnr y g⟩
          · rintro (e | ⟨g | g, n⟩)
            · exact .inl (.inl e)
            · exact .inl (.inr ⟨g, n⟩)
            · exact .inr g
      · rw [if_neg hb]
        have hb1 : bitP key p = 1 := by have := bitP_01 key p; omega
        have hf : (Tr.fork p l r).find key = r.find key := by simp [Tr.find, hb]
        have hp' : Parts key place r := by
          unfold Parts at hp ⊢
          rw [hf] at hp
          refine hp.imp id fun ⟨e, g⟩ => ⟨e, fun q ⟨x, hx, y, hy, n⟩ => g q ⟨x, by simp [Tr.items, hx], y, by simp [Tr.items, hy], n⟩⟩
        obtain ⟨iw, im⟩ := ihr hr hp'
        have hnl : ∀ y ∈ l.items, y.1 ≠ key := fun y hy e => by have := h0 y hy; rw [e] at this; omega
        have hka : ∀ x ∈ l.items ++ r.items, agree p key x.1 := fun x hx => by
          have hm : r.find key ∈ l.items ++ r.items := by simp [Tr.find_mem]
          rcases hp' with ⟨g, _⟩ | ⟨g, _⟩
          · exact (g.mono (by omega)).trans (ha _ hm x hx)
          · have := ha _ hm x hx; rwa [g] at this
        have mem : ∀ x, x ∈ l.items ++ (r.with_ key value place).items → x = (key, value) ∨ x ∈ l.items ++ r.items := fun x hx => by
          rcases List.mem_append.1 hx with hx | hx
          · exact .inr (by simp [hx])
          · rcases (im x).1 hx with e | ⟨hx, _⟩
            · exact .inl e
            · exact .inr (by simp [hx])
        refine ⟨⟨hl, iw, h0, fun x hx => ?_, fun x hx y hy => ?_⟩, fun y => ?_⟩
        · rcases (im x).1 hx with e | ⟨hx, _⟩
          · rw [e]; exact hb1
          · exact h1 x hx
        · rcases mem x hx with e | hx <;> rcases mem y hy with e' | hy
          · rw [e, e']; exact fun _ _ => rfl
          · rw [e]; exact hka y hy
          · rw [e']; exact (hka x hx).symm
          · exact ha x hx y hy
        · simp only [Tr.items, List.mem_append, im]
          constructor
          · rintro (g | e | ⟨g, n⟩)
            · exact .inr ⟨.inl g, hnl y g⟩
            · exact .inl e
            · exact .inr ⟨.inr g, n⟩
          · rintro (e | ⟨g | g, n⟩)
            · exact .inr (.inl e)
            · exact .inl g
            · exact .inr (.inr ⟨g, n⟩)
    · rw [if_neg hlt]
      have hm := Tr.find_mem key (.fork p l r)
      rcases hp with ⟨g, n⟩ | ⟨e, g⟩
      · have hpp : place < p := by
          rcases Nat.lt_or_ge place p with c | c
          · exact c
          · exfalso
            obtain rfl : p = place := by omega
            apply n
            rcases bitP_01 key p with c0 | c1
            · have hq : (Tr.fork p l r).find key ∈ l.items := by simp [Tr.find, c0, Tr.find_mem]
              rw [c0, h0 _ hq]
            · have hq : (Tr.fork p l r).find key ∈ r.items := by simp [Tr.find, c1, Tr.find_mem]
              rw [c1, h1 _ hq]
        refine mkFork_spec key value place _ hw (fun x hx e => n ?_) (fun x hx => ?_) (fun x hx y hy => (ha x hx y hy).mono (by omega))
        · rw [← e]; exact ha x hx _ hm place hpp
        · exact ((ha x hx _ hm).mono (by omega)).trans g.symm
      · exfalso
        obtain ⟨x, hx⟩ := l.any
        obtain ⟨y, hy⟩ := r.any
        have := g p ⟨x, by simp [Tr.items, hx], y, by simp [Tr.items, hy], by rw [h0 x hx, h1 y hy]; omega⟩
        omega
end Go.Proofs.YtmhllihedejehaaGreat
