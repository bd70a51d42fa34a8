/- How far a tree is fetched, if who gives its nodes does not lie. -/
import Derived.Test.YtemlbcagkjmjgaaDoorFGive
import Derived.Test.YtemlbcagkjmjgaaDoorM27
import Derived.Test.YtemlbcagkjmjgaaDoorZAt
namespace Go.Proofs.YtemlbcagkjmjgaaDoor
open Go.RowKit
set_option linter.unusedVariables false
set_option linter.unusedSimpArgs false

/-- A node as those outside are told of it. -/
def toldO (wd : Int) : Option Tr → Nd
  | none => ⟨0, [], [], 0, 0, 0⟩
  | some (.leaf k v) => ⟨1, k, v, 0, 0, 0⟩
  | some (.fork p l r) => ⟨2, [], [], p, l.dig wd, r.dig wd⟩
theorem told_v (wd : Int) (o : Option Tr) : (toldO wd o).v = nodeV wd o := by
  cases o with
  | none => rfl
  | some t => cases t <;> rfl
theorem told_over (wd : Int) (t : Tr) : overP wd (toldO wd (some t)).k (str (toldO wd (some t)).key) (str (toldO wd (some t)).val) (toldO wd (some t)).pos (toldO wd (some t)).l (toldO wd (some t)).r = t.dig wd := by
  cases t <;> rfl
theorem told_whole (wd : Int) (o : Option Tr) : wholeP wd (toldO wd o).k (str (toldO wd o).key) (str (toldO wd o).val) (toldO wd o).pos (toldO wd o).l (toldO wd o).r = rootP wd o := by
  cases o with
  | none => rfl
  | some t =>
    have := told_over wd t
    unfold wholeP rootP
    rw [if_neg (by cases t <;> simp [toldO]), this]
/-- What a tree's node is not. -/
theorem told_may {wd : Int} {t : Tr} (hwf : t.wf) (hk : ∀ x ∈ t.items, x.1.length ≤ 32 ∧ x.2.length ≤ 4096 ∧ x.2 ≠ []) : mayN (toldO wd (some t)).k (toldO wd (some t)).key (toldO wd (some t)).val (toldO wd (some t)).pos (toldO wd (some t)).l (toldO wd (some t)).r = true := by
  cases t with
  | leaf k v =>
    obtain ⟨h1, h2, h3⟩ := hk (k, v) (by simp [Tr.items])
    simp [mayN, toldO, h1, h2, h3]
  | fork p l r =>
    have hp : p < 288 := by
      rcases Nat.lt_or_ge p 288 with h | h
      · exact h
      · obtain ⟨x, hx⟩ := r.any
        have h1 := hwf.2.2.2.1 x hx
        rw [bit_far x.1 p (hk x (by simp [Tr.items, hx])).1 h] at h1
        cases h1
    simp [mayN, toldO]
    omega
theorem told_ok {wd : Int} {o : Option Tr} (hk : ∀ x ∈ itemsO o, x.1.length ≤ 32 ∧ x.2.length ≤ 4096 ∧ x.2 ≠ []) : (toldO wd o).Ok := by
  have hm : (4096 : Nat) ≤ maxLen := by unfold maxLen; omega
  cases o with
  | none => exact ⟨Nat.zero_le _, Nat.zero_le _, by simp [toldO], by simp [toldO]⟩
  | some t =>
    cases t with
    | leaf k v =>
      obtain ⟨h1, h2, h3⟩ := hk (k, v) (by simp [itemsO, Tr.items])
      simp only at h1 h2
      exact ⟨Nat.le_trans (show k.length ≤ 4096 by omega) hm, Nat.le_trans h2 hm, by simp [toldO], by simp [toldO]⟩
    | fork p l r => exact ⟨Nat.zero_le _, Nat.zero_le _, l.dig_bd wd, r.dig_bd wd⟩

theorem goP_sub : ∀ (way : Key) (o : Option Tr) (t : Tr), goP way o = some (some t) → wfO o → t.wf ∧ ∀ x ∈ t.items, x ∈ itemsO o
  | [], o, t, h, hw => by injection h with h; subst h; exact ⟨hw, fun x hx => hx⟩
  | c :: r, none, t, h, hw => by cases h
  | c :: r, some (.leaf k v), t, h, hw => by cases h
  | c :: r, some (.fork p l q), t, h, hw => by
    have h : goP r (some (if c = 48 then l else q)) = some (some t) := h
    by_cases hc : c = 48
    · rw [if_pos hc] at h
      obtain ⟨h1, h2⟩ := goP_sub r (some l) t h hw.1
      exact ⟨h1, fun x hx => List.mem_append_left _ (h2 x hx)⟩
    · rw [if_neg hc] at h
      obtain ⟨h1, h2⟩ := goP_sub r (some q) t h hw.2.1
      exact ⟨h1, fun x hx => List.mem_append_right _ (h2 x hx)⟩
theorem goP_app : ∀ (way : Key) (o : Option Tr) (p : Nat) (l q : Tr) (c : UInt8), goP way o = some (some (.fork p l q)) → goP (way ++ [c]) o = some (some (if c = 48 then l else q))
  | [], o, p, l, q, c, h => by injection h with h; subst h; rfl
  | d :: r, none, p, l, q, c, h => by cases h
  | d :: r, some (.leaf k v), p, l, q, c, h => by cases h
  | d :: r, some (.fork p' l' q'), p, l, q, c, h => goP_app r _ p l q c h
/-- A way is no longer than the tree is great. -/
theorem goP_len : ∀ (way : Key) (t s : Tr), goP way (some t) = some (some s) → way.length + s.size ≤ t.size
  | [], t, s, h => by injection h with h; injection h with h; subst h; simp
  | c :: r, .leaf k v, s, h => by cases h
  | c :: r, .fork p l q, s, h => by
    have h : goP r (some (if c = 48 then l else q)) = some (some s) := h
    have := goP_len r _ s h
    simp only [List.length_cons, Tr.size]
    by_cases hc : c = 48
    · rw [if_pos hc] at this; omega
    · rw [if_neg hc] at this; omega

theorem putGo_end (k v : Key) : ∀ (l : List (Key × Key)), (∀ x ∈ l, Op.bytesLess x.1 k = true) → putGo k v false l = l ++ [(k, v)]
  | [], _ => rfl
  | x :: xs, h => by
    have hx := h x (List.mem_cons_self ..)
    have h1 : Op.bytesLess k x.1 = false := by
      cases hb : Op.bytesLess k x.1 with
      | false => rfl
      | true => exact (less_asymm _ _ hx hb).elim
    have h2 : (k == x.1) = false := by
      cases hb : (k == x.1) with
      | false => rfl
      | true => rw [beq_iff_eq] at hb; rw [← hb, less_irr] at hx; cases hx
    have h3 : (x.1 == k) = false := by
      cases hb : (x.1 == k) with
      | false => rfl
      | true => rw [beq_iff_eq] at hb; rw [hb, less_irr] at hx; cases hx
    simp only [putGo, h1, h2, h3, Bool.or_false, Bool.false_or, Bool.not_false, Bool.and_false, Bool.false_eq_true, if_false, List.nil_append]
    rw [putGo_end k v xs fun y hy => h y (List.mem_cons_of_mem _ hy)]
    rfl

/-- What is wanted are these parts of the tree. -/
def wantL (wd : Int) (Ts : List (Key × Tr)) : List (Key × Int) := Ts.map fun x => (x.1, x.2.dig wd)
def leftI (Ts : List (Key × Tr)) : List (Key × Key) := Ts.flatMap fun x => x.2.items
/-- Those nodes are left. -/
def leftN : List (Key × Tr) → Nat
  | [] => 0
  | x :: r => x.2.size + leftN r
/-- So far a tree is fetched: nothing, or all but some parts. -/
inductive Plan (wd : Int) (o0 : Option Tr) : List (Key × Int) → Option Tr → Nat → Prop
  | top : Plan wd o0 [([], rootP wd o0)] none (match o0 with | none => 1 | some t => t.size)
  | parts (Ts : List (Key × Tr)) (o : Option Tr) (hw : ∀ x ∈ Ts, x.1 ≠ [] ∧ isWay x.1 = true ∧ goP x.1 o0 = some (some x.2)) (hg : Good o) (hi : itemsO o0 = itemsO o ++ leftI Ts) : Plan wd o0 (wantL wd Ts) o (leftN Ts)

/-- What is wanted first: where it is, and that it is given. -/
structure Step (wd : Int) (o0 : Option Tr) (way : Key) (d : Int) (R : List (Key × Int)) (o : Option Tr) (n : Nat) (s : Option Tr) : Prop where
  isw : isWay way = true
  go : goP way o0 = some s
  ok : (toldO wd s).Ok
  len : way.length ≤ 100000000
  acc : okN wd way d (toldO wd s).k (toldO wd s).key (toldO wd s).val (toldO wd s).pos (toldO wd s).l (toldO wd s).r = true
  next : ∃ m, m < n ∧ Plan wd o0 (newW way (toldO wd s).k (toldO wd s).l (toldO wd s).r ++ R) (newO (toldO wd s).k (toldO wd s).key (toldO wd s).val o) m
  clash : ∀ y : Nd, okN wd way d y.k y.key y.val y.pos y.l y.r = true → overP wd y.k (str y.key) (str y.val) y.pos y.l y.r = overP wd (toldO wd s).k (str (toldO wd s).key) (str (toldO wd s).val) (toldO wd s).pos (toldO wd s).l (toldO wd s).r ∨ (way = [] ∧ wholeP wd y.k (str y.key) (str y.val) y.pos y.l y.r = wholeP wd (toldO wd s).k (str (toldO wd s).key) (str (toldO wd s).val) (toldO wd s).pos (toldO wd s).l (toldO wd s).r)

theorem isWay_snoc {way : Key} (h : isWay way = true) (c : UInt8) (hc : c = 48 ∨ c = 49) : isWay (way ++ [c]) = true := by
  unfold isWay at *
  rw [List.all_append, h]
  rcases hc with rfl | rfl <;> rfl
theorem putO_end (k v : Key) (o : Option Tr) (hg : Good o) (hk : k.length ≤ 32) (hv : v.length ≤ 4096) (hne : v ≠ []) (hl : ∀ x ∈ itemsO o, Op.bytesLess x.1 k = true) : Good (putO k v o) ∧ itemsO (putO k v o) = itemsO o ++ [(k, v)] := by
  obtain ⟨h1, h2⟩ := putO_spec k v o hg hk hv
  have hb : (v == []) = false := by cases v with
    | nil => exact (hne rfl).elim
    | cons _ _ => rfl
  rw [hb, putGo_end k v _ hl] at h2
  exact ⟨h1, h2⟩

theorem Plan.step {wd : Int} {o0 o : Option Tr} {way : Key} {d : Int} {R : List (Key × Int)} {n : Nat} (g0 : Good o0) (hb : ∀ t, o0 = some t → t.size ≤ 100000000) {L : List (Key × Int)} (hL : L = (way, d) :: R) (h : Plan wd o0 L o n) : ∃ s, Step wd o0 way d R o n s := by
  cases h with
  | top =>
    simp only [List.cons.injEq, Prod.mk.injEq] at hL
    obtain ⟨⟨rfl, rfl⟩, rfl⟩ := hL
    refine ⟨o0, rfl, rfl, told_ok g0.keys, Nat.zero_le _, ?_, ?_, ?_⟩
    · unfold okN fitsN
      rw [if_pos (show ([] : Key).isEmpty = true from rfl), told_whole]
      have : mayN (toldO wd o0).k (toldO wd o0).key (toldO wd o0).val (toldO wd o0).pos (toldO wd o0).l (toldO wd o0).r = true := by
        cases o0 with
        | none => rfl
        | some t => exact told_may g0.wf g0.keys
      rw [this]
      simp
    · cases o0 with
      | none => exact ⟨0, by simp, .parts [] none (fun x hx => by cases hx) Good.none rfl⟩
      | some t =>
        cases t with
        | leaf k v =>
          obtain ⟨h1, h2, h3⟩ := g0.keys (k, v) (by simp [itemsO, Tr.items])
          obtain ⟨q1, q2⟩ := putO_end k v none Good.none h1 h2 h3 (fun x hx => by cases hx)
          refine ⟨0, by simp [Tr.size], ?_⟩
          have := Plan.parts (wd := wd) (o0 := some (.leaf k v)) [] (putO k v none) (fun x hx => by cases hx) q1 (by rw [q2]; rfl)
          exact this
        | fork p l r =>
          refine ⟨leftN [([48], l), ([49], r)], by simp [leftN, Tr.size], ?_⟩
          have := Plan.parts (wd := wd) (o0 := some (.fork p l r)) [([48], l), ([49], r)] none (fun x hx => by
            simp at hx
            rcases hx with rfl | rfl
            · exact ⟨by simp, rfl, rfl⟩
            · exact ⟨by simp, rfl, rfl⟩) Good.none (by simp [itemsO, leftI, Tr.items])
          exact this
    · intro y hy
      refine .inr ⟨rfl, ?_⟩
      unfold okN fitsN at hy
      rw [if_pos (show ([] : Key).isEmpty = true from rfl)] at hy
      simp only [Bool.and_eq_true, beq_iff_eq] at hy
      rw [hy.2, told_whole]
  | parts Ts o hw hg hi =>
    cases Ts with
    | nil => simp [wantL] at hL
    | cons x Ts =>
      obtain ⟨wx, t⟩ := x
      simp only [wantL, List.map_cons, List.cons.injEq, Prod.mk.injEq] at hL
      obtain ⟨⟨rfl, rfl⟩, rfl⟩ := hL
      obtain ⟨hne, hway, hgo⟩ := hw (wx, t) (List.mem_cons_self ..)
      simp only at hne hway hgo
      obtain ⟨twf, tit⟩ := goP_sub wx o0 t hgo g0.wf
      have tk : ∀ x ∈ t.items, x.1.length ≤ 32 ∧ x.2.length ≤ 4096 ∧ x.2 ≠ [] := fun x hx => g0.keys x (tit x hx)
      have hlen : wx.length ≤ 100000000 := by
        cases o0 with
        | none => cases wx with
          | nil => exact (hne rfl).elim
          | cons _ _ => cases hgo
        | some t0 => have := goP_len wx t0 t hgo; have := hb t0 rfl; omega
      have hemp : wx.isEmpty = false := by cases wx with
        | nil => exact (hne rfl).elim
        | cons _ _ => rfl
      refine ⟨some t, hway, hgo, told_ok tk, hlen, ?_, ?_, ?_⟩
      · unfold okN fitsN
        rw [told_may twf tk, hemp, if_neg (by simp), told_over]
        cases t <;> simp [toldO]
      · cases t with
        | leaf k v =>
          obtain ⟨h1, h2, h3⟩ := tk (k, v) (by simp [Tr.items])
          have hs : Sorted (itemsO o0) := g0.sorted
          rw [hi] at hs
          have hl : ∀ x ∈ itemsO o, Op.bytesLess x.1 k = true := fun x hx => (List.pairwise_append.1 hs).2.2 x hx (k, v) (by simp [leftI, Tr.items])
          obtain ⟨q1, q2⟩ := putO_end k v o hg h1 h2 h3 hl
          refine ⟨leftN Ts, by simp [leftN, Tr.size], ?_⟩
          exact Plan.parts (wd := wd) (o0 := o0) Ts (putO k v o) (fun x hx => hw x (List.mem_cons_of_mem _ hx)) q1 (by rw [q2, hi]; simp [leftI, Tr.items])
        | fork p l r =>
          refine ⟨leftN ((wx ++ [48], l) :: (wx ++ [49], r) :: Ts), by simp [leftN, Tr.size]; omega, ?_⟩
          exact Plan.parts (wd := wd) (o0 := o0) ((wx ++ [48], l) :: (wx ++ [49], r) :: Ts) o (fun x hx => by
            rcases List.mem_cons.1 hx with rfl | hx
            · exact ⟨by simp, isWay_snoc hway 48 (.inl rfl), by rw [goP_app wx o0 p l r 48 hgo]; rfl⟩
            · rcases List.mem_cons.1 hx with rfl | hx
              · exact ⟨by simp, isWay_snoc hway 49 (.inr rfl), by rw [goP_app wx o0 p l r 49 hgo]; rfl⟩
              · exact hw x (List.mem_cons_of_mem _ hx)) hg (by rw [hi]; simp [leftI, Tr.items])
      · intro y hy
        refine .inl ?_
        unfold okN fitsN at hy
        rw [hemp, if_neg (by simp)] at hy
        simp only [Bool.and_eq_true, beq_iff_eq] at hy
        rw [hy.2.2, told_over]
/-- All is fetched. -/
theorem Plan.done {wd : Int} {o0 o : Option Tr} {n : Nat} (g0 : Good o0) {L : List (Key × Int)} (hL : L = []) (h : Plan wd o0 L o n) : o = o0 := by
  cases h with
  | top => cases hL
  | parts Ts o hw hg hi =>
    cases Ts with
    | nil =>
      refine Good.uniq hg g0 ?_
      rw [hi]
      simp [leftI]
    | cons x Ts => simp [wantL] at hL
/-- The ways that are wanted are not too long. -/
theorem Plan.short {wd : Int} {o0 o : Option Tr} {n : Nat} (hb : ∀ t, o0 = some t → t.size ≤ 1000000) {L : List (Key × Int)} (h : Plan wd o0 L o n) : ∀ x ∈ L, x.1.length ≤ 1000000 := by
  cases h with
  | top => intro x hx; simp at hx; rw [hx]; exact Nat.zero_le _
  | parts Ts o hw hg hi =>
    intro x hx
    obtain ⟨y, hy, rfl⟩ := List.mem_map.1 hx
    obtain ⟨h1, _, h2⟩ := hw y hy
    cases o0 with
    | none => cases hz : y.1 with
      | nil => exact (h1 hz).elim
      | cons _ _ => rw [hz] at h2; cases h2
    | some t0 => have := goP_len y.1 t0 y.2 h2; have := hb t0 rfl; simp only; omega
end Go.Proofs.YtemlbcagkjmjgaaDoor
