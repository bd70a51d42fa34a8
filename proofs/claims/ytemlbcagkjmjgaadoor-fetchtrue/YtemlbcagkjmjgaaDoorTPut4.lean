/- What Put makes: the answer's list; a good tree stays one. -/
import Derived.Test.YtemlbcagkjmjgaaDoorTPut3
namespace Go.Proofs.YtemlbcagkjmjgaaDoor
open Go.RowKit
set_option linter.unusedVariables false
set_option linter.unusedSimpArgs false

/-- A tree as Put makes them. -/
structure Good (o : Option Tr) : Prop where
  wf : wfO o
  placed : ∀ t, o = some t → t.placed
  keys : ∀ x ∈ itemsO o, x.1.length ≤ 32 ∧ x.2.length ≤ 4096 ∧ x.2 ≠ []

theorem Good.none : Good none := ⟨trivial, (fun _ h => by cases h), fun x hx => by simp [itemsO] at hx⟩
theorem Good.sorted {o : Option Tr} (h : Good o) : Sorted (itemsO o) := by
  cases o with
  | none => exact List.Pairwise.nil
  | some t => exact t.sorted h.wf

theorem bit_far (k : Key) (p : Nat) (hk : k.length ≤ 32) (hp : 288 ≤ p) : bitP k p = 0 := by
  unfold bitP
  rw [List.getElem?_eq_none (by omega)]

/-- What Get finds. -/
theorem getO_mem {o : Option Tr} (h : Good o) (key v : Key) (hk : (key, v) ∈ itemsO o) : getO key o = v := by
  cases o with
  | none => simp [itemsO] at hk
  | some t => simp only [getO, Tr.find_key t h.wf key v hk, if_true]
theorem getO_some {o : Option Tr} (h : Good o) (key : Key) (hne : getO key o ≠ []) : (key, getO key o) ∈ itemsO o := by
  cases o with
  | none => exact (hne rfl).elim
  | some t =>
    simp only [getO] at hne ⊢
    by_cases hf : (t.find key).1 = key
    · rw [if_pos hf] at hne ⊢
      have := t.find_mem key
      have e : t.find key = (key, (t.find key).2) := Prod.ext hf rfl
      rw [e] at this
      exact this
    · rw [if_neg hf] at hne; exact (hne rfl).elim

theorem putO_spec (key value : Key) (o : Option Tr) (h : Good o) (hk : key.length ≤ 32) (hv : value.length ≤ 4096) : Good (putO key value o) ∧ itemsO (putO key value o) = putGo key value (value == []) (itemsO o) := by
  unfold putO
  by_cases he : getO key o = value
  · rw [if_pos he]
    refine ⟨h, ?_⟩
    by_cases hz : value = []
    · have : (value == []) = true := by simp [hz]
      rw [this, putGo_done]
      refine (del_off fun x hx e => ?_).symm
      obtain ⟨k, v⟩ := x
      simp only at e
      subst e
      have := getO_mem h k v hx
      rw [he, hz] at this
      exact (h.keys _ hx).2.2 this.symm
    · have : (value == []) = false := by simp [hz]
      rw [this]
      obtain ⟨s1, s2⟩ := putGo_spec key value (itemsO o) h.sorted
      refine sorted_uniq _ _ h.sorted s1 fun x => ?_
      rw [s2]
      have hm := getO_some h key (by rw [he]; exact hz)
      rw [he] at hm
      constructor
      · intro hx
        by_cases hxk : x.1 = key
        · left
          obtain ⟨k, v⟩ := x
          simp only at hxk
          subst hxk
          have := getO_mem h k v hx
          rw [he] at this
          rw [this]
        · exact .inr ⟨hx, hxk⟩
      · rintro (rfl | ⟨hx, _⟩)
        · exact hm
        · exact hx
  · rw [if_neg he]
    by_cases hz : value = []
    · rw [if_pos hz]
      have hb : (value == []) = true := by simp [hz]
      rw [hb, putGo_done]
      cases o with
      | none => exact (he (by rw [hz]; rfl)).elim
      | some t =>
        have hm := getO_some h key (by rw [hz] at he; exact he)
        obtain ⟨e1, e2⟩ := t.without_spec h.wf key _ hm
        refine ⟨⟨e2, fun u hu => t.placed_without key (h.placed t rfl) u hu, fun x hx => ?_⟩, e1⟩
        rw [e1] at hx
        exact h.keys x (mem_del.1 hx).1
    · rw [if_neg hz]
      have hb : (value == []) = false := by simp [hz]
      rw [hb]
      cases o with
      | none =>
        refine ⟨⟨trivial, (fun u hu => by cases hu; trivial), fun x hx => ?_⟩, by simp [itemsO, Tr.items, putGo]⟩
        simp only [itemsO, Tr.items, List.mem_singleton] at hx
        rw [hx]
        exact ⟨hk, hv, hz⟩
      | some t =>
        have hfk := (h.keys _ (t.find_mem key)).1
        have hparts : Parts key (placeOf key t) t := by
          unfold placeOf
          by_cases hf : (t.find key).1 = key
          · rw [if_pos hf]
            refine .inr ⟨hf, fun p ⟨x, hx, y, hy, hn⟩ => ?_⟩
            rcases Nat.lt_or_ge p 288 with c | c
            · exact c
            · exact (hn (by rw [bit_far x.1 p (h.keys x hx).1 c, bit_far y.1 p (h.keys y hy).1 c])).elim
          · rw [if_neg hf]
            exact .inl (keyPart_spec key (t.find key).1 fun e => hf e.symm)
        obtain ⟨w1, w2⟩ := t.with_spec key value (placeOf key t) h.wf hparts
        obtain ⟨s1, s2⟩ := putGo_spec key value (itemsO (some t)) h.sorted
        have hle := placeOf_le key t hk hfk
        refine ⟨⟨w1, (fun u hu => by cases hu; exact t.placed_with key value _ (by omega) (h.placed t rfl)), fun x hx => ?_⟩, ?_⟩
        · rcases (w2 x).1 hx with rfl | ⟨hx, _⟩
          · exact ⟨hk, hv, hz⟩
          · exact h.keys x hx
        · exact sorted_uniq _ _ (Tr.sorted _ w1) s1 fun x => by rw [s2]; exact w2 x

/-- Put, of a key and a value that are not too long. -/
theorem put_any (wd : Int) (q : Option Addr) (o : Option Tr) (key value : Key) (w : World) (hw : okW wd) (hk : key.length ≤ 32) (hv : value.length ≤ 4096) (g : Good o) (h : TopAt wd w (.pointer q) o) :
    Calls Tryd.prog 19 #[.agg #[.int .i64 wd, .pointer q], .string (str key), .string (str value)] w fun e w' => ∃ q', e = .returned (.tuple #[.agg #[.int .i64 wd, .pointer q'], .int .i64 0]) ∧ TopAt wd w' (.pointer q') (putO key value o) ∧ Below w.heap.size w w' := by
  unfold putO
  by_cases he : getO key o = value
  · rw [if_pos he]
    exact (put_keep wd q o key value w hk hv g.placed h he).mono fun e w' ⟨h1, h2⟩ => ⟨q, h1, TopAt.below h2 h, h2⟩
  · rw [if_neg he]
    by_cases hz : value = []
    · rw [if_pos hz]
      subst hz
      cases o with
      | none => exact (he rfl).elim
      | some t =>
        obtain ⟨b, e, hn⟩ := h
        have e : q = some ⟨b, 0, none⟩ := by injection e
        subst e
        exact put_without wd b t key w hw hk (g.placed t rfl) hn he
    · rw [if_neg hz]
      cases o with
      | none =>
        have e : q = none := by have h : Value.pointer q = .pointer none := h; injection h
        subst e
        exact put_first wd key value w hw hk hv hz
      | some t =>
        obtain ⟨b, e, hn⟩ := h
        have e : q = some ⟨b, 0, none⟩ := by injection e
        subst e
        exact put_with wd b t key value w hw hk hv hz (g.placed t rfl) (g.keys _ (t.find_mem key)).1 hn he

/-- Two good trees with the same in them are one. -/
theorem Good.uniq {o u : Option Tr} (h : Good o) (g : Good u) (e : itemsO o = itemsO u) : o = u := by
  cases o with
  | none =>
    cases u with
    | none => rfl
    | some t => obtain ⟨x, hx⟩ := t.any; have e : [] = t.items := e; rw [← e] at hx; simp at hx
  | some t =>
    cases u with
    | none => obtain ⟨x, hx⟩ := t.any; have e : t.items = [] := e; rw [e] at hx; simp at hx
    | some v => rw [Tr.uniq t v h.wf g.wf e]

/-- The digest of a tree. -/
def rootP (wd : Int) : Option Tr → Int
  | none => ofP wd 5 []
  | some t => ofP wd 5 [str (be (t.dig wd) 8)]
end Go.Proofs.YtemlbcagkjmjgaaDoor
