/- TrieOrder, what is not of the program: keys put in another order. -/
import Derived.Test.YtncaimopkcnmbaaTPut4
namespace Go.Proofs.Ytncaimopkcnmbaa
open Go.RowKit

theorem putO_mem (key value : Key) (o : Option Tr) (h : Good o) (hk : key.length ≤ 32) (hv : value.length ≤ 4096) (y : Key × Key) :
    y ∈ itemsO (putO key value o) ↔ (value ≠ [] ∧ y = (key, value)) ∨ (y ∈ itemsO o ∧ y.1 ≠ key) := by
  rw [(putO_spec key value o h hk hv).2]
  by_cases hz : value = []
  · subst hz
    rw [show (([] : Key) == []) = true from rfl, putGo_done, mem_del]
    simp
  · have : (value == []) = false := by simp [hz]
    rw [this, (putGo_spec key value _ h.sorted).2 y]
    simp [hz]

theorem sorted_key {l : List (Key × Key)} (h : Sorted l) {x y : Key × Key} (hx : x ∈ l) (hy : y ∈ l) (e : x.1 = y.1) : x = y := by
  induction l with
  | nil => cases hx
  | cons a l ih =>
    obtain ⟨h1, h2⟩ := List.pairwise_cons.1 h
    rcases List.mem_cons.1 hx with ex | hx'
    · rcases List.mem_cons.1 hy with ey | hy'
      · exact ex.trans ey.symm
      · have := h1 _ hy'; rw [← ex, e, less_irr] at this; cases this
    · rcases List.mem_cons.1 hy with ey | hy'
      · have := h1 _ hx'; rw [← ey, e, less_irr] at this; cases this
      · exact ih h2 hx' hy'

theorem sorted_at {l : List (Key × Key)} (h : Sorted l) {i j : Nat} (hi : i < l.length) (hj : j < l.length) (hij : i < j) : l[i].1 ≠ l[j].1 := fun e => by
  have := List.pairwise_iff_getElem.1 h i j hi hj hij
  rw [e, less_irr] at this
  cases this

/-- A tree all of whose keys are keys of m. -/
structure KeysIn (m : List (Key × Key)) (v : Option Tr) : Prop where
  good : Good v
  keys : ∀ y ∈ itemsO v, ∃ z ∈ m, z.1 = y.1

theorem KeysIn.none (m : List (Key × Key)) : KeysIn m none := ⟨Good.none, fun y hy => by simp [itemsO] at hy⟩
theorem KeysIn.put {m : List (Key × Key)} {v : Option Tr} (h : KeysIn m v) {z : Key × Key} (hz : z ∈ m) (value : Key) (hk : z.1.length ≤ 32) (hv : value.length ≤ 4096) : KeysIn m (putO z.1 value v) :=
  ⟨(putO_spec z.1 value v h.good hk hv).1, fun y hy => by
    rcases (putO_mem z.1 value v h.good hk hv y).1 hy with ⟨_, rfl⟩ | ⟨hy, _⟩
    · exact ⟨z, hz, rfl⟩
    · exact h.keys y hy⟩

/-- From k on all of m is in it. -/
structure FromOn (m : List (Key × Key)) (k : Nat) (v : Option Tr) : Prop where
  keysIn : KeysIn m v
  has : ∀ j (hj : j < m.length), k ≤ j → m[j] ∈ itemsO v

theorem KeysIn.start {m : List (Key × Key)} {v : Option Tr} (h : KeysIn m v) : FromOn m m.length v := ⟨h, fun j hj hk => absurd hj (by omega)⟩
theorem FromOn.put {m : List (Key × Key)} {k : Nat} {v : Option Tr} (h : FromOn m (k + 1) v) (hs : Sorted m) (hk : k < m.length) (h1 : m[k].1.length ≤ 32) (h2 : m[k].2.length ≤ 4096) (hne : m[k].2 ≠ []) : FromOn m k (putO m[k].1 m[k].2 v) :=
  ⟨h.keysIn.put (List.getElem_mem hk) _ h1 h2, fun j hj hkj => by
    rw [putO_mem _ _ v h.keysIn.good h1 h2]
    by_cases e : j = k
    · subst e; exact .inl ⟨hne, rfl⟩
    · exact .inr ⟨h.has j hj (by omega), (sorted_at hs hk hj (by omega)).symm⟩⟩
theorem FromOn.all {m : List (Key × Key)} {v : Option Tr} (h : FromOn m 0 v) (hs : Sorted m) : itemsO v = m :=
  sorted_uniq _ _ h.keysIn.good.sorted hs fun y => ⟨fun hy => by
    obtain ⟨z, hz, e⟩ := h.keysIn.keys y hy
    obtain ⟨j, hj, rfl⟩ := List.mem_iff_getElem.1 hz
    rw [← sorted_key h.keysIn.good.sorted (h.has j hj (Nat.zero_le _)) hy e]
    exact hz, fun hy => by
    obtain ⟨j, hj, rfl⟩ := List.mem_iff_getElem.1 hy
    exact h.has j hj (Nat.zero_le _)⟩
/-- Put in any order, it is the same tree. -/
theorem FromOn.same {u v : Option Tr} (g : Good u) (h : FromOn (itemsO u) 0 v) : v = u := Good.uniq h.keysIn.good g (h.all g.sorted)
end Go.Proofs.Ytncaimopkcnmbaa
