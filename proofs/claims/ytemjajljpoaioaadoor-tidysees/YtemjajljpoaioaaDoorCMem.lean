import Derived.Test.YtemjajljpoaioaaDoorM10
import Derived.WalkSpells
import Derived.WalkLawsBesides
import Derived.KernelRfl
namespace Go.Proofs.YtemjajljpoaioaaDoor
open Go.RowKit
set_option linter.unusedVariables false
set_option linter.unusedSimpArgs false
set_option maxRecDepth 20000
set_option maxHeartbeats 8000000
def IsBool (e : Ending) : Prop := ∃ z : Bool, e = .returned (.bool z)
mutual
def Fld.good (base : Nat) (w : World) : Fld → Prop
 | .i n => -9223372036854775808 ≤ n ∧ n ≤ 9223372036854775807
 | .d n => 0 ≤ n ∧ n ≤ 18446744073709551615
 | .b _ => True
 | .s _ => True
 | .l la lc es => es.length ≤ lc ∧ lc ≤ maxLen ∧ (es = [] ∨ ∃ rb ro, la = some ⟨rb, ro, none⟩ ∧ rb < base ∧ rb < w.heap.size ∧ RowsAt base w rb ro es)
def RowsAt (base : Nat) (w : World) (rb : Nat) : Nat → List (List Fld) → Prop
 | _, [] => True
 | ro, e :: es => CellsAt base w rb ro e ∧ RowsAt base w rb (ro + e.length) es
def CellsAt (base : Nat) (w : World) (rb : Nat) : Nat → List Fld → Prop
 | _, [] => True
 | o, f :: fs => w.cell? ⟨rb, o, none⟩ = some f.val ∧ f.good base w ∧ CellsAt base w rb (o + 1) fs
end
mutual
theorem Fld.good_below {base : Nat} {w w' : World} (hb : Below base w w') : ∀ f : Fld, f.good base w → f.good base w'
 | .i _, h => h
 | .d _, h => h
 | .b _, _ => trivial
 | .s _, _ => trivial
 | .l la lc es, h => by
  obtain ⟨h1, h2, h3⟩ := h
  refine ⟨h1, h2, ?_⟩
  rcases h3 with h3 | ⟨rb, ro, e, hl, hz, hr⟩
  ·exact .inl h3
  ·exact .inr ⟨rb, ro, e, hl, Nat.lt_of_lt_of_le hz hb.size, RowsAt.at_below hb rb hl ro es hr⟩
theorem RowsAt.at_below {base : Nat} {w w' : World} (hb : Below base w w') (rb : Nat) (hl : rb < base) : ∀ (ro : Nat) (es : List (List Fld)), RowsAt base w rb ro es → RowsAt base w' rb ro es
 | _, [], _ => trivial
 | ro, e :: es, h => ⟨CellsAt.at_below hb rb hl ro e h.1, RowsAt.at_below hb rb hl (ro + e.length) es h.2⟩
theorem CellsAt.at_below {base : Nat} {w w' : World} (hb : Below base w w') (rb : Nat) (hl : rb < base) : ∀ (o : Nat) (fs : List Fld), CellsAt base w rb o fs → CellsAt base w' rb o fs
 | _, [], _ => trivial
 | o, f :: fs, h => ⟨by rw [hb.cell (p := ⟨rb, o, none⟩) hl]; exact h.1, Fld.good_below hb f h.2.1, CellsAt.at_below hb rb hl (o + 1) fs h.2.2⟩
end
mutual
theorem Fld.good_mono {base base' : Nat} {w : World} (hb : base ≤ base') : ∀ f : Fld, f.good base w → f.good base' w
 | .i _, h => h
 | .d _, h => h
 | .b _, _ => trivial
 | .s _, _ => trivial
 | .l la lc es, h => by
  obtain ⟨h1, h2, h3⟩ := h
  refine ⟨h1, h2, ?_⟩
  rcases h3 with h3 | ⟨rb, ro, e, hl, hz, hr⟩
  ·exact .inl h3
  ·exact .inr ⟨rb, ro, e, Nat.lt_of_lt_of_le hl hb, hz, RowsAt.at_mono hb rb ro es hr⟩
theorem RowsAt.at_mono {base base' : Nat} {w : World} (hb : base ≤ base') (rb : Nat) : ∀ (ro : Nat) (es : List (List Fld)), RowsAt base w rb ro es → RowsAt base' w rb ro es
 | _, [], _ => trivial
 | ro, e :: es, h => ⟨CellsAt.at_mono hb rb ro e h.1, RowsAt.at_mono hb rb (ro + e.length) es h.2⟩
theorem CellsAt.at_mono {base base' : Nat} {w : World} (hb : base ≤ base') (rb : Nat) : ∀ (o : Nat) (fs : List Fld), CellsAt base w rb o fs → CellsAt base' w rb o fs
 | _, [], _ => trivial
 | o, f :: fs, h => ⟨h.1, Fld.good_mono hb f h.2.1, CellsAt.at_mono hb rb (o + 1) fs h.2.2⟩
end
def goods (base : Nat) (w : World) (fs : List Fld) : Prop := ∀ f ∈ fs, f.good base w
theorem goods.below {base : Nat} {w w' : World} {fs : List Fld} (h : goods base w fs) (hb : Below base w w') : goods base w' fs := fun f hf => Fld.good_below hb f (h f hf)
theorem goods.mono {base base' : Nat} {w : World} {fs : List Fld} (h : goods base w fs) (hb : base ≤ base') : goods base' w fs := fun f hf => Fld.good_mono hb f (h f hf)
theorem goods.app {base : Nat} {w : World} {fs gs : List Fld} (h : goods base w (fs ++ gs)) : goods base w fs ∧ goods base w gs :=
 ⟨fun f hf => h f (List.mem_append_left _ hf), fun f hf => h f (List.mem_append_right _ hf)⟩
theorem goods.mk {base : Nat} {w : World} {fs gs : List Fld} (h : goods base w fs) (g : goods base w gs) : goods base w (fs ++ gs) := fun f hf => (List.mem_append.1 hf).elim (h f) (g f)
theorem goods.get {base : Nat} {w : World} {fs : List Fld} (h : goods base w fs) (i : Nat) {f : Fld} (hi : fs[i]? = some f) : f.good base w := h f (List.mem_of_getElem? hi)
theorem CellsAt.goods {base : Nat} {w : World} {rb : Nat} : ∀ {o : Nat} {fs : List Fld}, CellsAt base w rb o fs → Go.Proofs.YtemjajljpoaioaaDoor.goods base w fs
 | _, [], _ => fun f hf => by simp at hf
 | o, f :: fs, h => fun g hg => by
  rcases List.mem_cons.1 hg with rfl | hg
  ·exact h.2.1
  ·exact CellsAt.goods h.2.2 g hg
theorem CellsAt.get {base : Nat} {w : World} {rb : Nat} : ∀ {o : Nat} {fs : List Fld}, CellsAt base w rb o fs → ∀ (i : Nat) {f : Fld}, fs[i]? = some f → w.cell? ⟨rb, o + i, none⟩ = some f.val
 | _, [], _, i, f, hi => by simp at hi
 | o, g :: fs, h, 0, f, hi => by
  simp at hi
  subst hi
  exact h.1
 | o, g :: fs, h, i + 1, f, hi => by
  have := CellsAt.get h.2.2 i (f := f) (by simpa using hi)
  rw [show o + (i + 1) = o + 1 + i by omega]
  exact this
theorem CellsAt.get0 {base : Nat} {w : World} {rb o : Nat} {fs : List Fld} (h : CellsAt base w rb o fs) {f : Fld} (hi : fs[0]? = some f) : w.cell? ⟨rb, o, none⟩ = some f.val := h.get 0 hi
theorem CellsAt.app {base : Nat} {w : World} {rb : Nat} : ∀ {o : Nat} {fs gs : List Fld}, CellsAt base w rb o (fs ++ gs) → CellsAt base w rb o fs ∧ CellsAt base w rb (o + fs.length) gs
 | o, [], gs, h => ⟨trivial, h⟩
 | o, f :: fs, gs, h => by
  obtain ⟨h1, h2, h3⟩ := h
  obtain ⟨a, c⟩ := CellsAt.app h3
  refine ⟨⟨h1, h2, a⟩, ?_⟩
  rw [List.length_cons, show o + (fs.length + 1) = o + 1 + fs.length by omega]
  exact c
theorem CellsAt.mk {base : Nat} {w : World} {rb : Nat} : ∀ {o : Nat} {fs : List Fld}, (∀ i f, fs[i]? = some f → w.cell? ⟨rb, o + i, none⟩ = some f.val) → Go.Proofs.YtemjajljpoaioaaDoor.goods base w fs → CellsAt base w rb o fs
 | _, [], _, _ => trivial
 | o, f :: fs, h, g => ⟨h 0 f rfl, g f (by simp), CellsAt.mk (fun i f' hi => by
   have := h (i + 1) f' (by simpa using hi)
   rw [show o + 1 + i = o + (i + 1) by omega]
   exact this) fun f' hf => g f' (by simp [hf])⟩
theorem RowsAt.get {base : Nat} {w : World} {rb : Nat} {α : Type} (flds : α → List Fld) (sz : Nat) (hz : ∀ x, (flds x).length = sz) : ∀ {ro : Nat} {xs : List α}, RowsAt base w rb ro (xs.map flds) → ∀ (i : Nat) {x : α}, xs[i]? = some x → CellsAt base w rb (ro + i * sz) (flds x)
 | _, [], _, i, x, hi => by simp at hi
 | ro, y :: xs, h, 0, x, hi => by
  simp at hi
  subst hi
  rw [Nat.zero_mul, Nat.add_zero]
  exact h.1
 | ro, y :: xs, h, i + 1, x, hi => by
  have h2 : RowsAt base w rb (ro + (flds y).length) (xs.map flds) := h.2
  rw [hz] at h2
  have := RowsAt.get flds sz hz h2 i (x := x) (by simpa using hi)
  rw [show ro + (i + 1) * sz = ro + sz + i * sz by rw [Nat.add_mul]; omega]
  exact this
theorem RowsAt.mk {base : Nat} {w : World} {rb : Nat} {α : Type} (flds : α → List Fld) (sz : Nat) (hz : ∀ x, (flds x).length = sz) : ∀ {ro : Nat} {xs : List α}, (∀ i x, xs[i]? = some x → CellsAt base w rb (ro + i * sz) (flds x)) → RowsAt base w rb ro (xs.map flds)
 | _, [], _ => trivial
 | ro, y :: xs, h => by
  refine ⟨by have := h 0 y rfl; rwa [Nat.zero_mul, Nat.add_zero] at this, RowsAt.mk flds sz hz fun i x hi => ?_⟩
  have := h (i + 1) x (by simpa using hi)
  rw [hz, show ro + sz + i * sz = ro + (i + 1) * sz by rw [Nat.add_mul]; omega]
  exact this
structure Lst (α : Type) where
 la : Option Addr
 lc : Nat
 xs : List α
def Lst.fld {α : Type} (flds : α → List Fld) (l : Lst α) : Fld := .l l.la l.lc (l.xs.map flds)
theorem Lst.val {α : Type} (flds : α → List Fld) (l : Lst α) : (l.fld flds).val = .slice l.la l.xs.length l.lc := by simp [Lst.fld, Fld.val]
def Lst.Held {α : Type} (flds : α → List Fld) (sz base : Nat) (w : World) (l : Lst α) : Prop :=
 l.xs.length ≤ l.lc ∧ l.lc ≤ maxLen ∧ (l.xs = [] ∨ ∃ rb ro, l.la = some ⟨rb, ro, none⟩ ∧ rb < base ∧ rb < w.heap.size ∧ ∀ i x, l.xs[i]? = some x → CellsAt base w rb (ro + i * sz) (flds x))
theorem Lst.held {α : Type} {flds : α → List Fld} {sz base : Nat} {w : World} {l : Lst α} (hz : ∀ x, (flds x).length = sz) (h : (l.fld flds).good base w) : l.Held flds sz base w := by
 obtain ⟨h1, h2, h3⟩ := h
 refine ⟨by simpa using h1, h2, ?_⟩
 rcases h3 with h3 | ⟨rb, ro, e, hl, hz', hr⟩
 ·exact .inl (by simpa using h3)
 ·exact .inr ⟨rb, ro, e, hl, hz', fun i x hi => RowsAt.get flds sz hz hr i hi⟩
theorem Lst.good {α : Type} {flds : α → List Fld} {sz base : Nat} {w : World} {l : Lst α} (hz : ∀ x, (flds x).length = sz) (h : l.Held flds sz base w) : (l.fld flds).good base w := by
 obtain ⟨h1, h2, h3⟩ := h
 refine ⟨by simpa using h1, h2, ?_⟩
 rcases h3 with h3 | ⟨rb, ro, e, hl, hz', hr⟩
 ·exact .inl (by simp [h3])
 ·exact .inr ⟨rb, ro, e, hl, hz', RowsAt.mk flds sz hz hr⟩
theorem Lst.Held.below {α : Type} {flds : α → List Fld} {sz base : Nat} {w w' : World} {l : Lst α} (h : l.Held flds sz base w) (hb : Below base w w') : l.Held flds sz base w' := by
 obtain ⟨h1, h2, h3⟩ := h
 refine ⟨h1, h2, ?_⟩
 rcases h3 with h3 | ⟨rb, ro, e, hl, hz', hr⟩
 ·exact .inl h3
 ·exact .inr ⟨rb, ro, e, hl, Nat.lt_of_lt_of_le hz' hb.size, fun i x hi => CellsAt.at_below hb rb hl _ _ (hr i x hi)⟩
end Go.Proofs.YtemjajljpoaioaaDoor
