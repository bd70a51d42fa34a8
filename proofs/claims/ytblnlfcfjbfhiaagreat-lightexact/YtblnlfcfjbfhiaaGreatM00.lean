/- Memory: blocks that are known whole; things and their cells, and the rows behind their lists. -/
import Derived.Test.YtblnlfcfjbfhiaaGreatProg
import Derived.WalkKit
import Derived.WalkSpells
import Derived.WalkLawsBesides
import Derived.KernelRfl
import Derived.RowKit3
import Derived.Lib.AppendStr
import Derived.Deep.AppendLies
import Derived.Deep.RegionLaw
import Derived.WalkSmall
import Derived.BigQuiet
import Derived.Deep.CutRange
import Derived.Deep.DeepCutAuto

namespace Go.Proofs.YtblnlfcfjbfhiaaGreat
open Go.RowKit
set_option linter.unusedVariables false

/-- It is a bool, whichever. -/
def IsBool (e : Ending) : Prop := ∃ z : Bool, e = .returned (.bool z)

def Blk (w : World) (b : Nat) (cs : Array Value) (t : TypeId) : Prop := w.heap[b]? = some (.cells cs t (0, 0))

theorem Blk.lt {w : World} {b : Nat} {cs : Array Value} {t : TypeId} (h : Blk w b cs t) : b < w.heap.size := (Array.getElem?_eq_some_iff.1 h).1
theorem Blk.cell {w : World} {b : Nat} {cs : Array Value} {t : TypeId} (h : Blk w b cs t) (i : Nat) : w.cell? ⟨b, i, none⟩ = cs[i]? := by
  unfold Blk at h; simp [World.cell?, h]
theorem Blk.frozen {w : World} {b : Nat} {cs : Array Value} {t : TypeId} (h : Blk w b cs t) (i : Nat) : w.frozen? ⟨b, i, none⟩ = false := by
  unfold Blk at h; simp [World.frozen?, h]
theorem Blk.below {w w' : World} {B b : Nat} {cs : Array Value} {t : TypeId} (h : Blk w b cs t) (hb : Below B w w') (hlt : b < B) : Blk w' b cs t := by
  unfold Blk at *; rw [hb.block b hlt]; exact h
theorem Blk.grown {w w' : World} {row : Option Nat} {b : Nat} {cs : Array Value} {t : TypeId} (h : Blk w b cs t) (hg : w.grownBy w' row) (hne : row ≠ some b) : Blk w' b cs t := by
  have hl := h.lt
  unfold Blk at *; rw [hg.block b hl (fun e => hne e.symm)]; exact h
theorem Blk.drew {w : World} {b : Nat} {cs : Array Value} {t : TypeId} (h : Blk w b cs t) : Blk w.drew b cs t := h
theorem Blk.new (w : World) (cs : Array Value) (t : TypeId) : Blk (w.alloc (.cells cs t)) w.heap.size cs t := by
  show (w.heap.push _)[w.heap.size]? = _; simp
theorem Blk.alloc {w : World} {b : Nat} {cs : Array Value} {t : TypeId} (h : Blk w b cs t) (o : Obj) : Blk (w.alloc o) b cs t := by
  have hl := h.lt
  unfold Blk at *; rw [Below.heap_alloc _ _ _ hl]; exact h
theorem Blk.set {w : World} {b : Nat} {cs : Array Value} {t : TypeId} (h : Blk w b cs t) (i : Nat) (v : Value) : Blk (w.setCell ⟨b, i, none⟩ v) b (cs.setIfInBounds i v) t := by
  unfold Blk at *
  simp [World.setCell, Array.getElem?_modify, h]
theorem Blk.setOther {w : World} {b : Nat} {cs : Array Value} {t : TypeId} (h : Blk w b cs t) (a : Addr) (hne : b ≠ a.block) (v : Value) : Blk (w.setCell a v) b cs t := by
  unfold Blk at *; rw [Below.heap_setCell _ _ _ _ hne]; exact h



theorem owns_below {w w' : World} {base : Nat} {e : TypeId} {size : Nat} {v : Value} {n : Nat} {xs : List Value} (h : w.ownsRow base e size v n xs) (hb : Below w.heap.size w w') : w'.ownsRow base e size v n xs := by
  obtain ⟨h1, h2⟩ := h
  refine ⟨h1, ?_⟩
  rcases h2 with h2 | ⟨g, cap, cur, e1, e2, e3, e4⟩
  · exact .inl h2
  · exact .inr ⟨g, cap, cur, e1, e2, by rw [hb.block g (Array.getElem?_eq_some_iff.1 e3).1]; exact e3, e4⟩

/-- A cell of a thing: a number, a digest, a flag, a text, a list of things. -/
inductive Fld where
  | i (n : Int)
  | d (n : Int)
  | b (x : Bool)
  | s (t : List UInt8)
  | l (la : Option Addr) (lc : Nat) (es : List (List Fld))

def Fld.val : Fld → Value
  | .i n => .int .i64 n
  | .d n => .int .u64 n
  | .b x => .bool x
  | .s t => .string ⟨t.toArray⟩
  | .l la lc es => .slice la es.length lc

mutual
/-- It is what may be in that cell; rows lie in blocks below base. -/
def Fld.good (base : Nat) (w : World) : Fld → Prop
  | .i n => -9223372036854775808 ≤ n ∧ n ≤ 9223372036854775807
  | .d n => 0 ≤ n ∧ n ≤ 18446744073709551615
  | .b _ => True
  | .s _ => True
  | .l la lc es => es.length ≤ lc ∧ lc ≤ maxLen ∧ (es = [] ∨ ∃ rb ro, la = some ⟨rb, ro, none⟩ ∧ rb < base ∧ rb < w.heap.size ∧ RowsAt base w rb ro es)
/-- The things of a row, one behind the other. -/
def RowsAt (base : Nat) (w : World) (rb : Nat) : Nat → List (List Fld) → Prop
  | _, [] => True
  | ro, e :: es => CellsAt base w rb ro e ∧ RowsAt base w rb (ro + e.length) es
/-- The cells of a thing. -/
def CellsAt (base : Nat) (w : World) (rb : Nat) : Nat → List Fld → Prop
  | _, [] => True
  | o, f :: fs => w.cell? ⟨rb, o, none⟩ = some f.val ∧ f.good base w ∧ CellsAt base w rb (o + 1) fs
end

mutual
theorem Fld.good_below {base : Nat} {w w' : World} (hb : Below base w w') : ∀ f : Fld, f.good base w → f.good base w'
  | .i _, h => h
  | .d _, h => h
  | .b _, _ => trivial
  | .s _, _ => trivial
  | .l la lc es, h => by
    obtain ⟨h1, h2, h3⟩ := h
    refine ⟨h1, h2, ?_⟩
    rcases h3 with h3 | ⟨rb, ro, e, hl, hz, hr⟩
    · exact .inl h3
    · exact .inr ⟨rb, ro, e, hl, Nat.lt_of_lt_of_le hz hb.size, RowsAt.at_below hb rb hl ro es hr⟩
theorem RowsAt.at_below {base : Nat} {w w' : World} (hb : Below base w w') (rb : Nat) (hl : rb < base) : ∀ (ro : Nat) (es : List (List Fld)), RowsAt base w rb ro es → RowsAt base w' rb ro es
  | _, [], _ => trivial
  | ro, e :: es, h => ⟨CellsAt.at_below hb rb hl ro e h.1, RowsAt.at_below hb rb hl (ro + e.length) es h.2⟩
theorem CellsAt.at_below {base : Nat} {w w' : World} (hb : Below base w w') (rb : Nat) (hl : rb < base) : ∀ (o : Nat) (fs : List Fld), CellsAt base w rb o fs → CellsAt base w' rb o fs
  | _, [], _ => trivial
  | o, f :: fs, h => ⟨by rw [hb.cell (p := ⟨rb, o, none⟩) hl]; exact h.1, Fld.good_below hb f h.2.1, CellsAt.at_below hb rb hl (o + 1) fs h.2.2⟩
end

mutual
theorem Fld.good_mono {base base' : Nat} {w : World} (hb : base ≤ base') : ∀ f : Fld, f.good base w → f.good base' w
  | .i _, h => h
  | .d _, h => h
  | .b _, _ => trivial
  | .s _, _ => trivial
  | .l la lc es, h => by
    obtain ⟨h1, h2, h3⟩ := h
    refine ⟨h1, h2, ?_⟩
    rcases h3 with h3 | ⟨rb, ro, e, hl, hz, hr⟩
    · exact .inl h3
    · exact .inr ⟨rb, ro, e, Nat.lt_of_lt_of_le hl hb, hz, RowsAt.at_mono hb rb ro es hr⟩
theorem RowsAt.at_mono {base base' : Nat} {w : World} (hb : base ≤ base') (rb : Nat) : ∀ (ro : Nat) (es : List (List Fld)), RowsAt base w rb ro es → RowsAt base' w rb ro es
  | _, [], _ => trivial
  | ro, e :: es, h => ⟨CellsAt.at_mono hb rb ro e h.1, RowsAt.at_mono hb rb (ro + e.length) es h.2⟩
theorem CellsAt.at_mono {base base' : Nat} {w : World} (hb : base ≤ base') (rb : Nat) : ∀ (o : Nat) (fs : List Fld), CellsAt base w rb o fs → CellsAt base' w rb o fs
  | _, [], _ => trivial
  | o, f :: fs, h => ⟨h.1, Fld.good_mono hb f h.2.1, CellsAt.at_mono hb rb (o + 1) fs h.2.2⟩
end

/-- All of these may be. -/
def goods (base : Nat) (w : World) (fs : List Fld) : Prop := ∀ f ∈ fs, f.good base w
theorem goods.below {base : Nat} {w w' : World} {fs : List Fld} (h : goods base w fs) (hb : Below base w w') : goods base w' fs := fun f hf => Fld.good_below hb f (h f hf)
theorem goods.mono {base base' : Nat} {w : World} {fs : List Fld} (h : goods base w fs) (hb : base ≤ base') : goods base' w fs := fun f hf => Fld.good_mono hb f (h f hf)
theorem goods.app {base : Nat} {w : World} {fs gs : List Fld} (h : goods base w (fs ++ gs)) : goods base w fs ∧ goods base w gs :=
  ⟨fun f hf => h f (List.mem_append_left _ hf), fun f hf => h f (List.mem_append_right _ hf)⟩
theorem goods.mk {base : Nat} {w : World} {fs gs : List Fld} (h : goods base w fs) (g : goods base w gs) : goods base w (fs ++ gs) := fun f hf => (List.mem_append.1 hf).elim (h f) (g f)
theorem goods.get {base : Nat} {w : World} {fs : List Fld} (h : goods base w fs) (i : Nat) {f : Fld} (hi : fs[i]? = some f) : f.good base w := h f (List.mem_of_getElem? hi)

theorem CellsAt.goods {base : Nat} {w : World} {rb : Nat} : ∀ {o : Nat} {fs : List Fld}, CellsAt base w rb o fs → Go.Proofs.YtblnlfcfjbfhiaaGreat.goods base w fs
  | _, [], _ => fun f hf => by simp at hf
  | o, f :: fs, h => fun g hg => by
    rcases List.mem_cons.1 hg with rfl | hg
    · exact h.2.1
    · exact CellsAt.goods h.2.2 g hg
theorem CellsAt.get {base : Nat} {w : World} {rb : Nat} : ∀ {o : Nat} {fs : List Fld}, CellsAt base w rb o fs → ∀ (i : Nat) {f : Fld}, fs[i]? = some f → w.cell? ⟨rb, o + i, none⟩ = some f.val
  | _, [], _, i, f, hi => by simp at hi
  | o, g :: fs, h, 0, f, hi => by
    simp at hi
    subst hi
    exact h.1
  | o, g :: fs, h, i + 1, f, hi => by
    have := CellsAt.get h.2.2 i (f := f) (by simpa using hi)
    rw [show o + (i + 1) = o + 1 + i by omega]
    exact this
theorem CellsAt.get0 {base : Nat} {w : World} {rb o : Nat} {fs : List Fld} (h : CellsAt base w rb o fs) {f : Fld} (hi : fs[0]? = some f) : w.cell? ⟨rb, o, none⟩ = some f.val := h.get 0 hi
theorem CellsAt.app {base : Nat} {w : World} {rb : Nat} : ∀ {o : Nat} {fs gs : List Fld}, CellsAt base w rb o (fs ++ gs) → CellsAt base w rb o fs ∧ CellsAt base w rb (o + fs.length) gs
  | o, [], gs, h => ⟨trivial, h⟩
  | o, f :: fs, gs, h => by
    obtain ⟨h1, h2, h3⟩ := h
    obtain ⟨a, c⟩ := CellsAt.app h3
    refine ⟨⟨h1, h2, a⟩, ?_⟩
    rw [List.length_cons, show o + (fs.length + 1) = o + 1 + fs.length by omega]
    exact c
theorem CellsAt.mk {base : Nat} {w : World} {rb : Nat} : ∀ {o : Nat} {fs : List Fld}, (∀ i f, fs[i]? = some f → w.cell? ⟨rb, o + i, none⟩ = some f.val) → Go.Proofs.YtblnlfcfjbfhiaaGreat.goods base w fs → CellsAt base w rb o fs
  | _, [], _, _ => trivial
  | o, f :: fs, h, g => ⟨h 0 f rfl, g f (by simp), CellsAt.mk (fun i f' hi => by
      have := h (i + 1) f' (by simpa using hi)
      rw [show o + 1 + i = o + (i + 1) by omega]
      exact this) fun f' hf => g f' (by simp [hf])⟩
/-- A block of its own that holds them. -/
theorem CellsAt.of_blk {base : Nat} {w : World} {rb : Nat} {cs : Array Value} {t : TypeId} {fs : List Fld} (h : Blk w rb cs t) (e : cs.toList = fs.map Fld.val) (g : Go.Proofs.YtblnlfcfjbfhiaaGreat.goods base w fs) : CellsAt base w rb 0 fs :=
  CellsAt.mk (fun i f hi => by
    rw [h.cell, Nat.zero_add, ← Array.getElem?_toList, e, List.getElem?_map, hi]; rfl) g
/-- One thing of a row. -/
theorem RowsAt.get {base : Nat} {w : World} {rb : Nat} {α : Type} (flds : α → List Fld) (sz : Nat) (hz : ∀ x, (flds x).length = sz) : ∀ {ro : Nat} {xs : List α}, RowsAt base w rb ro (xs.map flds) → ∀ (i : Nat) {x : α}, xs[i]? = some x → CellsAt base w rb (ro + i * sz) (flds x)
  | _, [], _, i, x, hi => by simp at hi
  | ro, y :: xs, h, 0, x, hi => by
    simp at hi
    subst hi
    rw [Nat.zero_mul, Nat.add_zero]
    exact h.1
  | ro, y :: xs, h, i + 1, x, hi => by
    have h2 : RowsAt base w rb (ro + (flds y).length) (xs.map flds) := h.2
    rw [hz] at h2
    have := RowsAt.get flds sz hz h2 i (x := x) (by simpa using hi)
    rw [show ro + (i + 1) * sz = ro + sz + i * sz by rw [Nat.add_mul]; omega]
    exact this
theorem RowsAt.mk {base : Nat} {w : World} {rb : Nat} {α : Type} (flds : α → List Fld) (sz : Nat) (hz : ∀ x, (flds x).length = sz) : ∀ {ro : Nat} {xs : List α}, (∀ i x, xs[i]? = some x → CellsAt base w rb (ro + i * sz) (flds x)) → RowsAt base w rb ro (xs.map flds)
  | _, [], _ => trivial
  | ro, y :: xs, h => by
    refine ⟨by have := h 0 y rfl; rwa [Nat.zero_mul, Nat.add_zero] at this, RowsAt.mk flds sz hz fun i x hi => ?_⟩
    have := h (i + 1) x (by simpa using hi)
    rw [hz, show ro + sz + i * sz = ro + (i + 1) * sz by rw [Nat.add_mul]; omega]
    exact this

/-- A list of things: where it lies, its room, what is in it. -/
structure Lst (α : Type) where
  la : Option Addr
  lc : Nat
  xs : List α
def Lst.fld {α : Type} (flds : α → List Fld) (l : Lst α) : Fld := .l l.la l.lc (l.xs.map flds)
theorem Lst.val {α : Type} (flds : α → List Fld) (l : Lst α) : (l.fld flds).val = .slice l.la l.xs.length l.lc := by simp [Lst.fld, Fld.val]
/-- What is known of a list's room and rows. -/
def Lst.Held {α : Type} (flds : α → List Fld) (sz base : Nat) (w : World) (l : Lst α) : Prop :=
  l.xs.length ≤ l.lc ∧ l.lc ≤ maxLen ∧ (l.xs = [] ∨ ∃ rb ro, l.la = some ⟨rb, ro, none⟩ ∧ rb < base ∧ rb < w.heap.size ∧ ∀ i x, l.xs[i]? = some x → CellsAt base w rb (ro + i * sz) (flds x))
theorem Lst.held {α : Type} {flds : α → List Fld} {sz base : Nat} {w : World} {l : Lst α} (hz : ∀ x, (flds x).length = sz) (h : (l.fld flds).good base w) : l.Held flds sz base w := by
  obtain ⟨h1, h2, h3⟩ := h
  refine ⟨by simpa using h1, h2, ?_⟩
  rcases h3 with h3 | ⟨rb, ro, e, hl, hz', hr⟩
  · exact .inl (by simpa using h3)
  · exact .inr ⟨rb, ro, e, hl, hz', fun i x hi => RowsAt.get flds sz hz hr i hi⟩
theorem Lst.good {α : Type} {flds : α → List Fld} {sz base : Nat} {w : World} {l : Lst α} (hz : ∀ x, (flds x).length = sz) (h : l.Held flds sz base w) : (l.fld flds).good base w := by
  obtain ⟨h1, h2, h3⟩ := h
  refine ⟨by simpa using h1, h2, ?_⟩
  rcases h3 with h3 | ⟨rb, ro, e, hl, hz', hr⟩
  · exact .inl (by simp [h3])
  · exact .inr ⟨rb, ro, e, hl, hz', RowsAt.mk flds sz hz hr⟩
theorem Lst.Held.below {α : Type} {flds : α → List Fld} {sz base : Nat} {w w' : World} {l : Lst α} (h : l.Held flds sz base w) (hb : Below base w w') : l.Held flds sz base w' := by
  obtain ⟨h1, h2, h3⟩ := h
  refine ⟨h1, h2, ?_⟩
  rcases h3 with h3 | ⟨rb, ro, e, hl, hz', hr⟩
  · exact .inl h3
  · exact .inr ⟨rb, ro, e, hl, Nat.lt_of_lt_of_le hz' hb.size, fun i x hi => CellsAt.at_below hb rb hl _ _ (hr i x hi)⟩

end Go.Proofs.YtblnlfcfjbfhiaaGreat

namespace Go.Proofs.YtblnlfcfjbfhiaaGreat
open Go.RowKit
set_option linter.unusedVariables false
set_option linter.unusedSimpArgs false

theorem below_drewN {B : Nat} {a w : World} (h : Below B a w) (n : Nat) : Below B a (w.drewN n) := h.trans ⟨rfl, rfl, rfl, Nat.le_refl _, fun _ _ => rfl⟩

/-- A list of seats in memory: who, and the weight. -/
def SeatsAt (w : World) (la : Option Addr) (l : List (Int × Int)) : Prop :=
  l = [] ∨ ∃ b off, la = some ⟨b, off, none⟩ ∧ b < w.heap.size ∧ ∀ i x, l[i]? = some x → w.cell? ⟨b, off + i * 2, none⟩ = some (.int .i64 x.1) ∧ w.cell? ⟨b, off + i * 2 + 1, none⟩ = some (.int .i64 x.2)
theorem SeatsAt.below {w w' : World} {la : Option Addr} {l : List (Int × Int)} (h : SeatsAt w la l) (hb : Below w.heap.size w w') : SeatsAt w' la l := by
  rcases h with h | ⟨b, off, e, hl, hc⟩
  · exact .inl h
  · refine .inr ⟨b, off, e, Nat.lt_of_lt_of_le hl hb.size, fun i x hx => ?_⟩
    obtain ⟨h1, h2⟩ := hc i x hx
    exact ⟨by rw [hb.cell (p := ⟨b, off + i * 2, none⟩) hl]; exact h1, by rw [hb.cell (p := ⟨b, off + i * 2 + 1, none⟩) hl]; exact h2⟩
theorem SeatsAt.one {w : World} {la : Option Addr} {l : List (Int × Int)} (h : SeatsAt w la l) {i : Nat} (hi : i < l.length) : ∃ b off, la = some ⟨b, off, none⟩ ∧ b < w.heap.size ∧ w.cell? ⟨b, off + i * 2, none⟩ = some (.int .i64 l[i].1) ∧ w.cell? ⟨b, off + i * 2 + 1, none⟩ = some (.int .i64 l[i].2) := by
  rcases h with h | ⟨b, off, e, hl, hc⟩
  · rw [h] at hi; simp at hi
  · obtain ⟨h1, h2⟩ := hc i _ (List.getElem?_eq_getElem hi)
    exact ⟨b, off, e, hl, h1, h2⟩

/-- A list of numbers in memory. -/
def IntsAt (w : World) (oa : Option Addr) (od : List Int) : Prop :=
  od = [] ∨ ∃ b off, oa = some ⟨b, off, none⟩ ∧ b < w.heap.size ∧ ∀ i x, od[i]? = some x → w.cell? ⟨b, off + i, none⟩ = some (.int .i64 x)
theorem IntsAt.below {w w' : World} {oa : Option Addr} {od : List Int} (h : IntsAt w oa od) (hb : Below w.heap.size w w') : IntsAt w' oa od := by
  rcases h with h | ⟨b, off, e, hl, hc⟩
  · exact .inl h
  · exact .inr ⟨b, off, e, Nat.lt_of_lt_of_le hl hb.size, fun i x hx => by rw [hb.cell (p := ⟨b, off + i, none⟩) hl]; exact hc i x hx⟩
theorem IntsAt.one {w : World} {la : Option Addr} {l : List Int} (h : IntsAt w la l) {i : Nat} (hi : i < l.length) : ∃ b off, la = some ⟨b, off, none⟩ ∧ b < w.heap.size ∧ w.cell? ⟨b, off + i, none⟩ = some (.int .i64 l[i]) := by
  rcases h with h | ⟨b, off, e, hl, hc⟩
  · rw [h] at hi; simp at hi
  · exact ⟨b, off, e, hl, hc i _ (List.getElem?_eq_getElem hi)⟩

/-- The cells of seats. -/
def flatS (l : List (Int × Int)) : List Value := l.flatMap fun x => [.int .i64 x.1, .int .i64 x.2]
theorem flatS_len (l : List (Int × Int)) : (flatS l).length = l.length * 2 := by
  induction l with
  | nil => rfl
  | cons x r ih => simp only [flatS, List.flatMap_cons, List.length_append, List.length_cons, List.length_nil] at ih ⊢; omega
theorem flatS_snoc (l : List (Int × Int)) (x : Int × Int) : flatS (l ++ [x]) = flatS l ++ [.int .i64 x.1, .int .i64 x.2] := by simp [flatS]
theorem flatS_app (l m : List (Int × Int)) : flatS (l ++ m) = flatS l ++ flatS m := by simp [flatS]
theorem flatS_get : ∀ (l : List (Int × Int)) (i : Nat) (x : Int × Int), l[i]? = some x → (flatS l)[i * 2]? = some (.int .i64 x.1) ∧ (flatS l)[i * 2 + 1]? = some (.int .i64 x.2)
  | [], i, x, h => by simp at h
  | y :: r, 0, x, h => by simp only [List.getElem?_cons_zero, Option.some.injEq] at h; subst h; simp [flatS]
  | y :: r, i + 1, x, h => by
    rw [List.getElem?_cons_succ] at h
    obtain ⟨h1, h2⟩ := flatS_get r i x h
    have e1 : (i + 1) * 2 = i * 2 + 1 + 1 := by omega
    rw [e1]
    simp only [flatS, List.flatMap_cons, List.cons_append, List.nil_append, List.getElem?_cons_succ] at h1 h2 ⊢
    exact ⟨h1, h2⟩
theorem flatS_one (l : List (Int × Int)) : ∀ u ∈ flatS l, u.oneCell' = true := by
  intro u hu
  simp only [flatS, List.mem_flatMap] at hu
  obtain ⟨x, _, hx⟩ := hu
  simp at hx
  rcases hx with rfl | rfl <;> rfl

theorem infoSeat : (Tryz.prog.info? 52).map (fun i => (i.zero, i.size, i.bytes)) = some (some (.agg #[.int .i64 0, .int .i64 0]), 2, 16) := by kernel_rfl
theorem infoInt : (Tryz.prog.info? 3).map (fun i => (i.zero, i.size, i.bytes)) = some (some (.int .i64 0), 1, 8) := by kernel_rfl

theorem owns_keep {w w' : World} {base : Nat} {e : TypeId} {size : Nat} {v : Value} {n : Nat} {xs : List Value} (h : w.ownsRow base e size v n xs) (hb : Below w.heap.size w w') : w'.ownsRow base e size v n xs := by
  obtain ⟨h1, h2⟩ := h
  refine ⟨h1, ?_⟩
  rcases h2 with h2 | ⟨g, cap, cur, e1, h3, h4, h5⟩
  · exact .inl h2
  · exact .inr ⟨g, cap, cur, e1, h3, (hb.block g (Array.getElem?_eq_some_iff.1 h4).1).trans h4, h5⟩

/-- A row of seats of the call's own is a list of seats. -/
theorem SeatsAt.of_owns {w : World} {base : Nat} {sv : Value} {m : List (Int × Int)} (h : w.ownsRow base 52 2 sv m.length (flatS m)) : ∃ la cap, sv = .slice la m.length cap ∧ SeatsAt w la m := by
  rcases h.2 with ⟨e, h0⟩ | ⟨g, cap, cur, e, _, hg, hc, hcm, hs, ht⟩
  · have : m = [] := List.eq_nil_of_length_eq_zero h0
    subst this
    exact ⟨none, 0, e, .inl rfl⟩
  · refine ⟨_, cap, e, .inr ⟨g, 0, rfl, (Array.getElem?_eq_some_iff.1 hg).1, fun i x hx => ?_⟩⟩
    obtain ⟨f1, f2⟩ := flatS_get m i x hx
    have hi : i < m.length := (List.getElem?_eq_some_iff.1 hx).1
    have key : ∀ j v, (flatS m)[j]? = some v → w.cell? ⟨g, j, none⟩ = some v := by
      intro j v hj
      rw [← ht] at hj
      have hjl : j < m.length * 2 := by
        have := (List.getElem?_eq_some_iff.1 hj).1
        rw [List.length_take] at this
        omega
      rw [List.getElem?_take_of_lt hjl] at hj
      simp only [World.cell?, hg]
      simpa using hj
    refine ⟨?_, ?_⟩
    · rw [Nat.zero_add]; exact key _ _ f1
    · rw [Nat.zero_add]; exact key _ _ f2
theorem IntsAt.of_owns {w : World} {base : Nat} {sv : Value} {m : List Int} (h : w.ownsRow base 3 1 sv m.length (m.map (Value.int .i64))) : ∃ la cap, sv = .slice la m.length cap ∧ IntsAt w la m := by
  rcases h.2 with ⟨e, h0⟩ | ⟨g, cap, cur, e, _, hg, hc, hcm, hs, ht⟩
  · have : m = [] := List.eq_nil_of_length_eq_zero h0
    subst this
    exact ⟨none, 0, e, .inl rfl⟩
  · refine ⟨_, cap, e, .inr ⟨g, 0, rfl, (Array.getElem?_eq_some_iff.1 hg).1, fun i x hx => ?_⟩⟩
    have hi : i < m.length := (List.getElem?_eq_some_iff.1 hx).1
    have hj : (m.map (Value.int .i64))[i]? = some (.int .i64 x) := by rw [List.getElem?_map, hx]; rfl
    rw [← ht, List.getElem?_take_of_lt (by omega)] at hj
    rw [Nat.zero_add]
    simp only [World.cell?, hg]
    simpa using hj
/-- What an append reads of a list of seats. -/
theorem news_seats {w : World} {b off : Nat} {l : List (Int × Int)} (hc : ∀ i x, l[i]? = some x → w.cell? ⟨b, off + i * 2, none⟩ = some (.int .i64 x.1) ∧ w.cell? ⟨b, off + i * 2 + 1, none⟩ = some (.int .i64 x.2)) : ∀ j u, (flatS l)[j]? = some u → w.cell? ((⟨b, off, none⟩ : Addr).add j) = some u := by
  intro j u hj
  have ha : (⟨b, off, none⟩ : Addr).add j = ⟨b, off + j, none⟩ := by unfold Addr.add; split <;> simp_all
  rw [ha]
  have hjl : j < l.length * 2 := by have := (List.getElem?_eq_some_iff.1 hj).1; rw [flatS_len] at this; exact this
  have hi : j / 2 < l.length := by omega
  have hx := List.getElem?_eq_getElem hi
  obtain ⟨f1, f2⟩ := flatS_get l (j / 2) _ hx
  obtain ⟨c1, c2⟩ := hc (j / 2) _ hx
  have hm : j % 2 = 0 ∨ j % 2 = 1 := by omega
  rcases hm with hm | hm
  · have e : j = j / 2 * 2 := by omega
    rw [e] at hj
    rw [f1] at hj
    rw [e, c1, hj]
  · have e : j = j / 2 * 2 + 1 := by omega
    rw [e] at hj
    rw [f2] at hj
    rw [e, ← Nat.add_assoc, c2, hj]
theorem cells_seat (w : World) (s t : Int) (ty : TypeId) : ∀ j u, ([Value.int .i64 s, .int .i64 t])[j]? = some u → (w.alloc (.cells #[.int .i64 s, .int .i64 t] ty)).cell? ((⟨w.heap.size, 0, none⟩ : Addr).add j) = some u := by
  intro j u hj
  have hj2 : j < 2 := (List.getElem?_eq_some_iff.1 hj).1
  have : j = 0 ∨ j = 1 := by omega
  rcases this with rfl | rfl <;> simp_all [Addr.add]
end Go.Proofs.YtblnlfcfjbfhiaaGreat
