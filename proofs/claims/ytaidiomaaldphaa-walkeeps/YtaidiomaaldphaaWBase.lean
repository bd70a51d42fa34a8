/- Memory: a variable that a walk writes into, a row of bytes that it appends to, and all the rest as it was. -/
import Derived.Test.YtaidiomaaldphaaEnds
import Derived.Lib.AppendStr
import Derived.Deep.AppendLies
import Derived.Deep.RegionLaw
import Derived.WalkSmall
namespace Go.Proofs.Ytaidiomaaldphaa
open Go.RowKit
set_option linter.unusedVariables false

def Blk (w : World) (b : Nat) (cs : Array Value) (t : TypeId) : Prop := w.heap[b]? = some (.cells cs t (0, 0))

theorem Blk.lt {w : World} {b : Nat} {cs : Array Value} {t : TypeId} (h : Blk w b cs t) : b < w.heap.size := (Array.getElem?_eq_some_iff.1 h).1
theorem Blk.cell {w : World} {b : Nat} {cs : Array Value} {t : TypeId} (h : Blk w b cs t) (i : Nat) : w.cell? ⟨b, i, none⟩ = cs[i]? := by
  unfold Blk at h; simp [World.cell?, h]
theorem Blk.frozen {w : World} {b : Nat} {cs : Array Value} {t : TypeId} (h : Blk w b cs t) (i : Nat) : w.frozen? ⟨b, i, none⟩ = false := by
  unfold Blk at h; simp [World.frozen?, h]
theorem Blk.below {w w' : World} {B b : Nat} {cs : Array Value} {t : TypeId} (h : Blk w b cs t) (hb : Below B w w') (hlt : b < B) : Blk w' b cs t := by
  unfold Blk at *; rw [hb.block b hlt]; exact h
theorem Blk.grown {w w' : World} {row : Option Nat} {b : Nat} {cs : Array Value} {t : TypeId} (h : Blk w b cs t) (hg : w.grownBy w' row) (hne : row ≠ some b) : Blk w' b cs t := by
  have hl := h.lt
  unfold Blk at *; rw [hg.block b hl (fun e => hne e.symm)]; exact h
theorem Blk.drew {w : World} {b : Nat} {cs : Array Value} {t : TypeId} (h : Blk w b cs t) : Blk w.drew b cs t := h
theorem Blk.new (w : World) (cs : Array Value) (t : TypeId) : Blk (w.alloc (.cells cs t)) w.heap.size cs t := by
  show (w.heap.push _)[w.heap.size]? = _; simp
theorem Blk.alloc {w : World} {b : Nat} {cs : Array Value} {t : TypeId} (h : Blk w b cs t) (o : Obj) : Blk (w.alloc o) b cs t := by
  have hl := h.lt
  unfold Blk at *; rw [Below.heap_alloc _ _ _ hl]; exact h
theorem Blk.set {w : World} {b : Nat} {cs : Array Value} {t : TypeId} (h : Blk w b cs t) (i : Nat) (v : Value) : Blk (w.setCell ⟨b, i, none⟩ v) b (cs.setIfInBounds i v) t := by
  unfold Blk at *
  simp [World.setCell, Array.getElem?_modify, h]
theorem Blk.setOther {w : World} {b : Nat} {cs : Array Value} {t : TypeId} (h : Blk w b cs t) (a : Addr) (hne : b ≠ a.block) (v : Value) : Blk (w.setCell a v) b cs t := by
  unfold Blk at *; rw [Below.heap_setCell _ _ _ _ hne]; exact h


/-- Block k is not the one that is written into, and it is older, or no row of bytes. -/
def Safe (w : World) (b k : Nat) : Prop := k ≠ b ∧ k < w.heap.size ∧ (k < b ∨ ∀ cs f, w.heap[k]? ≠ some (.cells cs 5 f))
/-- All below base is as it was, and all that is safe. -/
structure Kp (base b : Nat) (w w' : World) : Prop where
  below : Below base w w'
  safe : ∀ k, Safe w b k → w'.heap[k]? = w.heap[k]?

theorem Kp.refl (base b : Nat) (w : World) : Kp base b w w := ⟨Below.refl _ _, fun _ _ => rfl⟩
theorem Safe.kp {base b k : Nat} {w w' : World} (h : Safe w b k) (hK : Kp base b w w') : Safe w' b k :=
  ⟨h.1, Nat.lt_of_lt_of_le h.2.1 hK.below.size, h.2.2.imp id fun hh cs f => by rw [hK.safe k h]; exact hh cs f⟩
theorem Kp.trans {base b : Nat} {w w1 w2 : World} (h : Kp base b w w1) (k : Kp base b w1 w2) : Kp base b w w2 :=
  ⟨h.below.trans k.below, fun j hj => (k.safe j (hj.kp h)).trans (h.safe j hj)⟩
theorem Kp.of_below {base b : Nat} {w w' : World} (h : Below w.heap.size w w') (hb : base ≤ w.heap.size) : Kp base b w w' :=
  ⟨h.mono hb, fun k hk => h.block k hk.2.1⟩
theorem Kp.size {base b : Nat} {w w' : World} (h : Kp base b w w') : w.heap.size ≤ w'.heap.size := h.below.size
theorem Kp.set {base b : Nat} {w : World} (hb : base ≤ b) (i : Nat) (v : Value) : Kp base b w (w.setCell ⟨b, i, none⟩ v) :=
  ⟨(Below.refl _ _).setCell hb _, fun k hk => Below.heap_setCell _ _ _ _ hk.1⟩
theorem Kp.of_grown {base b : Nat} {w w' : World} {v : Value} {n : Nat} {xs : List Value} (ho : w.ownsRow b 5 1 v n xs) (hg : w.grownBy w' v.ownBlock) (hB : base ≤ w.heap.size) (hbb : base ≤ b) : Kp base b w w' := by
  have key : ∀ k, v.ownBlock = some k → b ≤ k ∧ ∃ cs, w.heap[k]? = some (.cells cs 5 (0, 0)) := by
    intro k e
    rcases ho.2 with ⟨rfl, _⟩ | ⟨g, cap, cur, rfl, h1, h2, _⟩
    · simp [Value.ownBlock] at e
    · simp [Value.ownBlock] at e
      subst e
      exact ⟨h1, cur, h2⟩
  refine ⟨(Below.refl _ _).grown hg hB (fun k e => Nat.le_trans hbb (key k e).1), fun k hk => hg.block k hk.2.1 (fun e => ?_)⟩
  obtain ⟨hge, cs, h⟩ := key k e.symm
  rcases hk.2.2 with h2 | h2
  · omega
  · exact h2 _ _ h
theorem Blk.safe {w : World} {b k : Nat} {cs : Array Value} {t : TypeId} (h : Blk w k cs t) (ht : t ≠ 5) (hk : k ≠ b) : Safe w b k := by
  refine ⟨hk, h.lt, .inr fun c f e => ?_⟩
  unfold Blk at h
  rw [h] at e
  simp only [Option.some.injEq, Obj.cells.injEq] at e
  exact ht e.2.1
theorem Blk.kp {base b k : Nat} {w w' : World} {cs : Array Value} {t : TypeId} (h : Blk w k cs t) (hK : Kp base b w w') (hk : k ≠ b) (ht : t ≠ 5 := by decide) : Blk w' k cs t := by
  have e := hK.safe k (h.safe ht hk)
  unfold Blk at *
  rw [e]; exact h

def bcells (l : List UInt8) : List Value := l.map fun b => Value.int .u8 b.toNat
theorem bcells_str (l : List UInt8) : Lib.strCells ⟨l.toArray⟩ = bcells l := by simp [Lib.strCells, bcells]
theorem bcells_append (l m : List UInt8) : bcells (l ++ m) = bcells l ++ bcells m := by simp [bcells]
theorem bcells_length (l : List UInt8) : (bcells l).length = l.length := by simp [bcells]

/-- A pass that writes, and what it has written. -/
def PassAt (w : World) (base b : Nat) (out : List UInt8) : Prop :=
  ∃ v, Blk w b #[.bool false, v, .string ⟨#[]⟩] 80 ∧ w.ownsRow b 5 1 v out.length (bcells out) ∧ base ≤ b

theorem owns_below {w w' : World} {base : Nat} {e : TypeId} {size : Nat} {v : Value} {n : Nat} {xs : List Value} (h : w.ownsRow base e size v n xs) (hb : Below w.heap.size w w') : w'.ownsRow base e size v n xs := by
  obtain ⟨h1, h2⟩ := h
  refine ⟨h1, ?_⟩
  rcases h2 with h2 | ⟨g, cap, cur, e1, e2, e3, e4⟩
  · exact .inl h2
  · exact .inr ⟨g, cap, cur, e1, e2, by rw [hb.block g (Array.getElem?_eq_some_iff.1 e3).1]; exact e3, e4⟩
theorem PassAt.below {w w' : World} {base b : Nat} {out : List UInt8} (h : PassAt w base b out) (hb : Below w.heap.size w w') : PassAt w' base b out := by
  obtain ⟨v, h1, h2, h3⟩ := h
  exact ⟨v, h1.below hb h1.lt, owns_below h2 hb, h3⟩
theorem PassAt.le {w : World} {base b : Nat} {out : List UInt8} (h : PassAt w base b out) : base ≤ b ∧ b < w.heap.size := by
  obtain ⟨v, h1, h2, h3⟩ := h
  exact ⟨h3, h1.lt⟩



/-- How a walk of a pass ends: it has written, or it has given up. -/
def Wrote (base b : Nat) (o : Option (List UInt8)) (e : Ending) (w' : World) : Prop :=
  (∃ out, o = some out ∧ e = .returned (.tuple #[]) ∧ PassAt w' base b out) ∨ (o = none ∧ e = .panicked [{ v := .iface 101 (.int .i64 3), recovered := false }])
end Go.Proofs.Ytaidiomaaldphaa
