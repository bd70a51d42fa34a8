/- A block of cells that is known whole, and what becomes of it. -/
import Derived.Test.YtabimdlooddcoaaDigTurns
namespace Go.Proofs.Ytabimdlooddcoaa
open Go.RowKit
set_option linter.unusedVariables false

def Blk (w : World) (b : Nat) (cs : Array Value) (t : TypeId) : Prop := w.heap[b]? = some (.cells cs t (0, 0))

theorem Blk.lt {w : World} {b : Nat} {cs : Array Value} {t : TypeId} (h : Blk w b cs t) : b < w.heap.size := (Array.getElem?_eq_some_iff.1 h).1
theorem Blk.cell {w : World} {b : Nat} {cs : Array Value} {t : TypeId} (h : Blk w b cs t) (i : Nat) : w.cell? ⟨b, i, none⟩ = cs[i]? := by
  unfold Blk at h; simp [World.cell?, h]
theorem Blk.frozen {w : World} {b : Nat} {cs : Array Value} {t : TypeId} (h : Blk w b cs t) (i : Nat) : w.frozen? ⟨b, i, none⟩ = false := by
  unfold Blk at h; simp [World.frozen?, h]
theorem Blk.below {w w' : World} {B b : Nat} {cs : Array Value} {t : TypeId} (h : Blk w b cs t) (hb : Below B w w') (hlt : b < B) : Blk w' b cs t := by
  unfold Blk at *; rw [hb.block b hlt]; exact h
theorem Blk.grown {w w' : World} {row : Option Nat} {b : Nat} {cs : Array Value} {t : TypeId} (h : Blk w b cs t) (hg : w.grownBy w' row) (hne : row ≠ some b) : Blk w' b cs t := by
  have hl := h.lt
  unfold Blk at *; rw [hg.block b hl (fun e => hne e.symm)]; exact h
theorem Blk.drew {w : World} {b : Nat} {cs : Array Value} {t : TypeId} (h : Blk w b cs t) : Blk w.drew b cs t := h
theorem Blk.new (w : World) (cs : Array Value) (t : TypeId) : Blk (w.alloc (.cells cs t)) w.heap.size cs t := by
  show (w.heap.push _)[w.heap.size]? = _; simp
theorem Blk.alloc {w : World} {b : Nat} {cs : Array Value} {t : TypeId} (h : Blk w b cs t) (o : Obj) : Blk (w.alloc o) b cs t := by
  have hl := h.lt
  unfold Blk at *; rw [Below.heap_alloc _ _ _ hl]; exact h
theorem Blk.set {w : World} {b : Nat} {cs : Array Value} {t : TypeId} (h : Blk w b cs t) (i : Nat) (v : Value) : Blk (w.setCell ⟨b, i, none⟩ v) b (cs.setIfInBounds i v) t := by
  unfold Blk at *
  simp [World.setCell, Array.getElem?_modify, h]
theorem Blk.setOther {w : World} {b : Nat} {cs : Array Value} {t : TypeId} (h : Blk w b cs t) (a : Addr) (hne : b ≠ a.block) (v : Value) : Blk (w.setCell a v) b cs t := by
  unfold Blk at *; rw [Below.heap_setCell _ _ _ _ hne]; exact h

def sidesF : Nat → Int → List ByteArray → Nat → List Int
  | 0, _, _, _ => []
  | f + 1, w, ss, i => if ss.length ≤ 1 then [] else
      if firstP ss.length ≤ i then aboveP w (ss.take (firstP ss.length)) :: sidesF f w (ss.drop (firstP ss.length)) (i - firstP ss.length)
      else aboveP w (ss.drop (firstP ss.length)) :: sidesF f w (ss.take (firstP ss.length)) i
def sidesP (w : Int) (ss : List ByteArray) (i : Nat) : List Int := sidesF ss.length w ss i
theorem sidesF_fuel (w : Int) : ∀ (f g : Nat) (ss : List ByteArray) (i : Nat), ss.length ≤ f → ss.length ≤ g → sidesF f w ss i = sidesF g w ss i := by
  intro f
  induction f with
  | zero =>
    intro g ss i h1 h2
    cases g with
    | zero => rfl
    | succ g => simp only [sidesF]; rw [if_pos (by omega)]
  | succ f ih =>
    intro g ss i h1 h2
    by_cases h : ss.length ≤ 1
    · cases g with
      | zero => simp only [sidesF]; rw [if_pos h]
      | succ g => simp only [sidesF]; rw [if_pos h, if_pos h]
    · cases g with
      | zero => omega
      | succ g =>
        have hs := firstP_spec ss.length (by omega)
        simp only [sidesF]
        rw [if_neg h, if_neg h, ih g (ss.drop (firstP ss.length)) _ (by simp; omega) (by simp; omega), ih g (ss.take (firstP ss.length)) _ (by simp; omega) (by simp; omega)]
theorem sidesP_one (w : Int) (ss : List ByteArray) (i : Nat) (h : ss.length ≤ 1) : sidesP w ss i = [] := by
  unfold sidesP
  generalize hn : ss.length = n at *
  cases n with
  | zero => rfl
  | succ n => simp only [sidesF]; rw [if_pos (by omega)]
theorem sidesP_right (w : Int) (ss : List ByteArray) (i : Nat) (h : 2 ≤ ss.length) (hi : firstP ss.length ≤ i) :
    sidesP w ss i = aboveP w (ss.take (firstP ss.length)) :: sidesP w (ss.drop (firstP ss.length)) (i - firstP ss.length) := by
  have hs := firstP_spec ss.length h
  have h1 : sidesP w ss i = sidesF ((ss.length - 1) + 1) w ss i := sidesF_fuel w _ _ ss i (Nat.le_refl _) (by omega)
  rw [h1]; simp only [sidesF]
  rw [if_neg (by omega), if_pos hi]
  rw [sidesF_fuel w (ss.length - 1) (ss.drop (firstP ss.length)).length _ _ (by simp; omega) (Nat.le_refl _)]; rfl
theorem sidesP_left (w : Int) (ss : List ByteArray) (i : Nat) (h : 2 ≤ ss.length) (hi : ¬ firstP ss.length ≤ i) :
    sidesP w ss i = aboveP w (ss.drop (firstP ss.length)) :: sidesP w (ss.take (firstP ss.length)) i := by
  have hs := firstP_spec ss.length h
  have h1 : sidesP w ss i = sidesF ((ss.length - 1) + 1) w ss i := sidesF_fuel w _ _ ss i (Nat.le_refl _) (by omega)
  rw [h1]; simp only [sidesF]
  rw [if_neg (by omega), if_neg hi]
  rw [sidesF_fuel w (ss.length - 1) (ss.take (firstP ss.length)).length _ _ (by simp; omega) (Nat.le_refl _)]; rfl
end Go.Proofs.Ytabimdlooddcoaa
