/- Images as values: a tag, parts in memory. -/
import Derived.Test.YtmhllihedejehaaGreatDigOf
import Derived.Outline
import Derived.Deep.RegionWith
import Derived.Deep.QuietTactic
import Derived.BigQuiet
namespace Go.Proofs.YtmhllihedejehaaGreat
open Go.RowKit
set_option linter.unusedVariables false

def str (l : List UInt8) : ByteArray := ⟨l.toArray⟩

/-- An image as a value: its tag, its parts. -/
def Img (w : World) (tag : Int) (ss : List ByteArray) (v : Value) : Prop := ∃ a cap, v = .agg #[.int .i64 tag, .slice a ss.length cap] ∧ Strs w a ss

theorem strs_nil (w : World) : Strs w none [] := ⟨by simp, .inl rfl⟩
theorem strs_one (w : World) (s : ByteArray) (hs : s.size ≤ maxLen) : Strs (w.alloc (.cells #[.string s] 9)) (some ⟨w.heap.size, 0, none⟩) [s] := by
  refine ⟨by simpa using hs, .inr ⟨_, _, rfl, by simp, fun i hi => ?_⟩⟩
  obtain rfl : i = 0 := by simpa using hi
  simp
theorem strs_two (w : World) (s t : ByteArray) (hs : s.size ≤ maxLen) (ht : t.size ≤ maxLen) : Strs (w.alloc (.cells #[.string s, .string t] 9)) (some ⟨w.heap.size, 0, none⟩) [s, t] := by
  refine ⟨by simp [hs, ht], .inr ⟨_, _, rfl, by simp, fun i hi => ?_⟩⟩
  have : i = 0 ∨ i = 1 := by simp at hi; omega
  rcases this with rfl | rfl <;> simp
theorem strs_three (w : World) (s t u : ByteArray) (hs : s.size ≤ maxLen) (ht : t.size ≤ maxLen) (hu : u.size ≤ maxLen) : Strs (w.alloc (.cells #[.string s, .string t, .string u] 9)) (some ⟨w.heap.size, 0, none⟩) [s, t, u] := by
  refine ⟨by simp [hs, ht, hu], .inr ⟨_, _, rfl, by simp, fun i hi => ?_⟩⟩
  have : i = 0 ∨ i = 1 ∨ i = 2 := by simp at hi; omega
  rcases this with rfl | rfl | rfl <;> simp
theorem size_setCell (w : World) (a : Addr) (v : Value) : (w.setCell a v).heap.size = w.heap.size := by simp [World.setCell]
theorem be5_size (n : Int) : (⟨(be n 5).toArray⟩ : ByteArray).size ≤ maxLen := by
  have h := be_len n 5
  have e : (⟨(be n 5).toArray⟩ : ByteArray).size = 5 := by simp [ByteArray.size, h]
  rw [e]; unfold maxLen; omega
/-- A new block of cells, later on: its cells, that it may be written, that it is there. -/
theorem own_kept {w w' : World} {cs : Array Value} {t : TypeId} (hb : Below (w.alloc (.cells cs t)).heap.size (w.alloc (.cells cs t)) w') :
    (∀ i, w'.cell? ⟨w.heap.size, i, none⟩ = cs[i]?) ∧ (∀ i, w'.frozen? ⟨w.heap.size, i, none⟩ = false) ∧ w.heap.size < w'.heap.size := by
  refine ⟨fun i => ?_, fun i => ?_, ?_⟩
  · rw [hb.cell (p := ⟨w.heap.size, i, none⟩) (by simp)]; simp
  · rw [hb.frozen (p := ⟨w.heap.size, i, none⟩) (by simp)]; simp
  · have := hb.size; simp at this; omega
theorem Img.below {w w' : World} {tag : Int} {ss : List ByteArray} {v : Value} (h : Img w tag ss v) (hb : Below w.heap.size w w') : Img w' tag ss v := by
  obtain ⟨a, cap, e, hs⟩ := h
  exact ⟨a, cap, e, hs.below hb⟩

def Blk (w : World) (b : Nat) (cs : Array Value) (t : TypeId) : Prop := w.heap[b]? = some (.cells cs t (0, 0))

theorem Blk.lt {w : World} {b : Nat} {cs : Array Value} {t : TypeId} (h : Blk w b cs t) : b < w.heap.size := (Array.getElem?_eq_some_iff.1 h).1
theorem Blk.cell {w : World} {b : Nat} {cs : Array Value} {t : TypeId} (h : Blk w b cs t) (i : Nat) : w.cell? ⟨b, i, none⟩ = cs[i]? := by
  unfold Blk at h; simp [World.cell?, h]
theorem Blk.frozen {w : World} {b : Nat} {cs : Array Value} {t : TypeId} (h : Blk w b cs t) (i : Nat) : w.frozen? ⟨b, i, none⟩ = false := by
  unfold Blk at h; simp [World.frozen?, h]
theorem Blk.below {w w' : World} {B b : Nat} {cs : Array Value} {t : TypeId} (h : Blk w b cs t) (hb : Below B w w') (hlt : b < B) : Blk w' b cs t := by
  unfold Blk at *; rw [hb.block b hlt]; exact h
theorem Blk.grown {w w' : World} {row : Option Nat} {b : Nat} {cs : Array Value} {t : TypeId} (h : Blk w b cs t) (hg : w.grownBy w' row) (hne : row ≠ some b) : Blk w' b cs t := by
  have hl := h.lt
  unfold Blk at *; rw [hg.block b hl (fun e => hne e.symm)]; exact h
theorem Blk.drew {w : World} {b : Nat} {cs : Array Value} {t : TypeId} (h : Blk w b cs t) : Blk w.drew b cs t := h
theorem Blk.new (w : World) (cs : Array Value) (t : TypeId) : Blk (w.alloc (.cells cs t)) w.heap.size cs t := by
  show (w.heap.push _)[w.heap.size]? = _; simp
theorem Blk.alloc {w : World} {b : Nat} {cs : Array Value} {t : TypeId} (h : Blk w b cs t) (o : Obj) : Blk (w.alloc o) b cs t := by
  have hl := h.lt
  unfold Blk at *; rw [Below.heap_alloc _ _ _ hl]; exact h
theorem Blk.set {w : World} {b : Nat} {cs : Array Value} {t : TypeId} (h : Blk w b cs t) (i : Nat) (v : Value) : Blk (w.setCell ⟨b, i, none⟩ v) b (cs.setIfInBounds i v) t := by
  unfold Blk at *
  simp [World.setCell, Array.getElem?_modify, h]
theorem Blk.setOther {w : World} {b : Nat} {cs : Array Value} {t : TypeId} (h : Blk w b cs t) (a : Addr) (hne : b ≠ a.block) (v : Value) : Blk (w.setCell a v) b cs t := by
  unfold Blk at *; rw [Below.heap_setCell _ _ _ _ hne]; exact h

theorem cell_off {w : World} (a p : Addr) (v : Value) (h : a.block ≠ p.block) : (w.setCell a v).cell? p = w.cell? p := World.cell?_setCell_other _ a p _ (fun e => h (by rw [e]))
theorem strs_seti {w : World} {z : Option Addr} {ss : List ByteArray} (h : Strs w z ss) {a : Nat} {t : TypeId} {x : Int} {a1 : Option Addr} {n1 c1 : Nat} (h1 : Blk w a #[.int .i64 x, .slice a1 n1 c1] t) (u0 u1 : Value) :
    Strs ((w.setCell ⟨a, 0, none⟩ u0).setCell ⟨a, 1, none⟩ u1) z ss := by
  refine ⟨h.1, ?_⟩
  rcases h.2 with h0 | ⟨g, off, rfl, hlt, hc⟩
  · exact .inl h0
  · by_cases h0 : ss = []
    · exact .inl h0
    · have hpos : 0 < ss.length := List.length_pos_iff.2 h0
      have hf := hc 0 hpos
      have ha : g ≠ a := fun e => by
        subst e
        rw [h1.cell] at hf
        rcases Nat.lt_or_ge (off + 0) 2 with hh | hh
        · have : off + 0 = 0 ∨ off + 0 = 1 := by omega
          rcases this with e | e <;> rw [e] at hf <;> simp at hf
        · rw [Array.getElem?_eq_none (by simpa using hh)] at hf; cases hf
      refine .inr ⟨g, off, rfl, by simp only [size_setCell]; exact hlt, fun i hi => ?_⟩
      rw [cell_off _ _ _ (by exact Ne.symm ha), cell_off _ _ _ (by exact Ne.symm ha)]
      exact hc i hi
theorem blk_seti {w : World} {a : Nat} {t : TypeId} {x y : Value} (h1 : Blk w a #[x, y] t) (u0 u1 : Value) :
    Blk ((w.setCell ⟨a, 0, none⟩ u0).setCell ⟨a, 1, none⟩ u1) a #[u0, u1] t := (h1.set 0 u0).set 1 u1
theorem blk_setother {w : World} {a b : Nat} {t : TypeId} {cs : Array Value} (hab : b ≠ a) (h1 : Blk w b cs t) (u0 u1 : Value) :
    Blk ((w.setCell ⟨a, 0, none⟩ u0).setCell ⟨a, 1, none⟩ u1) b cs t := (h1.setOther ⟨a, 0, none⟩ hab u0).setOther ⟨a, 1, none⟩ hab u1
theorem strs_alloc {w : World} {z : Option Addr} {ss : List ByteArray} (h : Strs w z ss) (o : Obj) : Strs (w.alloc o) z ss := h.below ((Below.refl _ _).alloc (Nat.le_refl _) o)

/-- An image that was stored in a result's own variable. -/
theorem img_stored {w w1 : World} {R : Nat} {tag : Int} {ss : List ByteArray} {a : Option Addr} {cap : Nat} (hR : w.heap.size ≤ R) (kR : Blk w1 R #[.int .i64 0, .slice none 0 0] 76) (hb : Below w.heap.size w w1) (hs : Strs w1 a ss) :
    Img ((w1.setCell ⟨R, 0, none⟩ (.int .i64 tag)).setCell ⟨R, 1, none⟩ (.slice a ss.length cap)) tag ss (.agg #[.int .i64 tag, .slice a ss.length cap]) ∧ Below w.heap.size w ((w1.setCell ⟨R, 0, none⟩ (.int .i64 tag)).setCell ⟨R, 1, none⟩ (.slice a ss.length cap)) ∧
    ((w1.setCell ⟨R, 0, none⟩ (.int .i64 tag)).setCell ⟨R, 1, none⟩ (.slice a ss.length cap)).cell? ⟨R, 0, none⟩ = some (.int .i64 tag) ∧ ((w1.setCell ⟨R, 0, none⟩ (.int .i64 tag)).setCell ⟨R, 1, none⟩ (.slice a ss.length cap)).cell? ⟨R, 1, none⟩ = some (.slice a ss.length cap) := by
  have k := blk_seti kR (.int .i64 tag) (.slice a ss.length cap)
  refine ⟨⟨a, cap, rfl, strs_seti hs kR _ _⟩, (hb.setCell hR _).setCell hR _, ?_, ?_⟩
  · rw [k.cell 0]; rfl
  · rw [k.cell 1]; rfl

theorem imgDig_any (wd tag : Int) (ss : List ByteArray) (v : Value) (w : World) (hw : -9223372036854775808 ≤ wd ∧ wd ≤ 9223372036854775807) (hm : ss.length ≤ maxLen) (hv : Img w tag ss v) :
    Calls Tryz.prog 26 #[.int .i64 wd, v] w fun e w' => e = .returned (.int .u64 (ofP wd tag ss)) ∧ Below w.heap.size w w' := by
  obtain ⟨a, cap, rfl, hs⟩ := hv
  go_enter Tryz.func26, Tryz.ntmps26
  go_wp2_with fail
  refine (rof_any wd tag a ss.length cap ss _ hw rfl hm (hs.below ((Below.refl _ _).alloc (Nat.le_refl _) _))).mono ?_
  rintro e w1 ⟨rfl, b1⟩
  go_wp2
  go_ret
  exact ⟨rfl, ((Below.refl _ _).alloc (Nat.le_refl _) _).trans (b1.mono (by simp))⟩

theorem ofImg_any (wd tag : Int) (ss : List ByteArray) (v : Value) (w : World) (hw : -9223372036854775808 ≤ wd ∧ wd ≤ 9223372036854775807) (hm : ss.length ≤ maxLen) (hv : Img w tag ss v) :
    Calls Tryz.prog 42 #[.int .i64 wd, v] w fun e w' => e = .returned (.int .u64 (ofP wd tag ss)) ∧ Below w.heap.size w w' := by
  obtain ⟨a, cap, rfl, hs⟩ := hv
  exact ofImage_any wd tag a ss.length cap ss w hw rfl hm hs
end Go.Proofs.YtmhllihedejehaaGreat
