/- The images of leaves, nodes and lists (chapter 2, D2), and what is above a list: the program's way and the answer's. -/
import Derived.Test.YtabimdlooddcoaaDigPow
import Derived.Outline
import Derived.Deep.RegionWith
import Derived.Deep.QuietTactic
import Derived.BigQuiet
namespace Go.Proofs.Ytabimdlooddcoaa
open Go.RowKit
set_option linter.unusedVariables false

def str (l : List UInt8) : ByteArray := ⟨l.toArray⟩

/-- An image as a value: its tag, its parts. -/
def Img (w : World) (tag : Int) (ss : List ByteArray) (v : Value) : Prop := ∃ a cap, v = .agg #[.int .i64 tag, .slice a ss.length cap] ∧ Strs w a ss

theorem strs_one (w : World) (s : ByteArray) (hs : s.size ≤ maxLen) : Strs (w.alloc (.cells #[.string s] 9)) (some ⟨w.heap.size, 0, none⟩) [s] := by
  refine ⟨by simpa using hs, .inr ⟨_, _, rfl, by simp, fun i hi => ?_⟩⟩
  obtain rfl : i = 0 := by simpa using hi
  simp

theorem strs_two (w : World) (s t : ByteArray) (hs : s.size ≤ maxLen) (ht : t.size ≤ maxLen) : Strs (w.alloc (.cells #[.string s, .string t] 9)) (some ⟨w.heap.size, 0, none⟩) [s, t] := by
  refine ⟨by simp [hs, ht], .inr ⟨_, _, rfl, by simp, fun i hi => ?_⟩⟩
  have : i = 0 ∨ i = 1 := by simp at hi; omega
  rcases this with rfl | rfl <;> simp

theorem size_setCell (w : World) (a : Addr) (v : Value) : (w.setCell a v).heap.size = w.heap.size := by simp [World.setCell]
theorem be5_size (n : Int) : (⟨(be n 5).toArray⟩ : ByteArray).size ≤ maxLen := by
  have h := be_len n 5
  have e : (⟨(be n 5).toArray⟩ : ByteArray).size = 5 := by simp [ByteArray.size, h]
  rw [e]; unfold maxLen; omega

/-- A new block of cells, later on: its cells, that it may be written, that it is there. -/
theorem own_kept {w w' : World} {cs : Array Value} {t : TypeId} (hb : Below (w.alloc (.cells cs t)).heap.size (w.alloc (.cells cs t)) w') :
    (∀ i, w'.cell? ⟨w.heap.size, i, none⟩ = cs[i]?) ∧ (∀ i, w'.frozen? ⟨w.heap.size, i, none⟩ = false) ∧ w.heap.size < w'.heap.size := by
  refine ⟨fun i => ?_, fun i => ?_, ?_⟩
  · rw [hb.cell (p := ⟨w.heap.size, i, none⟩) (by simp)]; simp
  · rw [hb.frozen (p := ⟨w.heap.size, i, none⟩) (by simp)]; simp
  · have := hb.size; simp at this; omega

set_option maxHeartbeats 400000 in
theorem leafI_any (s : ByteArray) (w : World) (hs : s.size ≤ maxLen) :
    Calls Try.prog 44 #[.string s] w fun e w' => ∃ v, e = .returned v ∧ Img w' 0 [s] v ∧ Below w.heap.size w w' := by
  go_enter Try.func44, Try.ntmps44
  go_wp2
  have hS := strs_one (w.alloc (.cells #[.int .i64 0, .slice (some ⟨w.heap.size + 1, 0, none⟩) 1 1] 30)) s hs
  rw [World.size_alloc] at hS
  exact bodyPost_ret (v := .agg #[.int .i64 0, .slice (some ⟨w.heap.size + 1, 0, none⟩) 1 1]) (by simp [results, Try.results44, go_sem]) rfl
    ⟨_, rfl, ⟨_, 1, rfl, hS⟩, ((Below.refl _ _).alloc (Nat.le_refl _) _).alloc (by simp) _⟩

set_option maxHeartbeats 400000 in
theorem nodeI_any (x y : Int) (w : World) (hx : 0 ≤ x ∧ x ≤ 18446744073709551615) (hy : 0 ≤ y ∧ y ≤ 18446744073709551615) :
    Calls Try.prog 45 #[.int .u64 x, .int .u64 y] w fun e w' => ∃ v, e = .returned v ∧ Img w' 1 [str (be x 8), str (be y 8)] v ∧ Below w.heap.size w w' := by
  go_enter Try.func45, Try.ntmps45
  go_wp2_with fail
  refine (weight _ _ hx).mono ?_
  rintro e w1 ⟨rfl, b1⟩
  go_wp2_with fail
  refine (weight _ _ hy).mono ?_
  rintro e w2 ⟨rfl, b2⟩
  have b12 := b1.trans (b2.mono b1.size)
  obtain ⟨kc, kf, kz⟩ := own_kept b12
  have c0 := kc 0
  have c1 := kc 1
  have f0 := kf 0
  have f1 := kf 1
  clear kc kf
  go_wp2
  have hS := strs_two ((w2.setCell ⟨w.heap.size, 0, none⟩ (.int .i64 1)).setCell ⟨w.heap.size, 1, none⟩ (.slice (some ⟨w2.heap.size, 0, none⟩) 2 2)) (str (be x 8)) (str (be y 8)) (be8_size x) (be8_size y)
  rw [size_setCell, size_setCell] at hS
  have hb : Below w.heap.size w w2 := ((Below.refl _ _).alloc (Nat.le_refl _) _).trans (b12.mono (by simp))
  exact bodyPost_ret (v := .agg #[.int .i64 1, .slice (some ⟨w2.heap.size, 0, none⟩) 2 2]) (by simp [results, Try.results45, go_sem, c0, c1, kz]) rfl
    ⟨_, rfl, ⟨_, 2, rfl, hS⟩, ((hb.setCell (Nat.le_refl _) _).setCell (Nat.le_refl _) _).alloc (by rw [size_setCell, size_setCell]; exact Nat.le_of_lt kz) _⟩

set_option maxHeartbeats 400000 in
theorem listI_any (x y : Int) (w : World) (hy : 0 ≤ y ∧ y ≤ 18446744073709551615) :
    Calls Try.prog 29 #[.int .i64 x, .int .u64 y] w fun e w' => ∃ v, e = .returned v ∧ Img w' 2 [str (be x 5), str (be y 8)] v ∧ Below w.heap.size w w' := by
  go_enter Try.func29, Try.ntmps29
  go_wp2_with fail
  refine (wfive _ _).mono ?_
  rintro e w1 ⟨rfl, b1⟩
  go_wp2_with fail
  refine (weight _ _ hy).mono ?_
  rintro e w2 ⟨rfl, b2⟩
  have b12 := b1.trans (b2.mono b1.size)
  obtain ⟨kc, kf, kz⟩ := own_kept b12
  have c0 := kc 0
  have c1 := kc 1
  have f0 := kf 0
  have f1 := kf 1
  clear kc kf
  go_wp2
  have hS := strs_two ((w2.setCell ⟨w.heap.size, 0, none⟩ (.int .i64 2)).setCell ⟨w.heap.size, 1, none⟩ (.slice (some ⟨w2.heap.size, 0, none⟩) 2 2)) (str (be x 5)) (str (be y 8)) (be5_size x) (be8_size y)
  rw [size_setCell, size_setCell] at hS
  have hb : Below w.heap.size w w2 := ((Below.refl _ _).alloc (Nat.le_refl _) _).trans (b12.mono (by simp))
  exact bodyPost_ret (v := .agg #[.int .i64 2, .slice (some ⟨w2.heap.size, 0, none⟩) 2 2]) (by simp [results, Try.results29, go_sem, c0, c1, kz]) rfl
    ⟨_, rfl, ⟨_, 2, rfl, hS⟩, ((hb.setCell (Nat.le_refl _) _).setCell (Nat.le_refl _) _).alloc (by rw [size_setCell, size_setCell]; exact Nat.le_of_lt kz) _⟩
end Go.Proofs.Ytabimdlooddcoaa
