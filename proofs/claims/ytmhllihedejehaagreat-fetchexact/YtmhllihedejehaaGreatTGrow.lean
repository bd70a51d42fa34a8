/- The tree of some items, and the answer's. -/
import Derived.Test.YtmhllihedejehaaGreatTRPut2
namespace Go.Proofs.YtmhllihedejehaaGreat
open Go.RowKit
set_option linter.unusedVariables false
set_option linter.unusedSimpArgs false

/-- Neither is too long. -/
def short (x : Key × Key) : Bool := decide (x.1.length ≤ 32) && decide (x.2.length ≤ 4096)
/-- What is put, one behind the other. -/
def growO (o : Option Tr) (x : Key × Key) : Option Tr := if short x then putO x.1 x.2 o else o
theorem growO_good {o : Option Tr} (h : Good o) (x : Key × Key) : Good (growO o x) := by
  unfold growO
  split
  · rename_i hs
    simp only [short, Bool.and_eq_true, decide_eq_true_eq] at hs
    exact (putO_spec x.1 x.2 o h hs.1 hs.2).1
  · exact h
theorem putGo_len (key value : Key) : ∀ (l : List (Key × Key)), (putGo key value true l).length ≤ l.length ∧ (putGo key value false l).length ≤ l.length + 1
  | [] => by simp [putGo]
  | x :: xs => by
    have h := putGo_len key value xs
    have hx : ∀ (b : Bool), (if b then ([] : List (Key × Key)) else [x]).length ≤ 1 := fun b => by cases b <;> simp
    refine ⟨?_, ?_⟩
    · simp only [putGo, Bool.not_true, Bool.false_and, Bool.false_eq_true, if_false, List.nil_append, Bool.true_or, List.length_append, List.length_cons]
      have := hx (x.1 == key)
      omega
    · simp only [putGo, Bool.not_false, Bool.true_and, Bool.false_or, List.length_append, List.length_cons]
      have := hx (x.1 == key)
      by_cases hle : (Op.bytesLess key x.1 || key == x.1) = true
      · simp only [hle, if_true, List.length_cons, List.length_nil]; omega
      · have hf : (Op.bytesLess key x.1 || key == x.1) = false := by simpa using hle
        simp only [hf, Bool.false_eq_true, if_false, List.length_nil]; omega

theorem bel_alloc {B : Nat} {w w' : World} (h : Below B w w') (hB : B ≤ w.heap.size) (o : Obj) : Below B w (w'.alloc o) := h.alloc (Nat.le_trans hB h.size) o

/-- What Put leaves in a variable of its own. -/
def PutIn (wr : World) (wd : Int) (o : Option Tr) (xv : Value) (wx : World) : Prop := ∃ b9 q, xv = .pointer (some ⟨b9, 0, none⟩) ∧ wr.heap.size ≤ b9 ∧ Blk wx b9 #[.int .i64 wd, .pointer q] 34 ∧ TopAt wd wx (.pointer q) o ∧ Below wr.heap.size wr wx

theorem PutIn.late {wr w3 : World} {wd : Int} {o : Option Tr} {q : Option Addr} (h : TopAt wd w3 (.pointer q) o) (hb : Below wr.heap.size wr w3) :
    PutIn wr wd o (.pointer (some ⟨w3.heap.size, 0, none⟩)) (w3.alloc (.cells #[.int .i64 wd, .pointer q] 34)) :=
  ⟨_, q, rfl, hb.size, Blk.new _ _ _, TopAt.below ((Below.refl _ _).alloc (Nat.le_refl _) _) h, hb.alloc hb.size _⟩
end Go.Proofs.YtmhllihedejehaaGreat
