/- Is it a node of a tree, whichever? -/
import Derived.Test.YtmhllihedejehaaGreatFMem
import Derived.Test.YtmhllihedejehaaGreatM07
namespace Go.Proofs.YtmhllihedejehaaGreat
open Go.RowKit
set_option linter.unusedVariables false
set_option linter.unusedSimpArgs false

/-- A node may be one. -/
def mayN (k : Int) (key val : Key) (pos l r : Int) : Bool :=
  if k = 0 then decide (key = [] ∧ val = [] ∧ pos = 0 ∧ l = 0 ∧ r = 0)
  else if k = 1 then decide (pos = 0 ∧ l = 0 ∧ r = 0 ∧ key.length ≤ 32 ∧ val ≠ [] ∧ val.length ≤ 4096)
  else if k = 2 then decide (key = [] ∧ val = [] ∧ 0 ≤ pos ∧ pos < 288) else false
/-- A node's value. -/
def nodeVal (k : Int) (key val : Key) (pos l r : Int) : Value := .agg #[.int .i64 k, .string (str key), .string (str val), .int .i64 pos, .int .u64 l, .int .u64 r]

set_option maxRecDepth 8000 in
set_option maxHeartbeats 3200000 in
theorem mayBe_node (k : Int) (key val : Key) (pos l r : Int) (w : World) (hk : key.length ≤ maxLen) (hv : val.length ≤ maxLen) :
    Calls Tryz.prog 31 #[.agg #[.int .i64 k, .string (str key), .string (str val), .int .i64 pos, .int .u64 l, .int .u64 r]] w fun e w' => e = .returned (.bool (mayN k key val pos l r)) ∧ Below w.heap.size w w' := by
  have s1 := str_toList key
  have s2 := str_toList val
  have z1 := str_size key
  have z2 := str_size val
  have bA : Below w.heap.size w (w.alloc (.cells #[.int .i64 k, .string (str key), .string (str val), .int .i64 pos, .int .u64 l, .int .u64 r] 28)) := (Below.refl _ _).alloc (Nat.le_refl _) _
  unfold maxLen at hk hv
  by_cases h0 : k = 0
  · subst h0
    go_enter Tryz.func31, Tryz.ntmps31
    go_wp2
    all_goals
      go_ret
      refine ⟨?_, (Below.refl _ _).alloc (Nat.le_refl _) _⟩
      first
      | (simp_all [mayN]; done)
      | (simp_all [mayN]; omega)
      | (simp_all [mayN]; have e1 : decide (key.length ≤ 32) = true := by simp; omega
         rw [e1, Bool.true_and]; have e2 : decide ((val.length : Int) ≤ 4096) = decide (val.length ≤ 4096) := by congr 1; simp; omega
         cases val <;> simp_all)
  · have h0' : (k == 0) = false := by simpa using h0
    by_cases h1 : k = 1
    · subst h1
      go_enter Tryz.func31, Tryz.ntmps31
      go_wp2
      all_goals
        go_ret
        refine ⟨?_, (Below.refl _ _).alloc (Nat.le_refl _) _⟩
        first
        | (simp_all [mayN]; done)
        | (simp_all [mayN]; omega)
        | (simp_all [mayN]; have e1 : decide (key.length ≤ 32) = true := by simp; omega
           rw [e1, Bool.true_and]; have e2 : decide ((val.length : Int) ≤ 4096) = decide (val.length ≤ 4096) := by congr 1; simp; omega
           cases val <;> simp_all)
    · have h1' : (k == 1) = false := by simpa using h1
      by_cases h2 : k = 2
      · subst h2
        go_enter Tryz.func31, Tryz.ntmps31
        go_wp2
        all_goals
          go_ret
          refine ⟨?_, (Below.refl _ _).alloc (Nat.le_refl _) _⟩
          first
          | (simp_all [mayN]; done)
          | (simp_all [mayN]; omega)
          | (simp_all [mayN]; have e1 : decide (key.length ≤ 32) = true := by simp; omega
             rw [e1, Bool.true_and]; have e2 : decide ((val.length : Int) ≤ 4096) = decide (val.length ≤ 4096) := by congr 1; simp; omega
             cases val <;> simp_all)
      · have h2' : (k == 2) = false := by simpa using h2
        have hE : mayN k key val pos l r = false := by unfold mayN; rw [if_neg h0, if_neg h1, if_neg h2]
        rw [hE]
        clear hE
        go_enter Tryz.func31, Tryz.ntmps31
        go_wp2
        go_ret
        exact ⟨rfl, bA⟩
end Go.Proofs.YtmhllihedejehaaGreat
