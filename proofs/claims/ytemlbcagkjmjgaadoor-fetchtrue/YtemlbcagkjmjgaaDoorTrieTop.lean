/- The digest of a whole tree with a node above all (chapter 3, T3, T4): the program's and the answer's. -/
import Derived.Test.YtemlbcagkjmjgaaDoorTrieImg
namespace Go.Proofs.YtemlbcagkjmjgaaDoor
open Go.RowKit
set_option linter.unusedVariables false





set_option maxHeartbeats 800000 in
theorem top_any (wd kind : Int) (key value : ByteArray) (pos l r : Int) (w : World) (hw : -9223372036854775808 ≤ wd ∧ wd ≤ 9223372036854775807) (hk : key.size ≤ maxLen) (hv : value.size ≤ maxLen) (hl : 0 ≤ l ∧ l ≤ 18446744073709551615) (hr : 0 ≤ r ∧ r ≤ 18446744073709551615) :
    Calls Tryd.prog 14 #[.int .i64 wd, .agg #[.int .i64 kind, .string key, .string value, .int .i64 pos, .int .u64 l, .int .u64 r]] w fun e w' => e = .returned (.int .u64 (wholeP wd kind key value pos l r)) ∧ Below w.heap.size w w' := by
  by_cases h : kind = 0
  · subst h
    go_enter Tryd.func14, Tryd.ntmps14
    go_wp2_with fail
    refine (bareI_any _).mono ?_
    rintro e w1 ⟨v, rfl, ⟨a, cap, rfl, hs⟩, b1⟩
    go_wp2_with fail
    refine (ofImg_any wd 5 [] _ _ hw (Nat.zero_le _) ⟨a, cap, rfl, hs⟩).mono ?_
    rintro e w2 ⟨rfl, b2⟩
    go_wp2
    go_ret
    have hb : Below w.heap.size w w1 := ((Below.refl _ _).alloc (Nat.le_refl _) _).trans (b1.mono (by simp))
    exact ⟨rfl, hb.trans (b2.mono hb.size)⟩
  · have h' : (kind == 0) = false := by simpa using h
    have e1 : wholeP wd kind key value pos l r = ofP wd 5 [str (be (overP wd kind key value pos l r) 8)] := if_neg h
    rw [e1]
    clear e1
    go_enter Tryd.func14, Tryd.ntmps14
    go_wp2_with fail
    refine (over_any wd kind key value pos l r _ hw hk hv hl hr).mono ?_
    rintro e w0 ⟨rfl, b0⟩
    have hb0 : Below w.heap.size w w0 := ((Below.refl _ _).alloc (Nat.le_refl _) _).trans (b0.mono (by simp))
    go_wp2_with fail
    refine (treeI_any _ _ (overP_bd _ _ _ _ _ _ _)).mono ?_
    rintro e w1 ⟨v, rfl, ⟨a, cap, rfl, hs⟩, b1⟩
    have hb1 := hb0.trans (b1.mono hb0.size)
    go_wp2_with fail
    refine (ofImg_any wd 5 [str (be (overP wd kind key value pos l r) 8)] _ _ hw (by unfold maxLen; simp) ⟨a, cap, rfl, hs⟩).mono ?_
    rintro e w2 ⟨rfl, b2⟩
    go_wp2
    go_ret
    exact ⟨rfl, hb1.trans (b2.mono hb1.size)⟩


end Go.Proofs.YtemlbcagkjmjgaaDoor
