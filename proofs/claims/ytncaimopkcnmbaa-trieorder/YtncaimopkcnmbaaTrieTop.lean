/- The digest of a whole tree with a node above all (chapter 3, T3, T4): the program's and the answer's. -/
import Derived.Test.YtncaimopkcnmbaaTrieImg
namespace Go.Proofs.Ytncaimopkcnmbaa
open Go.RowKit
set_option linter.unusedVariables false

set_option maxHeartbeats 400000 in
theorem whole_none (d : Int) (w : World) :
    Calls Try.prog 33 #[.int .u64 d, .bool false] w fun e w' => ∃ v, e = .returned v ∧ Img w' 5 [] v ∧ Below w.heap.size w w' := by
  go_enter Try.func33, Try.ntmps33
  go_wp2
  exact bodyPost_ret (v := .agg #[.int .i64 5, .slice none 0 0]) (by simp [results, Try.results33, go_sem]) rfl
    ⟨_, rfl, ⟨_, 0, rfl, strs_nil _⟩, (Below.refl _ _).alloc (Nat.le_refl _) _⟩

set_option maxHeartbeats 400000 in
theorem whole_some (x : Int) (w : World) (hx : 0 ≤ x ∧ x ≤ 18446744073709551615) :
    Calls Try.prog 33 #[.int .u64 x, .bool true] w fun e w' => ∃ v, e = .returned v ∧ Img w' 5 [str (be x 8)] v ∧ Below w.heap.size w w' := by
  go_enter Try.func33, Try.ntmps33
  go_wp2_with fail
  refine (reight _ _ hx).mono ?_
  rintro e w2 ⟨rfl, b12⟩
  obtain ⟨kc, kf, kz⟩ := own_kept b12
  have c0 := kc 0
  have c1 := kc 1
  have f0 := kf 0
  have f1 := kf 1
  clear kc kf
  go_wp2
  have hS := strs_one ((w2.setCell ⟨w.heap.size, 0, none⟩ (.int .i64 5)).setCell ⟨w.heap.size, 1, none⟩ (.slice (some ⟨w2.heap.size, 0, none⟩) 1 1)) (str (be x 8)) (be8_size x)
  rw [size_setCell, size_setCell] at hS
  have hb : Below w.heap.size w w2 := ((Below.refl _ _).alloc (Nat.le_refl _) _).trans (b12.mono (by simp))
  exact bodyPost_ret (v := .agg #[.int .i64 5, .slice (some ⟨w2.heap.size, 0, none⟩) 1 1]) (by simp [results, Try.results33, go_sem, c0, c1, kz]) rfl
    ⟨_, rfl, ⟨_, 1, rfl, hS⟩, ((hb.setCell (Nat.le_refl _) _).setCell (Nat.le_refl _) _).alloc (by rw [size_setCell, size_setCell]; exact Nat.le_of_lt kz) _⟩

set_option maxHeartbeats 800000 in
theorem top_any (wd kind : Int) (key value : ByteArray) (pos l r : Int) (w : World) (hw : -9223372036854775808 ≤ wd ∧ wd ≤ 9223372036854775807) (hk : key.size ≤ maxLen) (hv : value.size ≤ maxLen) (hl : 0 ≤ l ∧ l ≤ 18446744073709551615) (hr : 0 ≤ r ∧ r ≤ 18446744073709551615) :
    Calls Try.prog 15 #[.int .i64 wd, .agg #[.int .i64 kind, .string key, .string value, .int .i64 pos, .int .u64 l, .int .u64 r]] w fun e w' => e = .returned (.int .u64 (wholeP wd kind key value pos l r)) ∧ Below w.heap.size w w' := by
  by_cases h : kind = 0
  · subst h
    go_enter Try.func15, Try.ntmps15
    go_wp2_with fail
    refine (bareI_any _).mono ?_
    rintro e w1 ⟨v, rfl, ⟨a, cap, rfl, hs⟩, b1⟩
    go_wp2_with fail
    refine (ofImg_any wd 5 [] _ _ hw (Nat.zero_le _) ⟨a, cap, rfl, hs⟩).mono ?_
    rintro e w2 ⟨rfl, b2⟩
    go_wp2
    go_ret
    have hb : Below w.heap.size w w1 := ((Below.refl _ _).alloc (Nat.le_refl _) _).trans (b1.mono (by simp))
    exact ⟨rfl, hb.trans (b2.mono hb.size)⟩
  · have h' : (kind == 0) = false := by simpa using h
    have e1 : wholeP wd kind key value pos l r = ofP wd 5 [str (be (overP wd kind key value pos l r) 8)] := if_neg h
    rw [e1]
    clear e1
    go_enter Try.func15, Try.ntmps15
    go_wp2_with fail
    refine (over_any wd kind key value pos l r _ hw hk hv hl hr).mono ?_
    rintro e w0 ⟨rfl, b0⟩
    have hb0 : Below w.heap.size w w0 := ((Below.refl _ _).alloc (Nat.le_refl _) _).trans (b0.mono (by simp))
    go_wp2_with fail
    refine (treeI_any _ _ (overP_bd _ _ _ _ _ _ _)).mono ?_
    rintro e w1 ⟨v, rfl, ⟨a, cap, rfl, hs⟩, b1⟩
    have hb1 := hb0.trans (b1.mono hb0.size)
    go_wp2_with fail
    refine (ofImg_any wd 5 [str (be (overP wd kind key value pos l r) 8)] _ _ hw (by unfold maxLen; simp) ⟨a, cap, rfl, hs⟩).mono ?_
    rintro e w2 ⟨rfl, b2⟩
    go_wp2
    go_ret
    exact ⟨rfl, hb1.trans (b2.mono hb1.size)⟩

set_option maxHeartbeats 1600000 in
theorem rtop_any (wd kind : Int) (key value : ByteArray) (pos l r : Int) (w : World) (hw : -9223372036854775808 ≤ wd ∧ wd ≤ 9223372036854775807) (hp : -9223372036854775808 ≤ pos ∧ pos ≤ 9223372036854775807) (hk : key.size ≤ maxLen) (hv : value.size ≤ maxLen) (hl : 0 ≤ l ∧ l ≤ 18446744073709551615) (hr : 0 ≤ r ∧ r ≤ 18446744073709551615) :
    Calls Try.prog 16 #[.int .i64 wd, .agg #[.int .i64 kind, .string key, .string value, .int .i64 pos, .int .u64 l, .int .u64 r]] w fun e w' => e = .returned (.int .u64 (wholeP wd kind key value pos l r)) ∧ Below w.heap.size w w' := by
  by_cases h : kind = 0
  · subst h
    go_enter Try.func16, Try.ntmps16
    go_wp2_with fail
    refine (whole_none _ _).mono ?_
    rintro e w1 ⟨v, rfl, ⟨a, cap, rfl, hs⟩, b1⟩
    have kN := (Blk.new w #[.int .i64 0, .string key, .string value, .int .i64 pos, .int .u64 l, .int .u64 r] 46).below b1 (by simp)
    have c0 := kN.cell 0
    have hz := kN.lt
    simp only [List.getElem?_toArray, List.getElem?_cons_zero] at c0
    have hb1 : Below w.heap.size w w1 := ((Below.refl _ _).alloc (Nat.le_refl _) _).trans (b1.mono (by simp))
    go_wp2_with fail
    refine (imgDig_any wd 5 [] _ _ hw (Nat.zero_le _) ⟨a, cap, rfl, strs_alloc hs _⟩).mono ?_
    rintro e w2 ⟨rfl, b2⟩
    have hb2 := hb1.alloc hb1.size (.cells #[.int .i64 5, .slice a 0 cap] 63)
    go_wp2
    go_ret
    exact ⟨rfl, hb2.trans (b2.mono hb2.size)⟩
  · have h' : (kind != 0) = true := by simpa using h
    have e1 : wholeP wd kind key value pos l r = ofP wd 5 [str (be (overP wd kind key value pos l r) 8)] := if_neg h
    rw [e1]
    clear e1
    go_enter Try.func16, Try.ntmps16
    go_wp2_with fail
    refine (whole_none _ _).mono ?_
    rintro e w1 ⟨v, rfl, ⟨a, cap, rfl, hs⟩, b1⟩
    have kN := (Blk.new w #[.int .i64 kind, .string key, .string value, .int .i64 pos, .int .u64 l, .int .u64 r] 46).below b1 (by simp)
    have hb1 : Below w.heap.size w w1 := ((Below.refl _ _).alloc (Nat.le_refl _) _).trans (b1.mono (by simp))
    have hz := kN.lt
    have c0 := kN.cell 0
    have c1 := kN.cell 1
    have c2 := kN.cell 2
    have c3 := kN.cell 3
    have c4 := kN.cell 4
    have c5 := kN.cell 5
    simp only [List.getElem?_toArray, List.getElem?_cons_succ, List.getElem?_cons_zero] at c0 c1 c2 c3 c4 c5
    go_wp2_with fail
    refine (rover_any wd kind key value pos l r _ hw hp hk hv hl hr).mono ?_
    rintro e w3 ⟨rfl, b3⟩
    have kI := (Blk.new w1 #[.int .i64 5, .slice a 0 cap] 63).below b3 (by simp)
    have hb2 := hb1.alloc hb1.size (.cells #[.int .i64 5, .slice a 0 cap] 63)
    have hb3 := hb2.trans (b3.mono hb2.size)
    go_wp2_with fail
    refine (whole_some _ _ (overP_bd _ _ _ _ _ _ _)).mono ?_
    rintro e w4 ⟨v, rfl, ⟨a4, cap4, rfl, hs4⟩, b4⟩
    have kI4 := kI.below b4 kI.lt
    have hb4 := hb3.trans (b4.mono hb3.size)
    have i0 := kI4.cell 0
    have i1 := kI4.cell 1
    have f0 := kI4.frozen 0
    have f1 := kI4.frozen 1
    have hz1 := kI4.lt
    simp only [List.getElem?_toArray, List.getElem?_cons_succ, List.getElem?_cons_zero] at i0 i1
    have k5 := blk_seti kI4 (.int .i64 5) (.slice a4 1 cap4)
    have j0 := k5.cell 0
    have j1 := k5.cell 1
    simp only [List.getElem?_toArray, List.getElem?_cons_succ, List.getElem?_cons_zero] at j0 j1
    have hs5 := strs_seti hs4 kI4 (.int .i64 5) (.slice a4 1 cap4)
    have hb5 := (hb4.setCell (p := ⟨w1.heap.size, 0, none⟩) hb1.size (.int .i64 5)).setCell (p := ⟨w1.heap.size, 1, none⟩) hb1.size (.slice a4 1 cap4)
    go_wp2_with fail
    refine (imgDig_any wd 5 [str (be (overP wd kind key value pos l r) 8)] _ _ hw (by unfold maxLen; simp) ⟨a4, cap4, rfl, hs5⟩).mono ?_
    rintro e w6 ⟨rfl, b6⟩
    go_wp2
    go_ret
    exact ⟨rfl, hb5.trans (b6.mono hb5.size)⟩
end Go.Proofs.Ytncaimopkcnmbaa
