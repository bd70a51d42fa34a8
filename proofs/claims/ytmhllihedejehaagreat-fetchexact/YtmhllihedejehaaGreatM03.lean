/- The images of a tree's nodes, and their digests (chapter 3, T4): the program's and the answer's. -/
import Derived.Test.YtmhllihedejehaaGreatImg

namespace Go.Proofs.YtmhllihedejehaaGreat
open Go.RowKit
set_option linter.unusedVariables false

def forkParts (pos l r : Int) : List ByteArray := [str (be pos 5), str (be l 8), str (be r 8)]
def overP (w kind : Int) (key value : ByteArray) (pos l r : Int) : Int := if kind = 2 then ofP w 4 (forkParts pos l r) else ofP w 3 [key, value]
def wholeP (w kind : Int) (key value : ByteArray) (pos l r : Int) : Int := if kind = 0 then ofP w 5 [] else ofP w 5 [str (be (overP w kind key value pos l r) 8)]

theorem overP_bd (w kind : Int) (key value : ByteArray) (pos l r : Int) : 0 ≤ overP w kind key value pos l r ∧ overP w kind key value pos l r ≤ 18446744073709551615 := by
  unfold overP; split <;> exact ofP_bd _ _ _

theorem bareI_any (w : World) :
    Calls Tryz.prog 43 #[] w fun e w' => ∃ v, e = .returned v ∧ Img w' 5 [] v ∧ Below w.heap.size w w' := by
  go_enter Tryz.func43, Tryz.ntmps43
  go_wp2
  exact bodyPost_ret (v := .agg #[.int .i64 5, .slice none 0 0]) (by simp [results, Tryz.results43, go_sem]) rfl
    ⟨_, rfl, ⟨_, 0, rfl, strs_nil _⟩, (Below.refl _ _).alloc (Nat.le_refl _) _⟩

set_option maxHeartbeats 400000 in
theorem treeI_any (x : Int) (w : World) (hx : 0 ≤ x ∧ x ≤ 18446744073709551615) :
    Calls Tryz.prog 44 #[.int .u64 x] w fun e w' => ∃ v, e = .returned v ∧ Img w' 5 [str (be x 8)] v ∧ Below w.heap.size w w' := by
  go_enter Tryz.func44, Tryz.ntmps44
  go_wp2_with fail
  refine (weight _ _ hx).mono ?_
  rintro e w2 ⟨rfl, b12⟩
  obtain ⟨kc, kf, kz⟩ := own_kept b12
  have c0 := kc 0
  have c1 := kc 1
  have f0 := kf 0
  have f1 := kf 1
  clear kc kf
  go_wp2
  have hS := strs_one ((w2.setCell ⟨w.heap.size, 0, none⟩ (.int .i64 5)).setCell ⟨w.heap.size, 1, none⟩ (.slice (some ⟨w2.heap.size, 0, none⟩) 1 1)) (str (be x 8)) (be8_size x)
  rw [size_setCell, size_setCell] at hS
  have hb : Below w.heap.size w w2 := ((Below.refl _ _).alloc (Nat.le_refl _) _).trans (b12.mono (by simp))
  exact bodyPost_ret (v := .agg #[.int .i64 5, .slice (some ⟨w2.heap.size, 0, none⟩) 1 1]) (by simp [results, Tryz.results44, go_sem, c0, c1, kz]) rfl
    ⟨_, rfl, ⟨_, 1, rfl, hS⟩, ((hb.setCell (Nat.le_refl _) _).setCell (Nat.le_refl _) _).alloc (by rw [size_setCell, size_setCell]; exact Nat.le_of_lt kz) _⟩

set_option maxHeartbeats 400000 in
theorem entryI_any (s t : ByteArray) (w : World) (hs : s.size ≤ maxLen) (ht : t.size ≤ maxLen) :
    Calls Tryz.prog 89 #[.string s, .string t] w fun e w' => ∃ v, e = .returned v ∧ Img w' 3 [s, t] v ∧ Below w.heap.size w w' := by
  go_enter Tryz.func89, Tryz.ntmps89
  go_wp2
  have hS := strs_two (w.alloc (.cells #[.int .i64 3, .slice (some ⟨w.heap.size + 1, 0, none⟩) 2 2] 76)) s t hs ht
  rw [World.size_alloc] at hS
  exact bodyPost_ret (v := .agg #[.int .i64 3, .slice (some ⟨w.heap.size + 1, 0, none⟩) 2 2]) (by simp [results, Tryz.results89, go_sem]) rfl
    ⟨_, rfl, ⟨_, 2, rfl, hS⟩, ((Below.refl _ _).alloc (Nat.le_refl _) _).alloc (by simp) _⟩

set_option maxHeartbeats 800000 in
theorem forkI_any (p x y : Int) (w : World) (hx : 0 ≤ x ∧ x ≤ 18446744073709551615) (hy : 0 ≤ y ∧ y ≤ 18446744073709551615) :
    Calls Tryz.prog 88 #[.int .i64 p, .int .u64 x, .int .u64 y] w fun e w' => ∃ v, e = .returned v ∧ Img w' 4 (forkParts p x y) v ∧ Below w.heap.size w w' := by
  go_enter Tryz.func88, Tryz.ntmps88
  go_wp2_with fail
  refine (wfive _ _).mono ?_
  rintro e w0 ⟨rfl, b0⟩
  go_wp2_with fail
  refine (weight _ _ hx).mono ?_
  rintro e w1 ⟨rfl, b1⟩
  go_wp2_with fail
  refine (weight _ _ hy).mono ?_
  rintro e w2 ⟨rfl, b2⟩
  have b01 := b0.trans (b1.mono b0.size)
  have b12 := b01.trans (b2.mono b01.size)
  obtain ⟨kc, kf, kz⟩ := own_kept b12
  have c0 := kc 0
  have c1 := kc 1
  have f0 := kf 0
  have f1 := kf 1
  clear kc kf
  go_wp2
  have hS := strs_three ((w2.setCell ⟨w.heap.size, 0, none⟩ (.int .i64 4)).setCell ⟨w.heap.size, 1, none⟩ (.slice (some ⟨w2.heap.size, 0, none⟩) 3 3)) (str (be p 5)) (str (be x 8)) (str (be y 8)) (be5_size p) (be8_size x) (be8_size y)
  rw [size_setCell, size_setCell] at hS
  have hb : Below w.heap.size w w2 := ((Below.refl _ _).alloc (Nat.le_refl _) _).trans (b12.mono (by simp))
  exact bodyPost_ret (v := .agg #[.int .i64 4, .slice (some ⟨w2.heap.size, 0, none⟩) 3 3]) (by simp [results, Tryz.results88, go_sem, c0, c1, kz]) rfl
    ⟨_, rfl, ⟨_, 3, rfl, hS⟩, ((hb.setCell (Nat.le_refl _) _).setCell (Nat.le_refl _) _).alloc (by rw [size_setCell, size_setCell]; exact Nat.le_of_lt kz) _⟩

/-- The image of a node. -/
def nodeTag (kind : Int) : Int := if kind = 2 then 4 else 3
def nodePs (kind : Int) (key value : ByteArray) (pos l r : Int) : List ByteArray := if kind = 2 then forkParts pos l r else [key, value]
theorem overP_eq (w kind : Int) (key value : ByteArray) (pos l r : Int) : overP w kind key value pos l r = ofP w (nodeTag kind) (nodePs kind key value pos l r) := by
  unfold overP nodeTag nodePs; split <;> rfl
theorem nodePs_len (kind : Int) (key value : ByteArray) (pos l r : Int) : (nodePs kind key value pos l r).length ≤ maxLen := by
  unfold nodePs maxLen; split <;> simp [forkParts]

set_option maxHeartbeats 800000 in
theorem imageOf_any (kind : Int) (key value : ByteArray) (pos l r : Int) (w : World) (hk : key.size ≤ maxLen) (hv : value.size ≤ maxLen) (hl : 0 ≤ l ∧ l ≤ 18446744073709551615) (hr : 0 ≤ r ∧ r ≤ 18446744073709551615) :
    Calls Tryz.prog 78 #[.agg #[.int .i64 kind, .string key, .string value, .int .i64 pos, .int .u64 l, .int .u64 r]] w fun e w' => ∃ v, e = .returned v ∧ Img w' (nodeTag kind) (nodePs kind key value pos l r) v ∧ Below w.heap.size w w' := by
  by_cases h : kind = 2
  · subst h
    go_enter Tryz.func78, Tryz.ntmps78
    go_wp2_with fail
    refine (forkI_any pos l r _ hl hr).mono ?_
    rintro e w1 ⟨v, rfl, ⟨a, cap, rfl, hs⟩, b1⟩
    have kR := (Blk.new (w.alloc (.cells #[.int .i64 2, .string key, .string value, .int .i64 pos, .int .u64 l, .int .u64 r] 28)) #[.int .i64 0, .slice none 0 0] 76).below b1 (by simp)
    rw [World.size_alloc] at kR
    have c0 := kR.cell 0
    have c1 := kR.cell 1
    have f0 := kR.frozen 0
    have f1 := kR.frozen 1
    have hz := kR.lt
    simp only [List.getElem?_toArray, List.getElem?_cons_succ, List.getElem?_cons_zero] at c0 c1
    have hb : Below w.heap.size w w1 := (((Below.refl _ _).alloc (Nat.le_refl _) _).alloc (by simp) _).trans (b1.mono (by simp; omega))
    go_wp2
    obtain ⟨q1, q2, q3, q4⟩ := img_stored (tag := 4) (cap := cap) (show w.heap.size ≤ w.heap.size + 1 by omega) kR hb hs
    exact bodyPost_ret (v := .agg #[.int .i64 4, .slice a (forkParts pos l r).length cap]) (by simp [results, Tryz.results78, go_sem, q3, q4]) rfl ⟨_, rfl, q1, q2⟩
  · have h' : (kind == 2) = false := by simpa using h
    have e1 : nodeTag kind = 3 := if_neg h
    have e2 : nodePs kind key value pos l r = [key, value] := if_neg h
    rw [e1, e2]
    clear e1 e2
    go_enter Tryz.func78, Tryz.ntmps78
    go_wp2_with fail
    refine (entryI_any key value _ hk hv).mono ?_
    rintro e w1 ⟨v, rfl, ⟨a, cap, rfl, hs⟩, b1⟩
    have kR := (Blk.new (w.alloc (.cells #[.int .i64 kind, .string key, .string value, .int .i64 pos, .int .u64 l, .int .u64 r] 28)) #[.int .i64 0, .slice none 0 0] 76).below b1 (by simp)
    rw [World.size_alloc] at kR
    have c0 := kR.cell 0
    have c1 := kR.cell 1
    have f0 := kR.frozen 0
    have f1 := kR.frozen 1
    have hz := kR.lt
    simp only [List.getElem?_toArray, List.getElem?_cons_succ, List.getElem?_cons_zero] at c0 c1
    have hb : Below w.heap.size w w1 := (((Below.refl _ _).alloc (Nat.le_refl _) _).alloc (by simp) _).trans (b1.mono (by simp; omega))
    go_wp2
    obtain ⟨q1, q2, q3, q4⟩ := img_stored (tag := 3) (cap := cap) (show w.heap.size ≤ w.heap.size + 1 by omega) kR hb hs
    exact bodyPost_ret (v := .agg #[.int .i64 3, .slice a [key, value].length cap]) (by simp at q3 q4; simp [results, Tryz.results78, go_sem, q3, q4]) rfl ⟨_, rfl, q1, q2⟩

theorem over_any (wd kind : Int) (key value : ByteArray) (pos l r : Int) (w : World) (hw : -9223372036854775808 ≤ wd ∧ wd ≤ 9223372036854775807) (hk : key.size ≤ maxLen) (hv : value.size ≤ maxLen) (hl : 0 ≤ l ∧ l ≤ 18446744073709551615) (hr : 0 ≤ r ∧ r ≤ 18446744073709551615) :
    Calls Tryz.prog 58 #[.int .i64 wd, .agg #[.int .i64 kind, .string key, .string value, .int .i64 pos, .int .u64 l, .int .u64 r]] w fun e w' => e = .returned (.int .u64 (overP wd kind key value pos l r)) ∧ Below w.heap.size w w' := by
  go_enter Tryz.func58, Tryz.ntmps58
  go_wp2_with fail
  refine (imageOf_any kind key value pos l r _ hk hv hl hr).mono ?_
  rintro e w1 ⟨v, rfl, hI, b1⟩
  obtain ⟨a, cap, rfl, hs⟩ := hI
  go_wp2_with fail
  refine (ofImg_any wd (nodeTag kind) (nodePs kind key value pos l r) _ _ hw (nodePs_len _ _ _ _ _ _) ⟨a, cap, rfl, hs⟩).mono ?_
  rintro e w2 ⟨rfl, b2⟩
  rw [← overP_eq]
  go_wp2
  go_ret
  have hb : Below w.heap.size w w1 := ((Below.refl _ _).alloc (Nat.le_refl _) _).trans (b1.mono (by simp))
  exact ⟨rfl, hb.trans (b2.mono hb.size)⟩

set_option maxHeartbeats 800000 in
theorem rover_any (wd kind : Int) (key value : ByteArray) (pos l r : Int) (w : World) (hw : -9223372036854775808 ≤ wd ∧ wd ≤ 9223372036854775807) (hp : -9223372036854775808 ≤ pos ∧ pos ≤ 9223372036854775807) (hk : key.size ≤ maxLen) (hv : value.size ≤ maxLen) (hl : 0 ≤ l ∧ l ≤ 18446744073709551615) (hr : 0 ≤ r ∧ r ≤ 18446744073709551615) :
    Calls Tryz.prog 36 #[.int .i64 wd, .agg #[.int .i64 kind, .string key, .string value, .int .i64 pos, .int .u64 l, .int .u64 r]] w fun e w' => e = .returned (.int .u64 (overP wd kind key value pos l r)) ∧ Below w.heap.size w w' := by
  by_cases h : kind = 2
  · subst h
    go_enter Tryz.func36, Tryz.ntmps36
    go_wp2_with fail
    refine (rfive _ _ hp).mono ?_
    rintro e w1 ⟨rfl, b1⟩
    have kN := (Blk.new w #[.int .i64 2, .string key, .string value, .int .i64 pos, .int .u64 l, .int .u64 r] 28).below b1 (by simp)
    have c4 := kN.cell 4
    have c5 := kN.cell 5
    simp only [List.getElem?_toArray, List.getElem?_cons_succ, List.getElem?_cons_zero] at c4 c5
    have hb : Below w.heap.size w w1 := ((Below.refl _ _).alloc (Nat.le_refl _) _).trans (b1.mono (by simp))
    go_wp2_with fail
    refine (reight _ _ hl).mono ?_
    rintro e w2 ⟨rfl, b2⟩
    have kN2 := kN.below b2 kN.lt
    clear c4 c5
    have c5 := kN2.cell 5
    simp only [List.getElem?_toArray, List.getElem?_cons_succ, List.getElem?_cons_zero] at c5
    have hb2 := hb.trans (b2.mono hb.size)
    go_wp2_with fail
    refine (reight _ _ hr).mono ?_
    rintro e w3 ⟨rfl, b3⟩
    have hb3 := hb2.trans (b3.mono hb2.size)
    go_wp2_with fail
    have hS := strs_three w3 (str (be pos 5)) (str (be l 8)) (str (be r 8)) (be5_size pos) (be8_size l) (be8_size r)
    refine (rof_any wd 4 _ 3 3 (forkParts pos l r) _ hw rfl (by unfold maxLen; omega) hS).mono ?_
    rintro e w4 ⟨rfl, b4⟩
    have hb4 := (hb3.alloc hb3.size (.cells #[.string (str (be pos 5)), .string (str (be l 8)), .string (str (be r 8))] 9))
    have hb5 := hb4.trans (b4.mono hb4.size)
    go_wp2
    go_ret
    exact ⟨rfl, hb5⟩
  · have h' : (kind != 2) = true := by simpa using h
    have e1 : overP wd kind key value pos l r = ofP wd 3 [key, value] := if_neg h
    rw [e1]
    clear e1
    go_enter Tryz.func36, Tryz.ntmps36
    go_wp2_with fail
    have hS := strs_two (w.alloc (.cells #[.int .i64 kind, .string key, .string value, .int .i64 pos, .int .u64 l, .int .u64 r] 28)) key value hk hv
    rw [World.size_alloc] at hS
    refine (rof_any wd 3 _ 2 2 [key, value] _ hw rfl (by unfold maxLen; omega) hS).mono ?_
    rintro e w4 ⟨rfl, b4⟩
    go_wp2
    go_ret
    exact ⟨rfl, (((Below.refl _ _).alloc (Nat.le_refl _) _).alloc (by simp) _).trans (b4.mono (by simp; omega))⟩
end Go.Proofs.YtmhllihedejehaaGreat

namespace Go.Proofs.YtmhllihedejehaaGreat
open Go.RowKit
set_option linter.unusedVariables false

set_option maxHeartbeats 400000 in
theorem whole_none (d : Int) (w : World) :
    Calls Tryz.prog 25 #[.int .u64 d, .bool false] w fun e w' => ∃ v, e = .returned v ∧ Img w' 5 [] v ∧ Below w.heap.size w w' := by
  go_enter Tryz.func25, Tryz.ntmps25
  go_wp2
  exact bodyPost_ret (v := .agg #[.int .i64 5, .slice none 0 0]) (by simp [results, Tryz.results25, go_sem]) rfl
    ⟨_, rfl, ⟨_, 0, rfl, strs_nil _⟩, (Below.refl _ _).alloc (Nat.le_refl _) _⟩

set_option maxHeartbeats 400000 in
theorem whole_some (x : Int) (w : World) (hx : 0 ≤ x ∧ x ≤ 18446744073709551615) :
    Calls Tryz.prog 25 #[.int .u64 x, .bool true] w fun e w' => ∃ v, e = .returned v ∧ Img w' 5 [str (be x 8)] v ∧ Below w.heap.size w w' := by
  go_enter Tryz.func25, Tryz.ntmps25
  go_wp2_with fail
  refine (reight _ _ hx).mono ?_
  rintro e w2 ⟨rfl, b12⟩
  obtain ⟨kc, kf, kz⟩ := own_kept b12
  have c0 := kc 0
  have c1 := kc 1
  have f0 := kf 0
  have f1 := kf 1
  clear kc kf
  go_wp2
  have hS := strs_one ((w2.setCell ⟨w.heap.size, 0, none⟩ (.int .i64 5)).setCell ⟨w.heap.size, 1, none⟩ (.slice (some ⟨w2.heap.size, 0, none⟩) 1 1)) (str (be x 8)) (be8_size x)
  rw [size_setCell, size_setCell] at hS
  have hb : Below w.heap.size w w2 := ((Below.refl _ _).alloc (Nat.le_refl _) _).trans (b12.mono (by simp))
  exact bodyPost_ret (v := .agg #[.int .i64 5, .slice (some ⟨w2.heap.size, 0, none⟩) 1 1]) (by simp [results, Tryz.results25, go_sem, c0, c1, kz]) rfl
    ⟨_, rfl, ⟨_, 1, rfl, hS⟩, ((hb.setCell (Nat.le_refl _) _).setCell (Nat.le_refl _) _).alloc (by rw [size_setCell, size_setCell]; exact Nat.le_of_lt kz) _⟩

set_option maxHeartbeats 800000 in
theorem top_any (wd kind : Int) (key value : ByteArray) (pos l r : Int) (w : World) (hw : -9223372036854775808 ≤ wd ∧ wd ≤ 9223372036854775807) (hk : key.size ≤ maxLen) (hv : value.size ≤ maxLen) (hl : 0 ≤ l ∧ l ≤ 18446744073709551615) (hr : 0 ≤ r ∧ r ≤ 18446744073709551615) :
    Calls Tryz.prog 57 #[.int .i64 wd, .agg #[.int .i64 kind, .string key, .string value, .int .i64 pos, .int .u64 l, .int .u64 r]] w fun e w' => e = .returned (.int .u64 (wholeP wd kind key value pos l r)) ∧ Below w.heap.size w w' := by
  by_cases h : kind = 0
  · subst h
    go_enter Tryz.func57, Tryz.ntmps57
    go_wp2_with fail
    refine (bareI_any _).mono ?_
    rintro e w1 ⟨v, rfl, ⟨a, cap, rfl, hs⟩, b1⟩
    go_wp2_with fail
    refine (ofImg_any wd 5 [] _ _ hw (Nat.zero_le _) ⟨a, cap, rfl, hs⟩).mono ?_
    rintro e w2 ⟨rfl, b2⟩
    go_wp2
    go_ret
    have hb : Below w.heap.size w w1 := ((Below.refl _ _).alloc (Nat.le_refl _) _).trans (b1.mono (by simp))
    exact ⟨rfl, hb.trans (b2.mono hb.size)⟩
  · have h' : (kind == 0) = false := by simpa using h
    have e1 : wholeP wd kind key value pos l r = ofP wd 5 [str (be (overP wd kind key value pos l r) 8)] := if_neg h
    rw [e1]
    clear e1
    go_enter Tryz.func57, Tryz.ntmps57
    go_wp2_with fail
    refine (over_any wd kind key value pos l r _ hw hk hv hl hr).mono ?_
    rintro e w0 ⟨rfl, b0⟩
    have hb0 : Below w.heap.size w w0 := ((Below.refl _ _).alloc (Nat.le_refl _) _).trans (b0.mono (by simp))
    go_wp2_with fail
    refine (treeI_any _ _ (overP_bd _ _ _ _ _ _ _)).mono ?_
    rintro e w1 ⟨v, rfl, ⟨a, cap, rfl, hs⟩, b1⟩
    have hb1 := hb0.trans (b1.mono hb0.size)
    go_wp2_with fail
    refine (ofImg_any wd 5 [str (be (overP wd kind key value pos l r) 8)] _ _ hw (by unfold maxLen; simp) ⟨a, cap, rfl, hs⟩).mono ?_
    rintro e w2 ⟨rfl, b2⟩
    go_wp2
    go_ret
    exact ⟨rfl, hb1.trans (b2.mono hb1.size)⟩

set_option maxHeartbeats 1600000 in
theorem rtop_any (wd kind : Int) (key value : ByteArray) (pos l r : Int) (w : World) (hw : -9223372036854775808 ≤ wd ∧ wd ≤ 9223372036854775807) (hp : -9223372036854775808 ≤ pos ∧ pos ≤ 9223372036854775807) (hk : key.size ≤ maxLen) (hv : value.size ≤ maxLen) (hl : 0 ≤ l ∧ l ≤ 18446744073709551615) (hr : 0 ≤ r ∧ r ≤ 18446744073709551615) :
    Calls Tryz.prog 37 #[.int .i64 wd, .agg #[.int .i64 kind, .string key, .string value, .int .i64 pos, .int .u64 l, .int .u64 r]] w fun e w' => e = .returned (.int .u64 (wholeP wd kind key value pos l r)) ∧ Below w.heap.size w w' := by
  by_cases h : kind = 0
  · subst h
    go_enter Tryz.func37, Tryz.ntmps37
    go_wp2_with fail
    refine (whole_none _ _).mono ?_
    rintro e w1 ⟨v, rfl, ⟨a, cap, rfl, hs⟩, b1⟩
    have kN := (Blk.new w #[.int .i64 0, .string key, .string value, .int .i64 pos, .int .u64 l, .int .u64 r] 28).below b1 (by simp)
    have c0 := kN.cell 0
    have hz := kN.lt
    simp only [List.getElem?_toArray, List.getElem?_cons_zero] at c0
    have hb1 : Below w.heap.size w w1 := ((Below.refl _ _).alloc (Nat.le_refl _) _).trans (b1.mono (by simp))
    go_wp2_with fail
    refine (imgDig_any wd 5 [] _ _ hw (Nat.zero_le _) ⟨a, cap, rfl, strs_alloc hs _⟩).mono ?_
    rintro e w2 ⟨rfl, b2⟩
    have hb2 := hb1.alloc hb1.size (.cells #[.int .i64 5, .slice a 0 cap] 76)
    go_wp2
    go_ret
    exact ⟨rfl, hb2.trans (b2.mono hb2.size)⟩
  · have h' : (kind != 0) = true := by simpa using h
    have e1 : wholeP wd kind key value pos l r = ofP wd 5 [str (be (overP wd kind key value pos l r) 8)] := if_neg h
    rw [e1]
    clear e1
    go_enter Tryz.func37, Tryz.ntmps37
    go_wp2_with fail
    refine (whole_none _ _).mono ?_
    rintro e w1 ⟨v, rfl, ⟨a, cap, rfl, hs⟩, b1⟩
    have kN := (Blk.new w #[.int .i64 kind, .string key, .string value, .int .i64 pos, .int .u64 l, .int .u64 r] 28).below b1 (by simp)
    have hb1 : Below w.heap.size w w1 := ((Below.refl _ _).alloc (Nat.le_refl _) _).trans (b1.mono (by simp))
    have hz := kN.lt
    have c0 := kN.cell 0
    have c1 := kN.cell 1
    have c2 := kN.cell 2
    have c3 := kN.cell 3
    have c4 := kN.cell 4
    have c5 := kN.cell 5
    simp only [List.getElem?_toArray, List.getElem?_cons_succ, List.getElem?_cons_zero] at c0 c1 c2 c3 c4 c5
    go_wp2_with fail
    refine (rover_any wd kind key value pos l r _ hw hp hk hv hl hr).mono ?_
    rintro e w3 ⟨rfl, b3⟩
    have kI := (Blk.new w1 #[.int .i64 5, .slice a 0 cap] 76).below b3 (by simp)
    have hb2 := hb1.alloc hb1.size (.cells #[.int .i64 5, .slice a 0 cap] 76)
    have hb3 := hb2.trans (b3.mono hb2.size)
    go_wp2_with fail
    refine (whole_some _ _ (overP_bd _ _ _ _ _ _ _)).mono ?_
    rintro e w4 ⟨v, rfl, ⟨a4, cap4, rfl, hs4⟩, b4⟩
    have kI4 := kI.below b4 kI.lt
    have hb4 := hb3.trans (b4.mono hb3.size)
    have i0 := kI4.cell 0
    have i1 := kI4.cell 1
    have f0 := kI4.frozen 0
    have f1 := kI4.frozen 1
    have hz1 := kI4.lt
    simp only [List.getElem?_toArray, List.getElem?_cons_succ, List.getElem?_cons_zero] at i0 i1
    have k5 := blk_seti kI4 (.int .i64 5) (.slice a4 1 cap4)
    have j0 := k5.cell 0
    have j1 := k5.cell 1
    simp only [List.getElem?_toArray, List.getElem?_cons_succ, List.getElem?_cons_zero] at j0 j1
    have hs5 := strs_seti hs4 kI4 (.int .i64 5) (.slice a4 1 cap4)
    have hb5 := (hb4.setCell (p := ⟨w1.heap.size, 0, none⟩) hb1.size (.int .i64 5)).setCell (p := ⟨w1.heap.size, 1, none⟩) hb1.size (.slice a4 1 cap4)
    go_wp2_with fail
    refine (imgDig_any wd 5 [str (be (overP wd kind key value pos l r) 8)] _ _ hw (by unfold maxLen; simp) ⟨a4, cap4, rfl, hs5⟩).mono ?_
    rintro e w6 ⟨rfl, b6⟩
    go_wp2
    go_ret
    exact ⟨rfl, hb5.trans (b6.mono hb5.size)⟩
end Go.Proofs.YtmhllihedejehaaGreat
