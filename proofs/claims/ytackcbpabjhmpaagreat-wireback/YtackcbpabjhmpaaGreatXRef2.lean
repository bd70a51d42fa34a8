import Derived.Test.YtackcbpabjhmpaaGreatM20
import Derived.Test.YtackcbpabjhmpaaGreatM10
namespace Go.Proofs.YtackcbpabjhmpaaGreat
open Go.RowKit
set_option linter.unusedVariables false
set_option linter.unusedSimpArgs false
set_option maxRecDepth 4000 in
set_option maxHeartbeats 6400000 in
theorem rheader_anyX (base b : Nat) (x : Header) (l : List Atom) (odd : Bool) (w : World) (hb : base ≤ b) (hL : wtL l + wtL x.atoms ≤ 1099400000000) (R : RefL w b l odd) (g : goods base w x.flds) :
  Calls Tryz.prog 71 #[.pointer (some ⟨b, 0, none⟩), .agg #[.int .i64 x.c, .int .i64 x.h, .int .u64 x.pa, .int .u64 x.tx, .int .u64 x.gu, .int .u64 x.st, .int .u64 x.re, .int .u64 x.be, .int .i64 x.pr]] w fun e w' => e = .returned (.tuple #[]) ∧ RefL w' b (l ++ x.atoms) odd ∧ Kp base b w w' := by
 have hlt := R.lt
 have hB0 : base ≤ w.heap.size := Nat.le_trans hb (Nat.le_of_lt hlt)
 have bA : Below w.heap.size w (w.alloc (.cells #[.int .i64 x.c, .int .i64 x.h, .int .u64 x.pa, .int .u64 x.tx, .int .u64 x.gu, .int .u64 x.st, .int .u64 x.re, .int .u64 x.be, .int .i64 x.pr] 51)) := (Below.refl _ _).alloc (Nat.le_refl _) _
 have X0 := Blk.new w #[.int .i64 x.c, .int .i64 x.h, .int .u64 x.pa, .int .u64 x.tx, .int .u64 x.gu, .int .u64 x.st, .int .u64 x.re, .int .u64 x.be, .int .i64 x.pr] 51
 have K0 : Kp base b w (w.alloc (.cells #[.int .i64 x.c, .int .i64 x.h, .int .u64 x.pa, .int .u64 x.tx, .int .u64 x.gu, .int .u64 x.st, .int .u64 x.re, .int .u64 x.be, .int .i64 x.pr] 51)) := Kp.of_below bA hB0
 have R0 := R.below bA
 have hXb : w.heap.size ≠ b := by omega
 have HW : Hid (wtL l + (6 + 6 + 8 + 8 + 8 + 8 + 8 + 8 + 6) ≤ 1099400000000) := by
  have h := hL
  simp only [Header.atoms, wtL_append, nums, digs, intA, flagL, digL, textL, listL, List.map, wtL, Atom.wt, flagB, be_len, List.length_cons, List.length_nil] at h
  show _ ≤ _
  omega
 clear hL
 go_enter Tryz.func71, Tryz.ntmps71
 have q0 := X0.cell 0
 simp only [List.getElem?_toArray, List.getElem?_cons_zero] at q0
 go_wp2_with fail
 refine (rnumL base b x.c l odd _ hb (g.get 0 rfl) (by have := HW.out; omega) R0).mono ?_
 rintro e w1 ⟨rfl, R1, k⟩
 obtain ⟨m1, Hl1⟩ : ∃ l', Hid (l' = l ++ intA x.c) := ⟨_, rfl⟩
 rw [← Hl1.out] at R1
 have HL1 : Hid (wtL m1 = wtL l + (6)) := by
  show _ = _
  rw [Hl1.out, wtL_append] <;> rfl
 have X1 := X0.kp k hXb
 have K1 := K0.trans k
 clear q0 k X0 R0
 have q1 := X1.cell 1
 simp only [List.getElem?_toArray, List.getElem?_cons_succ, List.getElem?_cons_zero] at q1
 go_wp2_with fail
 refine (rnumL base b x.h m1 odd _ hb (g.get 1 rfl) (by have := HW.out; have := HL1.out; omega) R1).mono ?_
 rintro e w2 ⟨rfl, R2, k⟩
 obtain ⟨m2, Hl2⟩ : ∃ l', Hid (l' = m1 ++ intA x.h) := ⟨_, rfl⟩
 rw [← Hl2.out] at R2
 have HL2 : Hid (wtL m2 = wtL m1 + (6)) := by
  show _ = _
  rw [Hl2.out, wtL_append] <;> rfl
 have X2 := X1.kp k hXb
 have K2 := K1.trans k
 clear q1 k X1 R1
 have q2 := X2.cell 2
 simp only [List.getElem?_toArray, List.getElem?_cons_succ, List.getElem?_cons_zero] at q2
 go_wp2_with fail
 refine (rdigL base b x.pa m2 odd _ hb (g.get 2 rfl) (by have := HW.out; have := HL1.out; have := HL2.out; omega) R2).mono ?_
 rintro e w3 ⟨rfl, R3, k⟩
 obtain ⟨m3, Hl3⟩ : ∃ l', Hid (l' = m2 ++ digL x.pa) := ⟨_, rfl⟩
 rw [← Hl3.out] at R3
 have HL3 : Hid (wtL m3 = wtL m2 + (8)) := by
  show _ = _
  rw [Hl3.out, wtL_append]
  simp only [digL, wtL, Atom.wt, be_len]
 have X3 := X2.kp k hXb
 have K3 := K2.trans k
 clear q2 k X2 R2
 have q3 := X3.cell 3
 simp only [List.getElem?_toArray, List.getElem?_cons_succ, List.getElem?_cons_zero] at q3
 go_wp2_with fail
 refine (rdigL base b x.tx m3 odd _ hb (g.get 3 rfl) (by have := HW.out; have := HL1.out; have := HL2.out; have := HL3.out; omega) R3).mono ?_
 rintro e w4 ⟨rfl, R4, k⟩
 obtain ⟨m4, Hl4⟩ : ∃ l', Hid (l' = m3 ++ digL x.tx) := ⟨_, rfl⟩
 rw [← Hl4.out] at R4
 have HL4 : Hid (wtL m4 = wtL m3 + (8)) := by
  show _ = _
  rw [Hl4.out, wtL_append]
  simp only [digL, wtL, Atom.wt, be_len]
 have X4 := X3.kp k hXb
 have K4 := K3.trans k
 clear q3 k X3 R3
 have q4 := X4.cell 4
 simp only [List.getElem?_toArray, List.getElem?_cons_succ, List.getElem?_cons_zero] at q4
 go_wp2_with fail
 refine (rdigL base b x.gu m4 odd _ hb (g.get 4 rfl) (by have := HW.out; have := HL1.out; have := HL2.out; have := HL3.out; have := HL4.out; omega) R4).mono ?_
 rintro e w5 ⟨rfl, R5, k⟩
 obtain ⟨m5, Hl5⟩ : ∃ l', Hid (l' = m4 ++ digL x.gu) := ⟨_, rfl⟩
 rw [← Hl5.out] at R5
 have HL5 : Hid (wtL m5 = wtL m4 + (8)) := by
  show _ = _
  rw [Hl5.out, wtL_append]
  simp only [digL, wtL, Atom.wt, be_len]
 have X5 := X4.kp k hXb
 have K5 := K4.trans k
 clear q4 k X4 R4
 have q5 := X5.cell 5
 simp only [List.getElem?_toArray, List.getElem?_cons_succ, List.getElem?_cons_zero] at q5
 go_wp2_with fail
 refine (rdigL base b x.st m5 odd _ hb (g.get 5 rfl) (by have := HW.out; have := HL1.out; have := HL2.out; have := HL3.out; have := HL4.out; have := HL5.out; omega) R5).mono ?_
 rintro e w6 ⟨rfl, R6, k⟩
 obtain ⟨m6, Hl6⟩ : ∃ l', Hid (l' = m5 ++ digL x.st) := ⟨_, rfl⟩
 rw [← Hl6.out] at R6
 have HL6 : Hid (wtL m6 = wtL m5 + (8)) := by
  show _ = _
  rw [Hl6.out, wtL_append]
  simp only [digL, wtL, Atom.wt, be_len]
 have X6 := X5.kp k hXb
 have K6 := K5.trans k
 clear q5 k X5 R5
 have q6 := X6.cell 6
 simp only [List.getElem?_toArray, List.getElem?_cons_succ, List.getElem?_cons_zero] at q6
 go_wp2_with fail
 refine (rdigL base b x.re m6 odd _ hb (g.get 6 rfl) (by have := HW.out; have := HL1.out; have := HL2.out; have := HL3.out; have := HL4.out; have := HL5.out; have := HL6.out; omega) R6).mono ?_
 rintro e w7 ⟨rfl, R7, k⟩
 obtain ⟨m7, Hl7⟩ : ∃ l', Hid (l' = m6 ++ digL x.re) := ⟨_, rfl⟩
 rw [← Hl7.out] at R7
 have HL7 : Hid (wtL m7 = wtL m6 + (8)) := by
  show _ = _
  rw [Hl7.out, wtL_append]
  simp only [digL, wtL, Atom.wt, be_len]
 have X7 := X6.kp k hXb
 have K7 := K6.trans k
 clear q6 k X6 R6
 have q7 := X7.cell 7
 simp only [List.getElem?_toArray, List.getElem?_cons_succ, List.getElem?_cons_zero] at q7
 go_wp2_with fail
 refine (rdigL base b x.be m7 odd _ hb (g.get 7 rfl) (by have := HW.out; have := HL1.out; have := HL2.out; have := HL3.out; have := HL4.out; have := HL5.out; have := HL6.out; have := HL7.out; omega) R7).mono ?_
 rintro e w8 ⟨rfl, R8, k⟩
 obtain ⟨m8, Hl8⟩ : ∃ l', Hid (l' = m7 ++ digL x.be) := ⟨_, rfl⟩
 rw [← Hl8.out] at R8
 have HL8 : Hid (wtL m8 = wtL m7 + (8)) := by
  show _ = _
  rw [Hl8.out, wtL_append]
  simp only [digL, wtL, Atom.wt, be_len]
 have X8 := X7.kp k hXb
 have K8 := K7.trans k
 clear q7 k X7 R7
 have q8 := X8.cell 8
 simp only [List.getElem?_toArray, List.getElem?_cons_succ, List.getElem?_cons_zero] at q8
 go_wp2_with fail
 refine (rnumL base b x.pr m8 odd _ hb (g.get 8 rfl) (by have := HW.out; have := HL1.out; have := HL2.out; have := HL3.out; have := HL4.out; have := HL5.out; have := HL6.out; have := HL7.out; have := HL8.out; omega) R8).mono ?_
 rintro e w9 ⟨rfl, R9, k⟩
 obtain ⟨m9, Hl9⟩ : ∃ l', Hid (l' = m8 ++ intA x.pr) := ⟨_, rfl⟩
 rw [← Hl9.out] at R9
 have HL9 : Hid (wtL m9 = wtL m8 + (6)) := by
  show _ = _
  rw [Hl9.out, wtL_append] <;> rfl
 have X9 := X8.kp k hXb
 have K9 := K8.trans k
 clear q8 k X8 R8
 go_wp2
 go_end0
 have el : m9 = l ++ x.atoms := by
  rw [Hl9.out, Hl8.out, Hl7.out, Hl6.out, Hl5.out, Hl4.out, Hl3.out, Hl2.out, Hl1.out]
  simp only [Header.atoms, nums, digs, intA, flagL, digL, textL, listL, List.map, List.append_assoc, List.cons_append, List.nil_append]
 exact ⟨rfl, R9.as el rfl, K9⟩
set_option maxRecDepth 4000 in
set_option maxHeartbeats 6400000 in
theorem rcert_anyX (base b : Nat) (x : Cert) (l : List Atom) (odd : Bool) (w : World) (hb : base ≤ b) (hL : wtL l + wtL x.atoms ≤ 1099400000000) (R : RefL w b l odd) (g : goods base w x.flds) :
  Calls Tryz.prog 59 #[.pointer (some ⟨b, 0, none⟩), .agg #[.int .i64 x.h, .int .i64 x.r, .int .i64 x.s, .bool x.has, .int .u64 x.bl, .slice x.fr.la x.fr.xs.length x.fr.lc]] w fun e w' => e = .returned (.tuple #[]) ∧ RefL w' b (l ++ x.atoms) (odd || x.odd) ∧ Kp base b w w' := by
 have hlt := R.lt
 have hB0 : base ≤ w.heap.size := Nat.le_trans hb (Nat.le_of_lt hlt)
 have bA : Below w.heap.size w (w.alloc (.cells #[.int .i64 x.h, .int .i64 x.r, .int .i64 x.s, .bool x.has, .int .u64 x.bl, .slice x.fr.la x.fr.xs.length x.fr.lc] 42)) := (Below.refl _ _).alloc (Nat.le_refl _) _
 have X0 := Blk.new w #[.int .i64 x.h, .int .i64 x.r, .int .i64 x.s, .bool x.has, .int .u64 x.bl, .slice x.fr.la x.fr.xs.length x.fr.lc] 42
 have K0 : Kp base b w (w.alloc (.cells #[.int .i64 x.h, .int .i64 x.r, .int .i64 x.s, .bool x.has, .int .u64 x.bl, .slice x.fr.la x.fr.xs.length x.fr.lc] 42)) := Kp.of_below bA hB0
 have R0 := R.below bA
 have hXb : w.heap.size ≠ b := by omega
 have HW : Hid (wtL l + (6 + 6 + 6 + 1 + 8 + 6 + wtL (eachL intA x.fr.xs)) ≤ 1099400000000) := by
  have h := hL
  simp only [Cert.atoms, wtL_append, nums, digs, intA, flagL, digL, textL, listL, List.map, wtL, Atom.wt, flagB, be_len, List.length_cons, List.length_nil] at h
  show _ ≤ _
  omega
 clear hL
 go_enter Tryz.func59, Tryz.ntmps59
 have q0 := X0.cell 0
 simp only [List.getElem?_toArray, List.getElem?_cons_zero] at q0
 go_wp2_with fail
 refine (rnumL base b x.h l odd _ hb (g.get 0 rfl) (by have := HW.out; omega) R0).mono ?_
 rintro e w1 ⟨rfl, R1, k⟩
 obtain ⟨m1, Hl1⟩ : ∃ l', Hid (l' = l ++ intA x.h) := ⟨_, rfl⟩
 rw [← Hl1.out] at R1
 have HL1 : Hid (wtL m1 = wtL l + (6)) := by
  show _ = _
  rw [Hl1.out, wtL_append] <;> rfl
 have X1 := X0.kp k hXb
 have K1 := K0.trans k
 clear q0 k X0 R0
 have q1 := X1.cell 1
 simp only [List.getElem?_toArray, List.getElem?_cons_succ, List.getElem?_cons_zero] at q1
 go_wp2_with fail
 refine (rnumL base b x.r m1 odd _ hb (g.get 1 rfl) (by have := HW.out; have := HL1.out; omega) R1).mono ?_
 rintro e w2 ⟨rfl, R2, k⟩
 obtain ⟨m2, Hl2⟩ : ∃ l', Hid (l' = m1 ++ intA x.r) := ⟨_, rfl⟩
 rw [← Hl2.out] at R2
 have HL2 : Hid (wtL m2 = wtL m1 + (6)) := by
  show _ = _
  rw [Hl2.out, wtL_append] <;> rfl
 have X2 := X1.kp k hXb
 have K2 := K1.trans k
 clear q1 k X1 R1
 have q2 := X2.cell 2
 simp only [List.getElem?_toArray, List.getElem?_cons_succ, List.getElem?_cons_zero] at q2
 go_wp2_with fail
 refine (rnumL base b x.s m2 odd _ hb (g.get 2 rfl) (by have := HW.out; have := HL1.out; have := HL2.out; omega) R2).mono ?_
 rintro e w3 ⟨rfl, R3, k⟩
 obtain ⟨m3, Hl3⟩ : ∃ l', Hid (l' = m2 ++ intA x.s) := ⟨_, rfl⟩
 rw [← Hl3.out] at R3
 have HL3 : Hid (wtL m3 = wtL m2 + (6)) := by
  show _ = _
  rw [Hl3.out, wtL_append] <;> rfl
 have X3 := X2.kp k hXb
 have K3 := K2.trans k
 clear q2 k X2 R2
 have q3 := X3.cell 3
 simp only [List.getElem?_toArray, List.getElem?_cons_succ, List.getElem?_cons_zero] at q3
 go_wp2_with fail
 refine (rflagL base b x.has m3 odd _ hb (by have := HW.out; have := HL1.out; have := HL2.out; have := HL3.out; omega) R3).mono ?_
 rintro e w4 ⟨rfl, R4, k⟩
 obtain ⟨m4, Hl4⟩ : ∃ l', Hid (l' = m3 ++ flagL x.has) := ⟨_, rfl⟩
 rw [← Hl4.out] at R4
 have HL4 : Hid (wtL m4 = wtL m3 + (1)) := by
  show _ = _
  rw [Hl4.out, wtL_append] <;> rfl
 have X4 := X3.kp k hXb
 have K4 := K3.trans k
 clear q3 k X3 R3
 have q4 := X4.cell 4
 simp only [List.getElem?_toArray, List.getElem?_cons_succ, List.getElem?_cons_zero] at q4
 go_wp2_with fail
 refine (rdigL base b x.bl m4 odd _ hb (g.get 4 rfl) (by have := HW.out; have := HL1.out; have := HL2.out; have := HL3.out; have := HL4.out; omega) R4).mono ?_
 rintro e w5 ⟨rfl, R5, k⟩
 obtain ⟨m5, Hl5⟩ : ∃ l', Hid (l' = m4 ++ digL x.bl) := ⟨_, rfl⟩
 rw [← Hl5.out] at R5
 have HL5 : Hid (wtL m5 = wtL m4 + (8)) := by
  show _ = _
  rw [Hl5.out, wtL_append]
  simp only [digL, wtL, Atom.wt, be_len]
 have X5 := X4.kp k hXb
 have K5 := K4.trans k
 clear q4 k X4 R4
 have hh5 := Lst.held intF_len (g.get 5 rfl)
 have hc5 := hh5.1
 have hm5 := hh5.2.1
 unfold maxLen at hm5
 have q5 := X5.cell 5
 simp only [List.getElem?_toArray, List.getElem?_cons_succ, List.getElem?_cons_zero] at q5
 go_wp2_with fail
 refine (rcountL base b (x.fr.xs.length : Int) 7 m5 odd _ hb (by omega) (by omega) (by have := HW.out; have := HL1.out; have := HL2.out; have := HL3.out; have := HL4.out; have := HL5.out; omega) R5).mono ?_
 rintro e w6 ⟨rfl, R6, k⟩
 obtain ⟨m6, Hl6⟩ : ∃ l', Hid (l' = m5 ++ [Atom.num 7 (x.fr.xs.length : Int)]) := ⟨_, rfl⟩
 rw [← Hl6.out] at R6
 have HL6 : Hid (wtL m6 = wtL m5 + (6)) := by
  show _ = _
  rw [Hl6.out, wtL_append] <;> rfl
 have X6 := X5.kp k hXb
 have K6 := K5.trans k
 clear q5 k X5 R5
 have q2 := X6.cell 2
 simp only [List.getElem?_toArray, List.getElem?_cons_succ, List.getElem?_cons_zero] at q2
 go_upto_region 7 with fail
 go_cut [] (fun wx => RefL wx b m6 (odd || (decide (x.s ≠ 1) && decide (x.s ≠ 2))) ∧ Kp base b w6 wx)
 case first =>
  by_cases h1 : x.s = 1
  ·have h1b : (x.s != 1) = false := by simpa using h1
   have Hh1 := show Hid (_) from h1
   clear h1
   go_wp2_with fail
   refine (roddL base b _ _ _ _ hb R6).mono ?_
   rintro e w' ⟨rfl, R', k'⟩
   go_wp2_with fail
   go_meet
   case rel => exact ⟨R'.as rfl (by simp [Hh1.out]), k'⟩
  ·have h1b : (x.s != 1) = true := by simpa using h1
   have Hh1 := show Hid (_) from h1
   clear h1
   go_wp2_with fail
   refine (roddL base b _ _ _ _ hb R6).mono ?_
   rintro e w' ⟨rfl, R', k'⟩
   go_wp2_with fail
   go_meet
   case rel => exact ⟨R'.as rfl (by have h : ¬ x.s = 1 := Hh1.out; simp [h, bne, BEq.beq]), k'⟩
 case rest =>
  obtain ⟨R7, k⟩ := hcut
  obtain ⟨o1, Ho1⟩ : ∃ o', Hid (o' = (odd || (decide (x.s ≠ 1) && decide (x.s ≠ 2)))) := ⟨_, rfl⟩
  rw [← Ho1.out] at R7
  have X7 := X6.kp k hXb
  have K7 := K6.trans k
  clear q2 k X6 R6
  have q3 := X7.cell 3
  have q4 := X7.cell 4
  simp only [List.getElem?_toArray, List.getElem?_cons_succ, List.getElem?_cons_zero] at q3 q4
  go_upto_region 8 with fail
  go_cut [] (fun wx => RefL wx b m6 (o1 || (!x.has && decide (x.bl ≠ 0))) ∧ Kp base b wc wx)
  case first =>
   by_cases h2 : x.has = true
   ·rw [h2] at q3
    have Hh2 := show Hid (_) from h2
    clear h2
    go_wp2_with fail
    refine (roddL base b _ _ _ _ hb R7).mono ?_
    rintro e w' ⟨rfl, R', k'⟩
    go_wp2_with fail
    go_meet
    case rel => exact ⟨R'.as rfl (by simp [Hh2.out]), k'⟩
   ·rw [Bool.not_eq_true] at h2
    rw [h2] at q3
    have Hh2 := show Hid (_) from h2
    clear h2
    go_wp2_with fail
    refine (roddL base b _ _ _ _ hb R7).mono ?_
    rintro e w' ⟨rfl, R', k'⟩
    go_wp2_with fail
    go_meet
    case rel => exact ⟨R'.as rfl (by have h : x.has = false := Hh2.out; simp [h, bne, BEq.beq]), k'⟩
  case rest =>
   obtain ⟨R8, k⟩ := hcut
   obtain ⟨o2, Ho2⟩ : ∃ o', Hid (o' = (o1 || (!x.has && decide (x.bl ≠ 0)))) := ⟨_, rfl⟩
   rw [← Ho2.out] at R8
   have X8 := X7.kp k hXb
   have K8 := K7.trans k
   clear q3 q4 k X7 R7
   go_wp2_with fail
   go_loopw [4] (fun iv wv => ∃ (k : Nat), k ≤ x.fr.xs.length ∧ iv = .int .i64 k ∧ RefL wv b (m6 ++ eachL intA (x.fr.xs.take k)) (o2 || riseOdd x.fr.xs k) ∧ Kp base b wc wv) (fun iv _ => x.fr.xs.length - (intOf iv).toNat)
   case atStart => exact ⟨0, Nat.zero_le _, rfl, by simpa [eachL, riseOdd, backsOdd] using R8, Kp.refl _ _ _⟩
   case round =>
    obtain ⟨k, hk, rfl, Rk, Kk⟩ := hrel
    have Xk := X8.kp Kk hXb
    have q5 := Xk.cell 5
    simp only [List.getElem?_toArray, List.getElem?_cons_succ, List.getElem?_cons_zero] at q5
    by_cases hk2 : k < x.fr.xs.length
    ·have hk3 : (k : Int) < (x.fr.xs.length : Int) := by omega
     have Hst : Hid (_ = _) := eachL_take intA x.fr.xs k (x.fr.xs[k]'hk2) (List.getElem?_eq_getElem hk2)
     have HLk : Hid (wtL (m6 ++ eachL intA (x.fr.xs.take k)) + wtL (intA (x.fr.xs[k]'hk2)) ≤ 1099400000000) := by
      show _ ≤ _
      have h1 := eachL_wt intA x.fr.xs k (x.fr.xs[k]'hk2) (List.getElem?_eq_getElem hk2)
      have h2 := HW.out
      have := HL1.out
      have := HL2.out
      have := HL3.out
      have := HL4.out
      have := HL5.out
      have := HL6.out
      rw [wtL_append]; omega
     obtain ⟨_, _, h0 | ⟨rb, ro, e0, rl, rz, rc⟩⟩ := (hh5.below K8.below).below Kk.below
     ·rw [h0] at hk2; simp at hk2
     have rk := rc k (x.fr.xs[k]'hk2) (List.getElem?_eq_getElem hk2)
     obtain ⟨y, Hy⟩ : ∃ y : Int, Hid (y = x.fr.xs[k]'hk2) := ⟨x.fr.xs[k]'hk2, rfl⟩
     rw [← Hy.out] at rk Hst HLk
     rw [Nat.mul_one] at rk
     rw [e0] at q5
     have He0 := show Hid (_ = _) from e0
     clear e0
     have e1 := rk.get0 rfl
     simp only [Fld.val] at e1
     have hyb : -9223372036854775808 ≤ y ∧ y ≤ 9223372036854775807 := rk.goods.get 0 rfl
     have Hoa : Hid (stepOdd x.fr.xs k = (decide (y < 1) || (decide (0 < k) && decide (y ≤ x.fr.xs.getD (k - 1) 0)))) := by
      show _ = _
      unfold stepOdd
      rw [show x.fr.xs.getD k 0 = y by rw [Hy.out]; simp [List.getD, hk2]]
     have hprev : 0 < k → ∃ pv : Int, x.fr.xs.getD (k - 1) 0 = pv ∧ wr.cell? ⟨rb, ro + (k - 1), none⟩ = some (.int .i64 pv) := fun h0 => by
      have hk1 : k - 1 < x.fr.xs.length := by omega
      refine ⟨x.fr.xs[k - 1], by simp [List.getD, hk1], ?_⟩
      have h := rc (k - 1) (x.fr.xs[k - 1]'hk1) (List.getElem?_eq_getElem hk1)
      rw [Nat.mul_one] at h
      exact h.get0 rfl
     go_wp2_with fail
     refine (rnumL base b y _ _ _ hb hyb (by have := HLk.out; simp only [intA, wtL, Atom.wt] at this; omega) Rk).mono ?_
     rintro e w3 ⟨rfl, R3, k3⟩
     rw [List.append_assoc, ← Hst.out] at R3
     have X3 := Xk.kp k3 hXb
     have KK := Kk.trans k3
     have r0 : w3.cell? ⟨rb, ro + k, none⟩ = some (.int .i64 y) := by rw [k3.below.cell (p := ⟨rb, ro + k, none⟩) rl]; exact e1
     clear q5
     have q5 := X3.cell 5
     simp only [List.getElem?_toArray, List.getElem?_cons_succ, List.getElem?_cons_zero] at q5
     rw [He0.out] at q5
     have hB3 : base ≤ w3.heap.size := Nat.le_trans hb (Nat.le_of_lt R3.lt)
     have hx3 := X3.lt
     have Hend : Hid (∀ (z : Bool) (w4 : World), z = stepOdd x.fr.xs k → RefL w4 b (m6 ++ eachL intA (x.fr.xs.take (k + 1))) (o2 || riseOdd x.fr.xs k || z) → RefL w4 b (m6 ++ eachL intA (x.fr.xs.take (k + 1))) (o2 || riseOdd x.fr.xs (k + 1))) := by
      intro z w4 hz h4
      rw [hz, Bool.or_assoc, ← riseOdd_succ] at h4
      exact h4
     clear Hst HLk rc rk e1 Rk Xk
     by_cases a1 : y < 1
     ·have a1' : decide (y < 1) = true := by simpa using a1
      clear hprev
      go_wp2_with fail
      refine wp_region_held_drew (S := fun w' => w'.cell? ⟨w.heap.size, 5, none⟩ = some (.slice (some ⟨rb, ro, none⟩) x.fr.xs.length x.fr.lc) ∧ w'.cell? ⟨rb, ro + k, none⟩ = some (.int .i64 y)) (by kernel_rfl) ⟨q5, r0⟩ (fun hHeld => ?_)
      refine tk 0 ?_
      refine tk 1 ?_
      refine tk 2 ?_
      refine tk 3 ?_
      refine tk 4 ?_
      refine tk 5 ?_
      refine wpAnyH_take (i := 6) (v := .bool true) rfl (by kernel_rfl) (by kernel_rfl) (by kernel_rfl) (fun _ _ _ h => h) (Or.inl ⟨by kernel_rfl, ?_⟩) (by assumption) ?_
      ·intro w hSw
       obtain ⟨y0, y1⟩ := hSw
       go_simp
       try exact H3.out
      simp only [Act.put, List.setIfInBounds_toArray, List.set_cons_zero, List.set_cons_succ]
      refine tk 7 ?_
      refine tu 8 ?_
      refine tu 9 ?_
      refine tu 10 ?_
      refine tu 11 ?_
      refine tu 12 ?_
      refine tu 13 ?_
      refine tu 14 ?_
      refine tu 15 ?_
      refine tu 16 ?_
      refine tu 17 ?_
      refine tu 18 ?_
      refine tu 19 ?_
      refine tu 20 ?_
      refine tu 21 ?_
      refine tu 22 ?_
      refine tu 23 ?_
      refine tk 24 ?_
      refine wpAnyH_ready (rs := [25]) (by kernel_rfl) (by simp) ?_
      refine AllReadyH.cons rfl (fun K hK => ?_) AllReadyH.nil
      go_simp
      refine (roddL base b true _ _ _ hb (R3.below (Below.refl _ _).drew)).mono ?_
      rintro e w4 ⟨rfl, R4, k4'⟩
      have k4 : Kp base b w3 w4 := (Kp.of_below (Below.refl _ _).drew hB3).trans k4'
      have zq5 : w4.cell? ⟨w.heap.size, 5, none⟩ = some (.slice (some ⟨rb, ro, none⟩) x.fr.xs.length x.fr.lc) := by rw [Safe.cell (a := ⟨w.heap.size, 5, none⟩) (X3.safe (b := b) (by decide) hXb) k4]; exact q5
      have zr0 : w4.cell? ⟨rb, ro + k, none⟩ = some (.int .i64 y) := by rw [k4.below.cell (p := ⟨rb, ro + k, none⟩) rl]; exact r0
      refine hK.out _ _ ⟨zq5, zr0⟩ (fun hHeld2 => ?_)
      clear hK K
      refine wpAnyH_done (by kernel_rfl) ?_ _
      go_wp2
      exact ⟨⟨k + 1, by omega, by go_num, Hend.out true w4 (by rw [Hoa.out]; simp [a1]) R4, KK.trans k4⟩, by simp [intOf]; omega⟩
     ·have a1' : decide (y < 1) = false := by simpa using a1
      by_cases a3 : k = 0
      ·have a3' : ¬ (0 : Int) < (k : Int) := by omega
       have a3d : decide ((0 : Int) < (k : Int)) = false := by simpa using a3'
       have H3 := show Hid (_ = _) from a3
       clear a3
       clear hprev
       go_wp2_with fail
       refine wp_region_held_drew (S := fun w' => w'.cell? ⟨w.heap.size, 5, none⟩ = some (.slice (some ⟨rb, ro, none⟩) x.fr.xs.length x.fr.lc) ∧ w'.cell? ⟨rb, ro + k, none⟩ = some (.int .i64 y)) (by kernel_rfl) ⟨q5, r0⟩ (fun hHeld => ?_)
       refine tk 0 ?_
       refine tk 1 ?_
       refine tk 2 ?_
       refine tk 3 ?_
       refine tk 4 ?_
       refine tk 5 ?_
       refine wpAnyH_take (i := 6) (v := .bool false) rfl (by kernel_rfl) (by kernel_rfl) (by kernel_rfl) (fun _ _ _ h => h) (Or.inl ⟨by kernel_rfl, ?_⟩) (by assumption) ?_
       ·intro w hSw
        obtain ⟨y0, y1⟩ := hSw
        go_simp
        try exact H3.out
       simp only [Act.put, List.setIfInBounds_toArray, List.set_cons_zero, List.set_cons_succ]
       refine tk 7 ?_
       refine tk 8 ?_
       refine wpAnyH_take (i := 9) (v := .bool false) rfl (by kernel_rfl) (by kernel_rfl) (by kernel_rfl) (fun _ _ _ h => h) (Or.inl ⟨by kernel_rfl, ?_⟩) (by assumption) ?_
       ·intro w hSw
        obtain ⟨y0, y1⟩ := hSw
        go_simp
        try exact H3.out
       simp only [Act.put, List.setIfInBounds_toArray, List.set_cons_zero, List.set_cons_succ]
       refine tk 10 ?_
       refine tu 11 ?_
       refine tu 12 ?_
       refine tu 13 ?_
       refine tu 14 ?_
       refine tu 15 ?_
       refine tu 16 ?_
       refine tu 17 ?_
       refine tu 18 ?_
       refine tu 19 ?_
       refine tu 20 ?_
       refine tu 21 ?_
       refine tu 22 ?_
       refine tk 23 ?_
       refine tk 24 ?_
       refine wpAnyH_ready (rs := [25]) (by kernel_rfl) (by simp) ?_
       refine AllReadyH.cons rfl (fun K hK => ?_) AllReadyH.nil
       go_simp
       refine (roddL base b false _ _ _ hb (R3.below (Below.refl _ _).drew)).mono ?_
       rintro e w4 ⟨rfl, R4, k4'⟩
       have k4 : Kp base b w3 w4 := (Kp.of_below (Below.refl _ _).drew hB3).trans k4'
       have zq5 : w4.cell? ⟨w.heap.size, 5, none⟩ = some (.slice (some ⟨rb, ro, none⟩) x.fr.xs.length x.fr.lc) := by rw [Safe.cell (a := ⟨w.heap.size, 5, none⟩) (X3.safe (b := b) (by decide) hXb) k4]; exact q5
       have zr0 : w4.cell? ⟨rb, ro + k, none⟩ = some (.int .i64 y) := by rw [k4.below.cell (p := ⟨rb, ro + k, none⟩) rl]; exact r0
       refine hK.out _ _ ⟨zq5, zr0⟩ (fun hHeld2 => ?_)
       clear hK K
       refine wpAnyH_done (by kernel_rfl) ?_ _
       go_wp2
       exact ⟨⟨k + 1, by omega, by go_num, Hend.out false w4 (by rw [Hoa.out, a1']; simp [H3.out]) R4, KK.trans k4⟩, by simp [intOf]; omega⟩
      ·have a3' : (0 : Int) < (k : Int) := by omega
       have a3d : decide ((0 : Int) < (k : Int)) = true := by simpa using a3'
       obtain ⟨pv, hpv, rp0⟩ := hprev (by omega)
       have Hpv := show Hid (_ = _) from hpv
       have rp : w3.cell? ⟨rb, ro + (k - 1), none⟩ = some (.int .i64 pv) := by rw [k3.below.cell (p := ⟨rb, ro + (k - 1), none⟩) rl]; exact rp0
       have hw1 : IntKind.i64.wrap ((k : Int) - 1) = ((k - 1 : Nat) : Int) := by rw [IntKind.wrap_i64]; omega
       have hlt2 : ((k - 1 : Nat) : Int) < (x.fr.xs.length : Int) := by omega
       have hkpos : 0 < k := by omega
       clear rp0 hpv a3
       skip
       go_wp2_with fail
       refine wp_region_held_drew (S := fun w' => w'.cell? ⟨w.heap.size, 5, none⟩ = some (.slice (some ⟨rb, ro, none⟩) x.fr.xs.length x.fr.lc) ∧ w'.cell? ⟨rb, ro + k, none⟩ = some (.int .i64 y) ∧ w'.cell? ⟨rb, ro + (k - 1), none⟩ = some (.int .i64 pv)) (by kernel_rfl) ⟨q5, r0, rp⟩ (fun hHeld => ?_)
       refine tk 0 ?_
       refine tk 1 ?_
       refine tk 2 ?_
       refine tk 3 ?_
       refine tk 4 ?_
       refine tk 5 ?_
       refine wpAnyH_take (i := 6) (v := .bool false) rfl (by kernel_rfl) (by kernel_rfl) (by kernel_rfl) (fun _ _ _ h => h) (Or.inl ⟨by kernel_rfl, ?_⟩) (by assumption) ?_
       ·intro w hSw
        obtain ⟨y0, y1, y2⟩ := hSw
        go_simp
        try exact H3.out
       simp only [Act.put, List.setIfInBounds_toArray, List.set_cons_zero, List.set_cons_succ]
       refine tk 7 ?_
       refine tk 8 ?_
       refine wpAnyH_take (i := 9) (v := .bool true) rfl (by kernel_rfl) (by kernel_rfl) (by kernel_rfl) (fun _ _ _ h => h) (Or.inl ⟨by kernel_rfl, ?_⟩) (by assumption) ?_
       ·intro w hSw
        obtain ⟨y0, y1, y2⟩ := hSw
        go_simp
        try exact H3.out
       simp only [Act.put, List.setIfInBounds_toArray, List.set_cons_zero, List.set_cons_succ]
       refine tk 10 ?_
       refine tk 11 ?_
       refine tk 12 ?_
       refine tk 13 ?_
       refine tk 14 ?_
       refine tk 15 ?_
       refine tk 16 ?_
       refine tk 17 ?_
       refine tk 18 ?_
       refine tk 19 ?_
       refine tk 20 ?_
       refine tk 21 ?_
       refine tk 22 ?_
       refine tk 23 ?_
       refine tk 24 ?_
       refine wpAnyH_ready (rs := [25]) (by kernel_rfl) (by simp) ?_
       refine AllReadyH.cons rfl (fun K hK => ?_) AllReadyH.nil
       go_simp
       refine (roddL base b (decide (y ≤ pv)) _ _ _ hb (R3.below (Below.refl _ _).drew)).mono ?_
       rintro e w4 ⟨rfl, R4, k4'⟩
       have k4 : Kp base b w3 w4 := (Kp.of_below (Below.refl _ _).drew hB3).trans k4'
       have zq5 : w4.cell? ⟨w.heap.size, 5, none⟩ = some (.slice (some ⟨rb, ro, none⟩) x.fr.xs.length x.fr.lc) := by rw [Safe.cell (a := ⟨w.heap.size, 5, none⟩) (X3.safe (b := b) (by decide) hXb) k4]; exact q5
       have zr0 : w4.cell? ⟨rb, ro + k, none⟩ = some (.int .i64 y) := by rw [k4.below.cell (p := ⟨rb, ro + k, none⟩) rl]; exact r0
       have zrp : w4.cell? ⟨rb, ro + (k - 1), none⟩ = some (.int .i64 pv) := by rw [k4.below.cell (p := ⟨rb, ro + (k - 1), none⟩) rl]; exact rp
       refine hK.out _ _ ⟨zq5, zr0, zrp⟩ (fun hHeld2 => ?_)
       clear hK K
       refine wpAnyH_done (by kernel_rfl) ?_ _
       go_wp2
       exact ⟨⟨k + 1, by omega, by go_num, Hend.out (decide (y ≤ pv)) w4 (by rw [Hoa.out, Hpv.out, a1']; simp [hkpos]) R4, KK.trans k4⟩, by simp [intOf]; omega⟩
    ·have hkk : k = x.fr.xs.length := by omega
     rw [hkk, List.take_length] at Rk
     have hge : ¬ (k : Int) < (x.fr.xs.length : Int) := by omega
     clear hkk
     have K9 := K8.trans Kk
     have X9 := Xk
     have R9 := Rk
     clear Rk Xk X8 R8 Kk
     obtain ⟨o3, Ho3⟩ : ∃ o', Hid (o' = (o2 || riseOdd x.fr.xs x.fr.xs.length)) := ⟨_, rfl⟩
     rw [← Ho3.out] at R9
     obtain ⟨m7, Hl7⟩ : ∃ l', Hid (l' = m6 ++ eachL intA x.fr.xs) := ⟨_, rfl⟩
     rw [← Hl7.out] at R9
     have HL7 : Hid (wtL m7 = wtL m6 + (wtL (eachL intA x.fr.xs))) := by
      show _ = _
      rw [Hl7.out, wtL_append] <;> rfl
     go_wp2
     go_end0
     have el : m7 = l ++ x.atoms := by
      rw [Hl7.out, Hl6.out, Hl5.out, Hl4.out, Hl3.out, Hl2.out, Hl1.out]
      simp only [Cert.atoms, nums, digs, intA, flagL, digL, textL, listL, List.map, List.append_assoc, List.cons_append, List.nil_append]
     have eo : o3 = (odd || x.odd) := by
      rw [Ho3.out, Ho2.out, Ho1.out]
      simp only [Cert.odd, Bool.or_assoc]
     exact ⟨rfl, R9.as el eo, K9⟩
end Go.Proofs.YtackcbpabjhmpaaGreat
