import Derived.Test.YtackcbpabjhmpaaGreatM27
namespace Go.Proofs.YtackcbpabjhmpaaGreat
open Go.RowKit
set_option linter.unusedVariables false
set_option linter.unusedSimpArgs false
set_option maxRecDepth 4000 in
set_option maxHeartbeats 6400000 in
theorem rtx_anyX (base b : Nat) (x : Tx) (l : List Atom) (odd : Bool) (w : World) (hb : base ≤ b) (hL : wtL l + wtL x.atoms ≤ 1099400000000) (R : RefL w b l odd) (g : goods base w x.flds) :
  Calls Tryz.prog 83 #[.pointer (some ⟨b, 0, none⟩), .agg #[.int .i64 x.k, .int .i64 x.f, .int .i64 x.n, .int .i64 x.p, .int .i64 x.li, .int .i64 x.to, .int .i64 x.am, .string ⟨x.te.toArray⟩, .slice x.ar.la x.ar.xs.length x.ar.lc, .slice x.si.la x.si.xs.length x.si.lc, .slice x.pr.la x.pr.xs.length x.pr.lc]] w fun e w' => e = .returned (.tuple #[]) ∧ RefL w' b (l ++ x.atoms) (odd || x.odd) ∧ Kp base b w w' := by
 have hlt := R.lt
 have hB0 : base ≤ w.heap.size := Nat.le_trans hb (Nat.le_of_lt hlt)
 have bA : Below w.heap.size w (w.alloc (.cells #[.int .i64 x.k, .int .i64 x.f, .int .i64 x.n, .int .i64 x.p, .int .i64 x.li, .int .i64 x.to, .int .i64 x.am, .string ⟨x.te.toArray⟩, .slice x.ar.la x.ar.xs.length x.ar.lc, .slice x.si.la x.si.xs.length x.si.lc, .slice x.pr.la x.pr.xs.length x.pr.lc] 64)) := (Below.refl _ _).alloc (Nat.le_refl _) _
 have X0 := Blk.new w #[.int .i64 x.k, .int .i64 x.f, .int .i64 x.n, .int .i64 x.p, .int .i64 x.li, .int .i64 x.to, .int .i64 x.am, .string ⟨x.te.toArray⟩, .slice x.ar.la x.ar.xs.length x.ar.lc, .slice x.si.la x.si.xs.length x.si.lc, .slice x.pr.la x.pr.xs.length x.pr.lc] 64
 have K0 : Kp base b w (w.alloc (.cells #[.int .i64 x.k, .int .i64 x.f, .int .i64 x.n, .int .i64 x.p, .int .i64 x.li, .int .i64 x.to, .int .i64 x.am, .string ⟨x.te.toArray⟩, .slice x.ar.la x.ar.xs.length x.ar.lc, .slice x.si.la x.si.xs.length x.si.lc, .slice x.pr.la x.pr.xs.length x.pr.lc] 64)) := Kp.of_below bA hB0
 have R0 := R.below bA
 have hXb : w.heap.size ≠ b := by omega
 have HW : Hid (wtL l + (6 + 6 + 6 + 6 + 6 + 6 + 6 + 6 + x.te.length + 6 + wtL (eachL intA x.ar.xs) + 6 + wtL (eachL Sight.atoms x.si.xs) + 6 + wtL (eachL Proof.atoms x.pr.xs)) ≤ 1099400000000) := by
  have h := hL
  simp only [Tx.atoms, wtL_append, nums, digs, intA, flagL, digL, textL, listL, List.map, wtL, Atom.wt, flagB, be_len, List.length_cons, List.length_nil] at h
  show _ ≤ _
  omega
 clear hL
 go_enter Tryz.func83, Tryz.ntmps83
 have q0 := X0.cell 0
 simp only [List.getElem?_toArray, List.getElem?_cons_zero] at q0
 go_wp2_with fail
 refine (rnumL base b x.k l odd _ hb (g.get 0 rfl) (by have := HW.out; omega) R0).mono ?_
 rintro e w1 ⟨rfl, R1, k⟩
 obtain ⟨m1, Hl1⟩ : ∃ l', Hid (l' = l ++ intA x.k) := ⟨_, rfl⟩
 rw [← Hl1.out] at R1
 have HL1 : Hid (wtL m1 = wtL l + (6)) := by
  show _ = _
  rw [Hl1.out, wtL_append] <;> rfl
 have X1 := X0.kp k hXb
 have K1 := K0.trans k
 clear q0 k X0 R0
 have q1 := X1.cell 1
 simp only [List.getElem?_toArray, List.getElem?_cons_succ, List.getElem?_cons_zero] at q1
 go_wp2_with fail
 refine (rnumL base b x.f m1 odd _ hb (g.get 1 rfl) (by have := HW.out; have := HL1.out; omega) R1).mono ?_
 rintro e w2 ⟨rfl, R2, k⟩
 obtain ⟨m2, Hl2⟩ : ∃ l', Hid (l' = m1 ++ intA x.f) := ⟨_, rfl⟩
 rw [← Hl2.out] at R2
 have HL2 : Hid (wtL m2 = wtL m1 + (6)) := by
  show _ = _
  rw [Hl2.out, wtL_append] <;> rfl
 have X2 := X1.kp k hXb
 have K2 := K1.trans k
 clear q1 k X1 R1
 have q2 := X2.cell 2
 simp only [List.getElem?_toArray, List.getElem?_cons_succ, List.getElem?_cons_zero] at q2
 go_wp2_with fail
 refine (rnumL base b x.n m2 odd _ hb (g.get 2 rfl) (by have := HW.out; have := HL1.out; have := HL2.out; omega) R2).mono ?_
 rintro e w3 ⟨rfl, R3, k⟩
 obtain ⟨m3, Hl3⟩ : ∃ l', Hid (l' = m2 ++ intA x.n) := ⟨_, rfl⟩
 rw [← Hl3.out] at R3
 have HL3 : Hid (wtL m3 = wtL m2 + (6)) := by
  show _ = _
  rw [Hl3.out, wtL_append] <;> rfl
 have X3 := X2.kp k hXb
 have K3 := K2.trans k
 clear q2 k X2 R2
 have q3 := X3.cell 3
 simp only [List.getElem?_toArray, List.getElem?_cons_succ, List.getElem?_cons_zero] at q3
 go_wp2_with fail
 refine (rnumL base b x.p m3 odd _ hb (g.get 3 rfl) (by have := HW.out; have := HL1.out; have := HL2.out; have := HL3.out; omega) R3).mono ?_
 rintro e w4 ⟨rfl, R4, k⟩
 obtain ⟨m4, Hl4⟩ : ∃ l', Hid (l' = m3 ++ intA x.p) := ⟨_, rfl⟩
 rw [← Hl4.out] at R4
 have HL4 : Hid (wtL m4 = wtL m3 + (6)) := by
  show _ = _
  rw [Hl4.out, wtL_append] <;> rfl
 have X4 := X3.kp k hXb
 have K4 := K3.trans k
 clear q3 k X3 R3
 have q4 := X4.cell 4
 simp only [List.getElem?_toArray, List.getElem?_cons_succ, List.getElem?_cons_zero] at q4
 go_wp2_with fail
 refine (rnumL base b x.li m4 odd _ hb (g.get 4 rfl) (by have := HW.out; have := HL1.out; have := HL2.out; have := HL3.out; have := HL4.out; omega) R4).mono ?_
 rintro e w5 ⟨rfl, R5, k⟩
 obtain ⟨m5, Hl5⟩ : ∃ l', Hid (l' = m4 ++ intA x.li) := ⟨_, rfl⟩
 rw [← Hl5.out] at R5
 have HL5 : Hid (wtL m5 = wtL m4 + (6)) := by
  show _ = _
  rw [Hl5.out, wtL_append] <;> rfl
 have X5 := X4.kp k hXb
 have K5 := K4.trans k
 clear q4 k X4 R4
 have q5 := X5.cell 5
 simp only [List.getElem?_toArray, List.getElem?_cons_succ, List.getElem?_cons_zero] at q5
 go_wp2_with fail
 refine (rnumL base b x.to m5 odd _ hb (g.get 5 rfl) (by have := HW.out; have := HL1.out; have := HL2.out; have := HL3.out; have := HL4.out; have := HL5.out; omega) R5).mono ?_
 rintro e w6 ⟨rfl, R6, k⟩
 obtain ⟨m6, Hl6⟩ : ∃ l', Hid (l' = m5 ++ intA x.to) := ⟨_, rfl⟩
 rw [← Hl6.out] at R6
 have HL6 : Hid (wtL m6 = wtL m5 + (6)) := by
  show _ = _
  rw [Hl6.out, wtL_append] <;> rfl
 have X6 := X5.kp k hXb
 have K6 := K5.trans k
 clear q5 k X5 R5
 have q6 := X6.cell 6
 simp only [List.getElem?_toArray, List.getElem?_cons_succ, List.getElem?_cons_zero] at q6
 go_wp2_with fail
 refine (rnumL base b x.am m6 odd _ hb (g.get 6 rfl) (by have := HW.out; have := HL1.out; have := HL2.out; have := HL3.out; have := HL4.out; have := HL5.out; have := HL6.out; omega) R6).mono ?_
 rintro e w7 ⟨rfl, R7, k⟩
 obtain ⟨m7, Hl7⟩ : ∃ l', Hid (l' = m6 ++ intA x.am) := ⟨_, rfl⟩
 rw [← Hl7.out] at R7
 have HL7 : Hid (wtL m7 = wtL m6 + (6)) := by
  show _ = _
  rw [Hl7.out, wtL_append] <;> rfl
 have X7 := X6.kp k hXb
 have K7 := K6.trans k
 clear q6 k X6 R6
 have q7 := X7.cell 7
 simp only [List.getElem?_toArray, List.getElem?_cons_succ, List.getElem?_cons_zero] at q7
 go_wp2_with fail
 refine (rtextL base b x.te 2048 m7 odd _ hb (by omega) (by have := HW.out; have := HL1.out; have := HL2.out; have := HL3.out; have := HL4.out; have := HL5.out; have := HL6.out; have := HL7.out; omega) R7).mono ?_
 rintro e w8 ⟨rfl, R8, k⟩
 obtain ⟨m8, Hl8⟩ : ∃ l', Hid (l' = m7 ++ textL 2048 x.te) := ⟨_, rfl⟩
 rw [← Hl8.out] at R8
 have HL8 : Hid (wtL m8 = wtL m7 + (6 + x.te.length)) := by
  show _ = _
  rw [Hl8.out, wtL_append]
  simp only [textL, wtL, Atom.wt]; omega
 have X8 := X7.kp k hXb
 have K8 := K7.trans k
 clear q7 k X7 R7
 have hh8 := Lst.held intF_len (g.get 8 rfl)
 have hc8 := hh8.1
 have hm8 := hh8.2.1
 unfold maxLen at hm8
 have q8 := X8.cell 8
 simp only [List.getElem?_toArray, List.getElem?_cons_succ, List.getElem?_cons_zero] at q8
 go_wp2_with fail
 refine (rcountL base b (x.ar.xs.length : Int) 8 m8 odd _ hb (by omega) (by omega) (by have := HW.out; have := HL1.out; have := HL2.out; have := HL3.out; have := HL4.out; have := HL5.out; have := HL6.out; have := HL7.out; have := HL8.out; omega) R8).mono ?_
 rintro e w9 ⟨rfl, R9, k⟩
 obtain ⟨m9, Hl9⟩ : ∃ l', Hid (l' = m8 ++ [Atom.num 8 (x.ar.xs.length : Int)]) := ⟨_, rfl⟩
 rw [← Hl9.out] at R9
 have HL9 : Hid (wtL m9 = wtL m8 + (6)) := by
  show _ = _
  rw [Hl9.out, wtL_append] <;> rfl
 have X9 := X8.kp k hXb
 have K9 := K8.trans k
 clear q8 k X8 R8
 go_wp2_with fail
 go_loopw [4] (fun iv wv => ∃ (k : Nat), k ≤ x.ar.xs.length ∧ iv = .int .i64 k ∧ RefL wv b (m9 ++ eachL intA (x.ar.xs.take k)) odd ∧ Kp base b w9 wv) (fun iv _ => x.ar.xs.length - (intOf iv).toNat)
 case atStart => exact ⟨0, Nat.zero_le _, rfl, by simpa [eachL, riseOdd, backsOdd] using R9, Kp.refl _ _ _⟩
 case round =>
  obtain ⟨k, hk, rfl, Rk, Kk⟩ := hrel
  have Xk := X9.kp Kk hXb
  have q8 := Xk.cell 8
  simp only [List.getElem?_toArray, List.getElem?_cons_succ, List.getElem?_cons_zero] at q8
  by_cases hk2 : k < x.ar.xs.length
  ·have hk3 : (k : Int) < (x.ar.xs.length : Int) := by omega
   have Hst : Hid (_ = _) := eachL_take intA x.ar.xs k (x.ar.xs[k]'hk2) (List.getElem?_eq_getElem hk2)
   have HLk : Hid (wtL (m9 ++ eachL intA (x.ar.xs.take k)) + wtL (intA (x.ar.xs[k]'hk2)) ≤ 1099400000000) := by
    show _ ≤ _
    have h1 := eachL_wt intA x.ar.xs k (x.ar.xs[k]'hk2) (List.getElem?_eq_getElem hk2)
    have h2 := HW.out
    have := HL1.out
    have := HL2.out
    have := HL3.out
    have := HL4.out
    have := HL5.out
    have := HL6.out
    have := HL7.out
    have := HL8.out
    have := HL9.out
    rw [wtL_append]; omega
   obtain ⟨_, _, h0 | ⟨rb, ro, e0, rl, rz, rc⟩⟩ := (hh8.below K9.below).below Kk.below
   ·rw [h0] at hk2; simp at hk2
   have rk := rc k (x.ar.xs[k]'hk2) (List.getElem?_eq_getElem hk2)
   obtain ⟨y, Hy⟩ : ∃ y : Int, Hid (y = x.ar.xs[k]'hk2) := ⟨x.ar.xs[k]'hk2, rfl⟩
   rw [← Hy.out] at rk Hst HLk
   rw [Nat.mul_one] at rk
   rw [e0] at q8
   have He0 := show Hid (_ = _) from e0
   clear e0
   have e1 := rk.get0 rfl
   simp only [Fld.val] at e1
   go_wp2_with fail
   refine (rnumL base b y _ _ _ hb (rk.goods.get 0 rfl) (by have := HLk.out; simp only [intA, wtL, Atom.wt] at this; omega) Rk).mono ?_
   rintro e w2 ⟨rfl, R2, k2⟩
   rw [List.append_assoc, ← Hst.out] at R2
   clear HLk Hst rc rk
   go_wp2
   exact ⟨⟨k + 1, by omega, by go_num, R2, Kk.trans k2⟩, by simp [intOf]; omega⟩
  ·have hkk : k = x.ar.xs.length := by omega
   rw [hkk, List.take_length] at Rk
   have hge : ¬ (k : Int) < (x.ar.xs.length : Int) := by omega
   clear hkk
   have K10 := K9.trans Kk
   have X10 := Xk
   have R10 := Rk
   clear Rk Xk X9 R9 Kk
   obtain ⟨m10, Hl10⟩ : ∃ l', Hid (l' = m9 ++ eachL intA x.ar.xs) := ⟨_, rfl⟩
   rw [← Hl10.out] at R10
   have HL10 : Hid (wtL m10 = wtL m9 + (wtL (eachL intA x.ar.xs))) := by
    show _ = _
    rw [Hl10.out, wtL_append] <;> rfl
   have hh9 := Lst.held Sight.len (g.get 9 rfl)
   have hc9 := hh9.1
   have hm9 := hh9.2.1
   unfold maxLen at hm9
   have q9 := X10.cell 9
   simp only [List.getElem?_toArray, List.getElem?_cons_succ, List.getElem?_cons_zero] at q9
   go_wp2_with fail
   refine (rcountL base b (x.si.xs.length : Int) 1 m10 odd _ hb (by omega) (by omega) (by have := HW.out; have := HL1.out; have := HL2.out; have := HL3.out; have := HL4.out; have := HL5.out; have := HL6.out; have := HL7.out; have := HL8.out; have := HL9.out; have := HL10.out; omega) R10).mono ?_
   rintro e w11 ⟨rfl, R11, k⟩
   obtain ⟨m11, Hl11⟩ : ∃ l', Hid (l' = m10 ++ [Atom.num 1 (x.si.xs.length : Int)]) := ⟨_, rfl⟩
   rw [← Hl11.out] at R11
   have HL11 : Hid (wtL m11 = wtL m10 + (6)) := by
    show _ = _
    rw [Hl11.out, wtL_append] <;> rfl
   have X11 := X10.kp k hXb
   have K11 := K10.trans k
   clear q9 k X10 R10
   go_wp2_with fail
   go_loopw [5] (fun iv wv => ∃ (k : Nat), k ≤ x.si.xs.length ∧ iv = .int .i64 k ∧ RefL wv b (m11 ++ eachL Sight.atoms (x.si.xs.take k)) (odd || (x.si.xs.take k).any Sight.odd) ∧ Kp base b w11 wv) (fun iv _ => x.si.xs.length - (intOf iv).toNat)
   case atStart => exact ⟨0, Nat.zero_le _, rfl, by simpa [eachL, riseOdd, backsOdd] using R11, Kp.refl _ _ _⟩
   case round =>
    obtain ⟨k, hk, rfl, Rk, Kk⟩ := hrel
    have Xk := X11.kp Kk hXb
    have q9 := Xk.cell 9
    simp only [List.getElem?_toArray, List.getElem?_cons_succ, List.getElem?_cons_zero] at q9
    by_cases hk2 : k < x.si.xs.length
    ·have hk3 : (k : Int) < (x.si.xs.length : Int) := by omega
     have Hst : Hid (_ = _) := eachL_take Sight.atoms x.si.xs k (x.si.xs[k]'hk2) (List.getElem?_eq_getElem hk2)
     have Hso : Hid (_ = _) := any_take Sight.odd x.si.xs k (x.si.xs[k]'hk2) (List.getElem?_eq_getElem hk2)
     have HLk : Hid (wtL (m11 ++ eachL Sight.atoms (x.si.xs.take k)) + wtL (Sight.atoms (x.si.xs[k]'hk2)) ≤ 1099400000000) := by
      show _ ≤ _
      have h1 := eachL_wt Sight.atoms x.si.xs k (x.si.xs[k]'hk2) (List.getElem?_eq_getElem hk2)
      have h2 := HW.out
      have := HL1.out
      have := HL2.out
      have := HL3.out
      have := HL4.out
      have := HL5.out
      have := HL6.out
      have := HL7.out
      have := HL8.out
      have := HL9.out
      have := HL10.out
      have := HL11.out
      rw [wtL_append]; omega
     obtain ⟨_, _, h0 | ⟨rb, ro, e0, rl, rz, rc⟩⟩ := (hh9.below K11.below).below Kk.below
     ·rw [h0] at hk2; simp at hk2
     have rk := rc k (x.si.xs[k]'hk2) (List.getElem?_eq_getElem hk2)
     obtain ⟨y, Hy⟩ : ∃ y : Sight, Hid (y = x.si.xs[k]'hk2) := ⟨x.si.xs[k]'hk2, rfl⟩
     rw [← Hy.out] at rk Hst HLk Hso
     rw [e0] at q9
     have He0 := show Hid (_ = _) from e0
     clear e0
     have e1 := rk.get0 rfl
     have e2 := rk.get 1 rfl
     have e3 := rk.get 2 rfl
     have e4 := rk.get 3 rfl
     have e5 := rk.get 4 rfl
     have e6 := rk.get 5 rfl
     have e7 := rk.get 6 rfl
     have e8 := rk.get 7 rfl
     have e9 := rk.get 8 rfl
     have e10 := rk.get 9 rfl
     have e11 := rk.get 10 rfl
     have e12 := rk.get 11 rfl
     have e13 := rk.get 12 rfl
     have e14 := rk.get 13 rfl
     have e15 := rk.get 14 rfl
     have e16 := rk.get 15 rfl
     simp only [Fld.val, Lst.fld, List.length_map] at e1 e2 e3 e4 e5 e6 e7 e8 e9 e10 e11 e12 e13 e14 e15 e16
     go_wp2_with fail
     refine (rsight_anyX base b y _ _ _ hb (by have := HLk.out; omega) Rk rk.goods).mono ?_
     rintro e w2 ⟨rfl, R2, k2⟩
     rw [List.append_assoc, ← Hst.out, Bool.or_assoc, ← Hso.out] at R2
     clear HLk Hst rc rk Hso
     go_wp2
     exact ⟨⟨k + 1, by omega, by go_num, R2, Kk.trans k2⟩, by simp [intOf]; omega⟩
    ·have hkk : k = x.si.xs.length := by omega
     rw [hkk, List.take_length] at Rk
     have hge : ¬ (k : Int) < (x.si.xs.length : Int) := by omega
     clear hkk
     have K12 := K11.trans Kk
     have X12 := Xk
     have R12 := Rk
     clear Rk Xk X11 R11 Kk
     obtain ⟨o1, Ho1⟩ : ∃ o', Hid (o' = (odd || x.si.xs.any Sight.odd)) := ⟨_, rfl⟩
     rw [← Ho1.out] at R12
     obtain ⟨m12, Hl12⟩ : ∃ l', Hid (l' = m11 ++ eachL Sight.atoms x.si.xs) := ⟨_, rfl⟩
     rw [← Hl12.out] at R12
     have HL12 : Hid (wtL m12 = wtL m11 + (wtL (eachL Sight.atoms x.si.xs))) := by
      show _ = _
      rw [Hl12.out, wtL_append] <;> rfl
     have hh10 := Lst.held Proof.len (g.get 10 rfl)
     have hc10 := hh10.1
     have hm10 := hh10.2.1
     unfold maxLen at hm10
     have q10 := X12.cell 10
     simp only [List.getElem?_toArray, List.getElem?_cons_succ, List.getElem?_cons_zero] at q10
     go_wp2_with fail
     refine (rcountL base b (x.pr.xs.length : Int) 1 m12 o1 _ hb (by omega) (by omega) (by have := HW.out; have := HL1.out; have := HL2.out; have := HL3.out; have := HL4.out; have := HL5.out; have := HL6.out; have := HL7.out; have := HL8.out; have := HL9.out; have := HL10.out; have := HL11.out; have := HL12.out; omega) R12).mono ?_
     rintro e w13 ⟨rfl, R13, k⟩
     obtain ⟨m13, Hl13⟩ : ∃ l', Hid (l' = m12 ++ [Atom.num 1 (x.pr.xs.length : Int)]) := ⟨_, rfl⟩
     rw [← Hl13.out] at R13
     have HL13 : Hid (wtL m13 = wtL m12 + (6)) := by
      show _ = _
      rw [Hl13.out, wtL_append] <;> rfl
     have X13 := X12.kp k hXb
     have K13 := K12.trans k
     clear q10 k X12 R12
     go_wp2_with fail
     go_loopw [6] (fun iv wv => ∃ (k : Nat), k ≤ x.pr.xs.length ∧ iv = .int .i64 k ∧ RefL wv b (m13 ++ eachL Proof.atoms (x.pr.xs.take k)) (o1 || (x.pr.xs.take k).any Proof.odd) ∧ Kp base b w13 wv) (fun iv _ => x.pr.xs.length - (intOf iv).toNat)
     case atStart => exact ⟨0, Nat.zero_le _, rfl, by simpa [eachL, riseOdd, backsOdd] using R13, Kp.refl _ _ _⟩
     case round =>
      obtain ⟨k, hk, rfl, Rk, Kk⟩ := hrel
      have Xk := X13.kp Kk hXb
      have q10 := Xk.cell 10
      simp only [List.getElem?_toArray, List.getElem?_cons_succ, List.getElem?_cons_zero] at q10
      by_cases hk2 : k < x.pr.xs.length
      ·have hk3 : (k : Int) < (x.pr.xs.length : Int) := by omega
       have Hst : Hid (_ = _) := eachL_take Proof.atoms x.pr.xs k (x.pr.xs[k]'hk2) (List.getElem?_eq_getElem hk2)
       have Hso : Hid (_ = _) := any_take Proof.odd x.pr.xs k (x.pr.xs[k]'hk2) (List.getElem?_eq_getElem hk2)
       have HLk : Hid (wtL (m13 ++ eachL Proof.atoms (x.pr.xs.take k)) + wtL (Proof.atoms (x.pr.xs[k]'hk2)) ≤ 1099400000000) := by
        show _ ≤ _
        have h1 := eachL_wt Proof.atoms x.pr.xs k (x.pr.xs[k]'hk2) (List.getElem?_eq_getElem hk2)
        have h2 := HW.out
        have := HL1.out
        have := HL2.out
        have := HL3.out
        have := HL4.out
        have := HL5.out
        have := HL6.out
        have := HL7.out
        have := HL8.out
        have := HL9.out
        have := HL10.out
        have := HL11.out
        have := HL12.out
        have := HL13.out
        rw [wtL_append]; omega
       obtain ⟨_, _, h0 | ⟨rb, ro, e0, rl, rz, rc⟩⟩ := (hh10.below K13.below).below Kk.below
       ·rw [h0] at hk2; simp at hk2
       have rk := rc k (x.pr.xs[k]'hk2) (List.getElem?_eq_getElem hk2)
       obtain ⟨y, Hy⟩ : ∃ y : Proof, Hid (y = x.pr.xs[k]'hk2) := ⟨x.pr.xs[k]'hk2, rfl⟩
       rw [← Hy.out] at rk Hst HLk Hso
       rw [e0] at q10
       have He0 := show Hid (_ = _) from e0
       clear e0
       have e1 := rk.get0 rfl
       have e2 := rk.get 1 rfl
       have e3 := rk.get 2 rfl
       have e4 := rk.get 3 rfl
       simp only [Fld.val, Lst.fld, List.length_map] at e1 e2 e3 e4
       go_wp2_with fail
       refine (rproof_anyX base b y _ _ _ hb (by have := HLk.out; omega) Rk rk.goods).mono ?_
       rintro e w2 ⟨rfl, R2, k2⟩
       rw [List.append_assoc, ← Hst.out, Bool.or_assoc, ← Hso.out] at R2
       clear HLk Hst rc rk Hso
       go_wp2
       exact ⟨⟨k + 1, by omega, by go_num, R2, Kk.trans k2⟩, by simp [intOf]; omega⟩
      ·have hkk : k = x.pr.xs.length := by omega
       rw [hkk, List.take_length] at Rk
       have hge : ¬ (k : Int) < (x.pr.xs.length : Int) := by omega
       clear hkk
       have K14 := K13.trans Kk
       have X14 := Xk
       have R14 := Rk
       clear Rk Xk X13 R13 Kk
       obtain ⟨o2, Ho2⟩ : ∃ o', Hid (o' = (o1 || x.pr.xs.any Proof.odd)) := ⟨_, rfl⟩
       rw [← Ho2.out] at R14
       obtain ⟨m14, Hl14⟩ : ∃ l', Hid (l' = m13 ++ eachL Proof.atoms x.pr.xs) := ⟨_, rfl⟩
       rw [← Hl14.out] at R14
       have HL14 : Hid (wtL m14 = wtL m13 + (wtL (eachL Proof.atoms x.pr.xs))) := by
        show _ = _
        rw [Hl14.out, wtL_append] <;> rfl
       have q0 := X14.cell 0
       have q1 := X14.cell 1
       simp only [List.getElem?_toArray, List.getElem?_cons_succ, List.getElem?_cons_zero] at q0 q1
       go_upto_region 24 with fail
       go_cut [] (fun wx => RefL wx b m14 (o2 || (decide (x.k < 1) || decide (10 < x.k) || decide (x.f < 1))) ∧ Kp base b wr wx)
       case first =>
        by_cases c1 : x.k < 1
        ·have c1d : decide (x.k < 1) = true := by simpa using c1
         have Hc1 := show Hid (_) from c1
         clear c1
         go_wp2_with fail
         refine (roddL base b _ _ _ _ hb R14).mono ?_
         rintro e w' ⟨rfl, R', k'⟩
         go_wp2_with fail
         go_meet
         case rel => exact ⟨R'.as rfl (by rw [c1d]; simp), k'⟩
        ·have c1d : decide (x.k < 1) = false := by simpa using c1
         have Hc1 := show Hid (_) from c1
         clear c1
         by_cases c2 : 10 < x.k
         ·have c2d : decide (10 < x.k) = true := by simpa using c2
          have Hc2 := show Hid (_) from c2
          clear c2
          go_wp2_with fail
          refine (roddL base b _ _ _ _ hb R14).mono ?_
          rintro e w' ⟨rfl, R', k'⟩
          go_wp2_with fail
          go_meet
          case rel => exact ⟨R'.as rfl (by rw [c2d]; simp), k'⟩
         ·have c2d : decide (10 < x.k) = false := by simpa using c2
          have Hc2 := show Hid (_) from c2
          clear c2
          go_wp2_with fail
          refine (roddL base b _ _ _ _ hb R14).mono ?_
          rintro e w' ⟨rfl, R', k'⟩
          go_wp2_with fail
          go_meet
          case rel => exact ⟨R'.as rfl (by rw [c1d, c2d]; simp), k'⟩
       case rest =>
        obtain ⟨R15, k⟩ := hcut
        obtain ⟨o3, Ho3⟩ : ∃ o', Hid (o' = (o2 || (decide (x.k < 1) || decide (10 < x.k) || decide (x.f < 1)))) := ⟨_, rfl⟩
        rw [← Ho3.out] at R15
        have X15 := X14.kp k hXb
        have K15 := K14.trans k
        clear q0 q1 k X14 R14
        have EL : m14 = l ++ x.atoms := by
         rw [Hl14.out, Hl13.out, Hl12.out, Hl11.out, Hl10.out, Hl9.out, Hl8.out, Hl7.out, Hl6.out, Hl5.out, Hl4.out, Hl3.out, Hl2.out, Hl1.out]
         simp only [Tx.atoms, nums, digs, intA, flagL, digL, textL, listL, List.map, List.append_assoc, List.cons_append, List.nil_append]
        have EO : (o3 || x.tailA) = (odd || x.odd) := by
         rw [Ho3.out, Ho2.out, Ho1.out]
         simp only [Tx.odd, Tx.tailA, Tx.tailB, Tx.tailC, Tx.tailD, Bool.or_assoc]
        refine ‹∀ (a : Act) (w : World), Code.wp Tryz.prog rtxCodeA _ a w → _› _ _ ?_
        exact rtx_tA base b w.heap.size x m14 o3 (fun w' => RefL w' b (l ++ x.atoms) (odd || x.odd) ∧ Kp base b w w') _ _ _ _ _ _ _ _ _ _ _ _ _ _ _ _ _ _ _ _ _ _ _ _ _ _ _ _ _ _ _ _ _ _ _ _ _ _ _ _ _ _ _ _ _ _ _ _ _ _ _ _ _ _ _ _ _ _ _ _ _ _ _ _ _ _ _ _ _ _ _ _ _ _ _ _ _ _ _ _ _ _ _ _ _ _ _ _ _ _ _ _ _ _ _ _ _ _ _ _ _ _ _ _ _ _ _ _ _ _ _ _ _ _ _ _ _ _ _ _ _ _ _ _ _ _ _ _ _ _ _ _ _ _ _ _ _ _ _ _ _ _ _ _ _ _ _ _ _ _ _ _ _ _ _ _ _ _ _ _ _ _ _ _ _ _ _ _ _ _ _ _ _ _ _ _ _ _ _ _ _ _ _ _ _ _ _ _ _ _ _ _ _ _ _ hb (Nat.le_trans hB0 K15.size) hXb X15 R15 hm8 hm9 hm10 hc8 hc9 hc10 (fun w' h k => ⟨h.as EL EO, K15.trans k⟩)
end Go.Proofs.YtackcbpabjhmpaaGreat
