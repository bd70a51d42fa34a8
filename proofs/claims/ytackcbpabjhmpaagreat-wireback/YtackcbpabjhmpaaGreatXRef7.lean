import Derived.Test.YtackcbpabjhmpaaGreatM29
namespace Go.Proofs.YtackcbpabjhmpaaGreat
open Go.RowKit
set_option linter.unusedVariables false
set_option linter.unusedSimpArgs false
set_option maxRecDepth 4000 in
set_option maxHeartbeats 6400000 in
theorem rmotion_anyX (base b : Nat) (x : Motion) (l : List Atom) (odd : Bool) (w : World) (hb : base ≤ b) (hL : wtL l + wtL x.atoms ≤ 1099400000000) (R : RefL w b l odd) (g : goods base w x.flds) :
  Calls Tryz.prog 246 #[.pointer (some ⟨b, 0, none⟩), .agg #[.int .i64 x.ro, .int .i64 x.fr, .int .i64 x.bl.hd.c, .int .i64 x.bl.hd.h, .int .u64 x.bl.hd.pa, .int .u64 x.bl.hd.tx, .int .u64 x.bl.hd.gu, .int .u64 x.bl.hd.st, .int .u64 x.bl.hd.re, .int .u64 x.bl.hd.be, .int .i64 x.bl.hd.pr, .slice x.bl.tx.la x.bl.tx.xs.length x.bl.tx.lc, .slice x.bl.gu.la x.bl.gu.xs.length x.bl.gu.lc, .slice x.ba.la x.ba.xs.length x.ba.lc]] w fun e w' => e = .returned (.tuple #[]) ∧ RefL w' b (l ++ x.atoms) (odd || x.odd) ∧ Kp base b w w' := by
 have hlt := R.lt
 have hB0 : base ≤ w.heap.size := Nat.le_trans hb (Nat.le_of_lt hlt)
 have bA : Below w.heap.size w (w.alloc (.cells #[.int .i64 x.ro, .int .i64 x.fr, .int .i64 x.bl.hd.c, .int .i64 x.bl.hd.h, .int .u64 x.bl.hd.pa, .int .u64 x.bl.hd.tx, .int .u64 x.bl.hd.gu, .int .u64 x.bl.hd.st, .int .u64 x.bl.hd.re, .int .u64 x.bl.hd.be, .int .i64 x.bl.hd.pr, .slice x.bl.tx.la x.bl.tx.xs.length x.bl.tx.lc, .slice x.bl.gu.la x.bl.gu.xs.length x.bl.gu.lc, .slice x.ba.la x.ba.xs.length x.ba.lc] 154)) := (Below.refl _ _).alloc (Nat.le_refl _) _
 have X0 := Blk.new w #[.int .i64 x.ro, .int .i64 x.fr, .int .i64 x.bl.hd.c, .int .i64 x.bl.hd.h, .int .u64 x.bl.hd.pa, .int .u64 x.bl.hd.tx, .int .u64 x.bl.hd.gu, .int .u64 x.bl.hd.st, .int .u64 x.bl.hd.re, .int .u64 x.bl.hd.be, .int .i64 x.bl.hd.pr, .slice x.bl.tx.la x.bl.tx.xs.length x.bl.tx.lc, .slice x.bl.gu.la x.bl.gu.xs.length x.bl.gu.lc, .slice x.ba.la x.ba.xs.length x.ba.lc] 154
 have K0 : Kp base b w (w.alloc (.cells #[.int .i64 x.ro, .int .i64 x.fr, .int .i64 x.bl.hd.c, .int .i64 x.bl.hd.h, .int .u64 x.bl.hd.pa, .int .u64 x.bl.hd.tx, .int .u64 x.bl.hd.gu, .int .u64 x.bl.hd.st, .int .u64 x.bl.hd.re, .int .u64 x.bl.hd.be, .int .i64 x.bl.hd.pr, .slice x.bl.tx.la x.bl.tx.xs.length x.bl.tx.lc, .slice x.bl.gu.la x.bl.gu.xs.length x.bl.gu.lc, .slice x.ba.la x.ba.xs.length x.ba.lc] 154)) := Kp.of_below bA hB0
 have R0 := R.below bA
 have hXb : w.heap.size ≠ b := by omega
 have HW : Hid (wtL l + (6 + 6 + wtL x.bl.atoms + 6 + wtL (eachL Cert.atoms x.ba.xs)) ≤ 1099400000000) := by
  have h := hL
  simp only [Motion.atoms, wtL_append, nums, digs, intA, flagL, digL, textL, listL, List.map, wtL, Atom.wt, flagB, be_len, List.length_cons, List.length_nil] at h
  show _ ≤ _
  omega
 clear hL
 go_enter Tryz.func246, Tryz.ntmps246
 have q0 := X0.cell 0
 simp only [List.getElem?_toArray, List.getElem?_cons_zero] at q0
 go_wp2_with fail
 refine (rnumL base b x.ro l odd _ hb (g.get 0 rfl) (by have := HW.out; omega) R0).mono ?_
 rintro e w1 ⟨rfl, R1, k⟩
 obtain ⟨m1, Hl1⟩ : ∃ l', Hid (l' = l ++ intA x.ro) := ⟨_, rfl⟩
 rw [← Hl1.out] at R1
 have HL1 : Hid (wtL m1 = wtL l + (6)) := by
  show _ = _
  rw [Hl1.out, wtL_append] <;> rfl
 have X1 := X0.kp k hXb
 have K1 := K0.trans k
 clear q0 k X0 R0
 have q1 := X1.cell 1
 simp only [List.getElem?_toArray, List.getElem?_cons_succ, List.getElem?_cons_zero] at q1
 go_wp2_with fail
 refine (rnumL base b x.fr m1 odd _ hb (g.get 1 rfl) (by have := HW.out; have := HL1.out; omega) R1).mono ?_
 rintro e w2 ⟨rfl, R2, k⟩
 obtain ⟨m2, Hl2⟩ : ∃ l', Hid (l' = m1 ++ intA x.fr) := ⟨_, rfl⟩
 rw [← Hl2.out] at R2
 have HL2 : Hid (wtL m2 = wtL m1 + (6)) := by
  show _ = _
  rw [Hl2.out, wtL_append] <;> rfl
 have X2 := X1.kp k hXb
 have K2 := K1.trans k
 clear q1 k X1 R1
 have q2 := X2.cell 2
 have q3 := X2.cell 3
 have q4 := X2.cell 4
 have q5 := X2.cell 5
 have q6 := X2.cell 6
 have q7 := X2.cell 7
 have q8 := X2.cell 8
 have q9 := X2.cell 9
 have q10 := X2.cell 10
 have q11 := X2.cell 11
 have q12 := X2.cell 12
 simp only [List.getElem?_toArray, List.getElem?_cons_succ, List.getElem?_cons_zero] at q2 q3 q4 q5 q6 q7 q8 q9 q10 q11 q12
 go_wp2_with fail
 refine (rblock_anyX base b x.bl m2 odd _ hb (by have := HW.out; have := HL1.out; have := HL2.out; omega) R2 ((g.below K2.below).app.2.app.1)).mono ?_
 rintro e w3 ⟨rfl, R3, k⟩
 obtain ⟨o1, Ho1⟩ : ∃ o', Hid (o' = (odd || x.bl.odd)) := ⟨_, rfl⟩
 rw [← Ho1.out] at R3
 obtain ⟨m3, Hl3⟩ : ∃ l', Hid (l' = m2 ++ x.bl.atoms) := ⟨_, rfl⟩
 rw [← Hl3.out] at R3
 have HL3 : Hid (wtL m3 = wtL m2 + (wtL x.bl.atoms)) := by
  show _ = _
  rw [Hl3.out, wtL_append] <;> rfl
 have X3 := X2.kp k hXb
 have K3 := K2.trans k
 clear q2 q3 q4 q5 q6 q7 q8 q9 q10 q11 q12 k X2 R2
 have hh13 := Lst.held Cert.len (g.get 13 rfl)
 have hc13 := hh13.1
 have hm13 := hh13.2.1
 unfold maxLen at hm13
 have q13 := X3.cell 13
 simp only [List.getElem?_toArray, List.getElem?_cons_succ, List.getElem?_cons_zero] at q13
 go_wp2_with fail
 refine (rcountL base b (x.ba.xs.length : Int) 1 m3 o1 _ hb (by omega) (by omega) (by have := HW.out; have := HL1.out; have := HL2.out; have := HL3.out; omega) R3).mono ?_
 rintro e w4 ⟨rfl, R4, k⟩
 obtain ⟨m4, Hl4⟩ : ∃ l', Hid (l' = m3 ++ [Atom.num 1 (x.ba.xs.length : Int)]) := ⟨_, rfl⟩
 rw [← Hl4.out] at R4
 have HL4 : Hid (wtL m4 = wtL m3 + (6)) := by
  show _ = _
  rw [Hl4.out, wtL_append] <;> rfl
 have X4 := X3.kp k hXb
 have K4 := K3.trans k
 clear q13 k X3 R3
 go_wp2_with fail
 go_loopw [4] (fun iv wv => ∃ (k : Nat), k ≤ x.ba.xs.length ∧ iv = .int .i64 k ∧ RefL wv b (m4 ++ eachL Cert.atoms (x.ba.xs.take k)) (o1 || (x.ba.xs.take k).any Cert.odd) ∧ Kp base b w4 wv) (fun iv _ => x.ba.xs.length - (intOf iv).toNat)
 case atStart => exact ⟨0, Nat.zero_le _, rfl, by simpa [eachL, riseOdd, backsOdd] using R4, Kp.refl _ _ _⟩
 case round =>
  obtain ⟨k, hk, rfl, Rk, Kk⟩ := hrel
  have Xk := X4.kp Kk hXb
  have q13 := Xk.cell 13
  simp only [List.getElem?_toArray, List.getElem?_cons_succ, List.getElem?_cons_zero] at q13
  by_cases hk2 : k < x.ba.xs.length
  ·have hk3 : (k : Int) < (x.ba.xs.length : Int) := by omega
   have Hst : Hid (_ = _) := eachL_take Cert.atoms x.ba.xs k (x.ba.xs[k]'hk2) (List.getElem?_eq_getElem hk2)
   have Hso : Hid (_ = _) := any_take Cert.odd x.ba.xs k (x.ba.xs[k]'hk2) (List.getElem?_eq_getElem hk2)
   have HLk : Hid (wtL (m4 ++ eachL Cert.atoms (x.ba.xs.take k)) + wtL (Cert.atoms (x.ba.xs[k]'hk2)) ≤ 1099400000000) := by
    show _ ≤ _
    have h1 := eachL_wt Cert.atoms x.ba.xs k (x.ba.xs[k]'hk2) (List.getElem?_eq_getElem hk2)
    have h2 := HW.out
    have := HL1.out
    have := HL2.out
    have := HL3.out
    have := HL4.out
    rw [wtL_append]; omega
   obtain ⟨_, _, h0 | ⟨rb, ro, e0, rl, rz, rc⟩⟩ := (hh13.below K4.below).below Kk.below
   ·rw [h0] at hk2; simp at hk2
   have rk := rc k (x.ba.xs[k]'hk2) (List.getElem?_eq_getElem hk2)
   obtain ⟨y, Hy⟩ : ∃ y : Cert, Hid (y = x.ba.xs[k]'hk2) := ⟨x.ba.xs[k]'hk2, rfl⟩
   rw [← Hy.out] at rk Hst HLk Hso
   rw [e0] at q13
   have He0 := show Hid (_ = _) from e0
   clear e0
   have e1 := rk.get0 rfl
   have e2 := rk.get 1 rfl
   have e3 := rk.get 2 rfl
   have e4 := rk.get 3 rfl
   have e5 := rk.get 4 rfl
   have e6 := rk.get 5 rfl
   simp only [Fld.val, Lst.fld, List.length_map] at e1 e2 e3 e4 e5 e6
   go_wp2_with fail
   refine (rcert_anyX base b y _ _ _ hb (by have := HLk.out; omega) Rk rk.goods).mono ?_
   rintro e w2 ⟨rfl, R2, k2⟩
   rw [List.append_assoc, ← Hst.out, Bool.or_assoc, ← Hso.out] at R2
   clear HLk Hst rc rk Hso
   go_wp2
   exact ⟨⟨k + 1, by omega, by go_num, R2, Kk.trans k2⟩, by simp [intOf]; omega⟩
  ·have hkk : k = x.ba.xs.length := by omega
   rw [hkk, List.take_length] at Rk
   have hge : ¬ (k : Int) < (x.ba.xs.length : Int) := by omega
   clear hkk
   have K5 := K4.trans Kk
   have X5 := Xk
   have R5 := Rk
   clear Rk Xk X4 R4 Kk
   obtain ⟨o2, Ho2⟩ : ∃ o', Hid (o' = (o1 || x.ba.xs.any Cert.odd)) := ⟨_, rfl⟩
   rw [← Ho2.out] at R5
   obtain ⟨m5, Hl5⟩ : ∃ l', Hid (l' = m4 ++ eachL Cert.atoms x.ba.xs) := ⟨_, rfl⟩
   rw [← Hl5.out] at R5
   have HL5 : Hid (wtL m5 = wtL m4 + (wtL (eachL Cert.atoms x.ba.xs))) := by
    show _ = _
    rw [Hl5.out, wtL_append] <;> rfl
   have q1 := X5.cell 1
   simp only [List.getElem?_toArray, List.getElem?_cons_succ, List.getElem?_cons_zero] at q1
   go_upto_region 9 with fail
   have Hfin : Hid (∀ w', RefL w' b m5 (o2 || decide (x.fr < 1)) → Kp base b wr w' → RefL w' b (l ++ x.atoms) (odd || x.odd) ∧ Kp base b w w') := by
    intro w' h k
    refine ⟨h.as ?_ ?_, K5.trans k⟩
    ·rw [Hl5.out, Hl4.out, Hl3.out, Hl2.out, Hl1.out]
     simp only [Motion.atoms, nums, digs, intA, flagL, digL, textL, listL, List.map, List.append_assoc, List.cons_append, List.nil_append]
    ·rw [Ho2.out, Ho1.out]
     simp only [Motion.odd, Bool.or_assoc]
   go_wp2_with fail
   refine (roddL base b _ _ _ _ hb R5).mono ?_
   rintro e w' ⟨rfl, R', k'⟩
   go_wp2
   go_end0
   exact ⟨rfl, Hfin.out _ (R'.as rfl (by rfl)) k'⟩
set_option maxRecDepth 4000 in
set_option maxHeartbeats 6400000 in
theorem rknown_anyX (base b : Nat) (x : Known) (l : List Atom) (odd : Bool) (w : World) (hb : base ≤ b) (hL : wtL l + wtL x.atoms ≤ 1099400000000) (R : RefL w b l odd) (g : goods base w x.flds) :
  Calls Tryz.prog 247 #[.pointer (some ⟨b, 0, none⟩), .agg #[.int .i64 x.ce.h, .int .i64 x.ce.r, .int .i64 x.ce.s, .bool x.ce.has, .int .u64 x.ce.bl, .slice x.ce.fr.la x.ce.fr.xs.length x.ce.fr.lc, .int .i64 x.bl.hd.c, .int .i64 x.bl.hd.h, .int .u64 x.bl.hd.pa, .int .u64 x.bl.hd.tx, .int .u64 x.bl.hd.gu, .int .u64 x.bl.hd.st, .int .u64 x.bl.hd.re, .int .u64 x.bl.hd.be, .int .i64 x.bl.hd.pr, .slice x.bl.tx.la x.bl.tx.xs.length x.bl.tx.lc, .slice x.bl.gu.la x.bl.gu.xs.length x.bl.gu.lc]] w fun e w' => e = .returned (.tuple #[]) ∧ RefL w' b (l ++ x.atoms) (odd || x.odd) ∧ Kp base b w w' := by
 have hlt := R.lt
 have hB0 : base ≤ w.heap.size := Nat.le_trans hb (Nat.le_of_lt hlt)
 have bA : Below w.heap.size w (w.alloc (.cells #[.int .i64 x.ce.h, .int .i64 x.ce.r, .int .i64 x.ce.s, .bool x.ce.has, .int .u64 x.ce.bl, .slice x.ce.fr.la x.ce.fr.xs.length x.ce.fr.lc, .int .i64 x.bl.hd.c, .int .i64 x.bl.hd.h, .int .u64 x.bl.hd.pa, .int .u64 x.bl.hd.tx, .int .u64 x.bl.hd.gu, .int .u64 x.bl.hd.st, .int .u64 x.bl.hd.re, .int .u64 x.bl.hd.be, .int .i64 x.bl.hd.pr, .slice x.bl.tx.la x.bl.tx.xs.length x.bl.tx.lc, .slice x.bl.gu.la x.bl.gu.xs.length x.bl.gu.lc] 156)) := (Below.refl _ _).alloc (Nat.le_refl _) _
 have X0 := Blk.new w #[.int .i64 x.ce.h, .int .i64 x.ce.r, .int .i64 x.ce.s, .bool x.ce.has, .int .u64 x.ce.bl, .slice x.ce.fr.la x.ce.fr.xs.length x.ce.fr.lc, .int .i64 x.bl.hd.c, .int .i64 x.bl.hd.h, .int .u64 x.bl.hd.pa, .int .u64 x.bl.hd.tx, .int .u64 x.bl.hd.gu, .int .u64 x.bl.hd.st, .int .u64 x.bl.hd.re, .int .u64 x.bl.hd.be, .int .i64 x.bl.hd.pr, .slice x.bl.tx.la x.bl.tx.xs.length x.bl.tx.lc, .slice x.bl.gu.la x.bl.gu.xs.length x.bl.gu.lc] 156
 have K0 : Kp base b w (w.alloc (.cells #[.int .i64 x.ce.h, .int .i64 x.ce.r, .int .i64 x.ce.s, .bool x.ce.has, .int .u64 x.ce.bl, .slice x.ce.fr.la x.ce.fr.xs.length x.ce.fr.lc, .int .i64 x.bl.hd.c, .int .i64 x.bl.hd.h, .int .u64 x.bl.hd.pa, .int .u64 x.bl.hd.tx, .int .u64 x.bl.hd.gu, .int .u64 x.bl.hd.st, .int .u64 x.bl.hd.re, .int .u64 x.bl.hd.be, .int .i64 x.bl.hd.pr, .slice x.bl.tx.la x.bl.tx.xs.length x.bl.tx.lc, .slice x.bl.gu.la x.bl.gu.xs.length x.bl.gu.lc] 156)) := Kp.of_below bA hB0
 have R0 := R.below bA
 have hXb : w.heap.size ≠ b := by omega
 have HW : Hid (wtL l + (wtL x.ce.atoms + wtL x.bl.atoms) ≤ 1099400000000) := by
  have h := hL
  simp only [Known.atoms, wtL_append, nums, digs, intA, flagL, digL, textL, listL, List.map, wtL, Atom.wt, flagB, be_len, List.length_cons, List.length_nil] at h
  show _ ≤ _
  omega
 clear hL
 go_enter Tryz.func247, Tryz.ntmps247
 have q0 := X0.cell 0
 have q1 := X0.cell 1
 have q2 := X0.cell 2
 have q3 := X0.cell 3
 have q4 := X0.cell 4
 have q5 := X0.cell 5
 simp only [List.getElem?_toArray, List.getElem?_cons_succ, List.getElem?_cons_zero] at q0 q1 q2 q3 q4 q5
 go_wp2_with fail
 refine (rcert_anyX base b x.ce l odd _ hb (by have := HW.out; omega) R0 ((g.below K0.below).app.1)).mono ?_
 rintro e w1 ⟨rfl, R1, k⟩
 obtain ⟨o1, Ho1⟩ : ∃ o', Hid (o' = (odd || x.ce.odd)) := ⟨_, rfl⟩
 rw [← Ho1.out] at R1
 obtain ⟨m1, Hl1⟩ : ∃ l', Hid (l' = l ++ x.ce.atoms) := ⟨_, rfl⟩
 rw [← Hl1.out] at R1
 have HL1 : Hid (wtL m1 = wtL l + (wtL x.ce.atoms)) := by
  show _ = _
  rw [Hl1.out, wtL_append] <;> rfl
 have X1 := X0.kp k hXb
 have K1 := K0.trans k
 clear q0 q1 q2 q3 q4 q5 k X0 R0
 have q6 := X1.cell 6
 have q7 := X1.cell 7
 have q8 := X1.cell 8
 have q9 := X1.cell 9
 have q10 := X1.cell 10
 have q11 := X1.cell 11
 have q12 := X1.cell 12
 have q13 := X1.cell 13
 have q14 := X1.cell 14
 have q15 := X1.cell 15
 have q16 := X1.cell 16
 simp only [List.getElem?_toArray, List.getElem?_cons_succ, List.getElem?_cons_zero] at q6 q7 q8 q9 q10 q11 q12 q13 q14 q15 q16
 go_wp2_with fail
 refine (rblock_anyX base b x.bl m1 o1 _ hb (by have := HW.out; have := HL1.out; omega) R1 ((g.below K1.below).app.2)).mono ?_
 rintro e w2 ⟨rfl, R2, k⟩
 obtain ⟨o2, Ho2⟩ : ∃ o', Hid (o' = (o1 || x.bl.odd)) := ⟨_, rfl⟩
 rw [← Ho2.out] at R2
 obtain ⟨m2, Hl2⟩ : ∃ l', Hid (l' = m1 ++ x.bl.atoms) := ⟨_, rfl⟩
 rw [← Hl2.out] at R2
 have HL2 : Hid (wtL m2 = wtL m1 + (wtL x.bl.atoms)) := by
  show _ = _
  rw [Hl2.out, wtL_append] <;> rfl
 have X2 := X1.kp k hXb
 have K2 := K1.trans k
 clear q6 q7 q8 q9 q10 q11 q12 q13 q14 q15 q16 k X1 R1
 go_wp2
 go_end0
 have el : m2 = l ++ x.atoms := by
  rw [Hl2.out, Hl1.out]
  simp only [Known.atoms, nums, digs, intA, flagL, digL, textL, listL, List.map, List.append_assoc, List.cons_append, List.nil_append]
 have eo : o2 = (odd || x.odd) := by
  rw [Ho2.out, Ho1.out]
  simp only [Known.odd, Bool.or_assoc]
 exact ⟨rfl, R2.as el eo, K2⟩
set_option maxRecDepth 4000 in
set_option maxHeartbeats 6400000 in
theorem rmessage_anyX (base b : Nat) (x : Message) (l : List Atom) (odd : Bool) (w : World) (hb : base ≤ b) (hL : wtL l + wtL x.atoms ≤ 1099400000000) (R : RefL w b l odd) (g : goods base w x.flds) :
  Calls Tryz.prog 184 #[.pointer (some ⟨b, 0, none⟩), .agg #[.int .i64 x.fr, .int .i64 x.to, .int .i64 x.h, .slice x.vo.la x.vo.xs.length x.vo.lc, .slice x.mo.la x.mo.xs.length x.mo.lc, .slice x.kn.la x.kn.xs.length x.kn.lc, .slice x.tx.la x.tx.xs.length x.tx.lc]] w fun e w' => e = .returned (.tuple #[]) ∧ RefL w' b (l ++ x.atoms) (odd || x.odd) ∧ Kp base b w w' := by
 have hlt := R.lt
 have hB0 : base ≤ w.heap.size := Nat.le_trans hb (Nat.le_of_lt hlt)
 have bA : Below w.heap.size w (w.alloc (.cells #[.int .i64 x.fr, .int .i64 x.to, .int .i64 x.h, .slice x.vo.la x.vo.xs.length x.vo.lc, .slice x.mo.la x.mo.xs.length x.mo.lc, .slice x.kn.la x.kn.xs.length x.kn.lc, .slice x.tx.la x.tx.xs.length x.tx.lc] 148)) := (Below.refl _ _).alloc (Nat.le_refl _) _
 have X0 := Blk.new w #[.int .i64 x.fr, .int .i64 x.to, .int .i64 x.h, .slice x.vo.la x.vo.xs.length x.vo.lc, .slice x.mo.la x.mo.xs.length x.mo.lc, .slice x.kn.la x.kn.xs.length x.kn.lc, .slice x.tx.la x.tx.xs.length x.tx.lc] 148
 have K0 : Kp base b w (w.alloc (.cells #[.int .i64 x.fr, .int .i64 x.to, .int .i64 x.h, .slice x.vo.la x.vo.xs.length x.vo.lc, .slice x.mo.la x.mo.xs.length x.mo.lc, .slice x.kn.la x.kn.xs.length x.kn.lc, .slice x.tx.la x.tx.xs.length x.tx.lc] 148)) := Kp.of_below bA hB0
 have R0 := R.below bA
 have hXb : w.heap.size ≠ b := by omega
 have HW : Hid (wtL l + (6 + 6 + 6 + 6 + wtL (eachL Vote.atoms x.vo.xs) + 6 + wtL (eachL Motion.atoms x.mo.xs) + 6 + wtL (eachL Known.atoms x.kn.xs) + 6 + wtL (eachL Tx.atoms x.tx.xs)) ≤ 1099400000000) := by
  have h := hL
  simp only [Message.atoms, wtL_append, nums, digs, intA, flagL, digL, textL, listL, List.map, wtL, Atom.wt, flagB, be_len, List.length_cons, List.length_nil] at h
  show _ ≤ _
  omega
 clear hL
 go_enter Tryz.func184, Tryz.ntmps184
 have q0 := X0.cell 0
 simp only [List.getElem?_toArray, List.getElem?_cons_zero] at q0
 go_wp2_with fail
 refine (rnumL base b x.fr l odd _ hb (g.get 0 rfl) (by have := HW.out; omega) R0).mono ?_
 rintro e w1 ⟨rfl, R1, k⟩
 obtain ⟨m1, Hl1⟩ : ∃ l', Hid (l' = l ++ intA x.fr) := ⟨_, rfl⟩
 rw [← Hl1.out] at R1
 have HL1 : Hid (wtL m1 = wtL l + (6)) := by
  show _ = _
  rw [Hl1.out, wtL_append] <;> rfl
 have X1 := X0.kp k hXb
 have K1 := K0.trans k
 clear q0 k X0 R0
 have q1 := X1.cell 1
 simp only [List.getElem?_toArray, List.getElem?_cons_succ, List.getElem?_cons_zero] at q1
 go_wp2_with fail
 refine (rnumL base b x.to m1 odd _ hb (g.get 1 rfl) (by have := HW.out; have := HL1.out; omega) R1).mono ?_
 rintro e w2 ⟨rfl, R2, k⟩
 obtain ⟨m2, Hl2⟩ : ∃ l', Hid (l' = m1 ++ intA x.to) := ⟨_, rfl⟩
 rw [← Hl2.out] at R2
 have HL2 : Hid (wtL m2 = wtL m1 + (6)) := by
  show _ = _
  rw [Hl2.out, wtL_append] <;> rfl
 have X2 := X1.kp k hXb
 have K2 := K1.trans k
 clear q1 k X1 R1
 have q2 := X2.cell 2
 simp only [List.getElem?_toArray, List.getElem?_cons_succ, List.getElem?_cons_zero] at q2
 go_wp2_with fail
 refine (rnumL base b x.h m2 odd _ hb (g.get 2 rfl) (by have := HW.out; have := HL1.out; have := HL2.out; omega) R2).mono ?_
 rintro e w3 ⟨rfl, R3, k⟩
 obtain ⟨m3, Hl3⟩ : ∃ l', Hid (l' = m2 ++ intA x.h) := ⟨_, rfl⟩
 rw [← Hl3.out] at R3
 have HL3 : Hid (wtL m3 = wtL m2 + (6)) := by
  show _ = _
  rw [Hl3.out, wtL_append] <;> rfl
 have X3 := X2.kp k hXb
 have K3 := K2.trans k
 clear q2 k X2 R2
 have hh3 := Lst.held Vote.len (g.get 3 rfl)
 have hc3 := hh3.1
 have hm3 := hh3.2.1
 unfold maxLen at hm3
 have q3 := X3.cell 3
 simp only [List.getElem?_toArray, List.getElem?_cons_succ, List.getElem?_cons_zero] at q3
 go_wp2_with fail
 refine (rcountL base b (x.vo.xs.length : Int) 512 m3 odd _ hb (by omega) (by omega) (by have := HW.out; have := HL1.out; have := HL2.out; have := HL3.out; omega) R3).mono ?_
 rintro e w4 ⟨rfl, R4, k⟩
 obtain ⟨m4, Hl4⟩ : ∃ l', Hid (l' = m3 ++ [Atom.num 512 (x.vo.xs.length : Int)]) := ⟨_, rfl⟩
 rw [← Hl4.out] at R4
 have HL4 : Hid (wtL m4 = wtL m3 + (6)) := by
  show _ = _
  rw [Hl4.out, wtL_append] <;> rfl
 have X4 := X3.kp k hXb
 have K4 := K3.trans k
 clear q3 k X3 R3
 go_wp2_with fail
 go_loopw [4] (fun iv wv => ∃ (k : Nat), k ≤ x.vo.xs.length ∧ iv = .int .i64 k ∧ RefL wv b (m4 ++ eachL Vote.atoms (x.vo.xs.take k)) (odd || (x.vo.xs.take k).any Vote.odd) ∧ Kp base b w4 wv) (fun iv _ => x.vo.xs.length - (intOf iv).toNat)
 case atStart => exact ⟨0, Nat.zero_le _, rfl, by simpa [eachL, riseOdd, backsOdd] using R4, Kp.refl _ _ _⟩
 case round =>
  obtain ⟨k, hk, rfl, Rk, Kk⟩ := hrel
  have Xk := X4.kp Kk hXb
  have q3 := Xk.cell 3
  simp only [List.getElem?_toArray, List.getElem?_cons_succ, List.getElem?_cons_zero] at q3
  by_cases hk2 : k < x.vo.xs.length
  ·have hk3 : (k : Int) < (x.vo.xs.length : Int) := by omega
   have Hst : Hid (_ = _) := eachL_take Vote.atoms x.vo.xs k (x.vo.xs[k]'hk2) (List.getElem?_eq_getElem hk2)
   have Hso : Hid (_ = _) := any_take Vote.odd x.vo.xs k (x.vo.xs[k]'hk2) (List.getElem?_eq_getElem hk2)
   have HLk : Hid (wtL (m4 ++ eachL Vote.atoms (x.vo.xs.take k)) + wtL (Vote.atoms (x.vo.xs[k]'hk2)) ≤ 1099400000000) := by
    show _ ≤ _
    have h1 := eachL_wt Vote.atoms x.vo.xs k (x.vo.xs[k]'hk2) (List.getElem?_eq_getElem hk2)
    have h2 := HW.out
    have := HL1.out
    have := HL2.out
    have := HL3.out
    have := HL4.out
    rw [wtL_append]; omega
   obtain ⟨_, _, h0 | ⟨rb, ro, e0, rl, rz, rc⟩⟩ := (hh3.below K4.below).below Kk.below
   ·rw [h0] at hk2; simp at hk2
   have rk := rc k (x.vo.xs[k]'hk2) (List.getElem?_eq_getElem hk2)
   obtain ⟨y, Hy⟩ : ∃ y : Vote, Hid (y = x.vo.xs[k]'hk2) := ⟨x.vo.xs[k]'hk2, rfl⟩
   rw [← Hy.out] at rk Hst HLk Hso
   rw [e0] at q3
   have He0 := show Hid (_ = _) from e0
   clear e0
   have e1 := rk.get0 rfl
   have e2 := rk.get 1 rfl
   have e3 := rk.get 2 rfl
   have e4 := rk.get 3 rfl
   have e5 := rk.get 4 rfl
   have e6 := rk.get 5 rfl
   simp only [Fld.val, Lst.fld, List.length_map] at e1 e2 e3 e4 e5 e6
   go_wp2_with fail
   refine (rvote_anyX base b y _ _ _ hb (by have := HLk.out; omega) Rk rk.goods).mono ?_
   rintro e w2 ⟨rfl, R2, k2⟩
   rw [List.append_assoc, ← Hst.out, Bool.or_assoc, ← Hso.out] at R2
   clear HLk Hst rc rk Hso
   go_wp2
   exact ⟨⟨k + 1, by omega, by go_num, R2, Kk.trans k2⟩, by simp [intOf]; omega⟩
  ·have hkk : k = x.vo.xs.length := by omega
   rw [hkk, List.take_length] at Rk
   have hge : ¬ (k : Int) < (x.vo.xs.length : Int) := by omega
   clear hkk
   have K5 := K4.trans Kk
   have X5 := Xk
   have R5 := Rk
   clear Rk Xk X4 R4 Kk
   obtain ⟨o1, Ho1⟩ : ∃ o', Hid (o' = (odd || x.vo.xs.any Vote.odd)) := ⟨_, rfl⟩
   rw [← Ho1.out] at R5
   obtain ⟨m5, Hl5⟩ : ∃ l', Hid (l' = m4 ++ eachL Vote.atoms x.vo.xs) := ⟨_, rfl⟩
   rw [← Hl5.out] at R5
   have HL5 : Hid (wtL m5 = wtL m4 + (wtL (eachL Vote.atoms x.vo.xs))) := by
    show _ = _
    rw [Hl5.out, wtL_append] <;> rfl
   have hh4 := Lst.held Motion.len (g.get 4 rfl)
   have hc4 := hh4.1
   have hm4 := hh4.2.1
   unfold maxLen at hm4
   have q4 := X5.cell 4
   simp only [List.getElem?_toArray, List.getElem?_cons_succ, List.getElem?_cons_zero] at q4
   go_wp2_with fail
   refine (rcountL base b (x.mo.xs.length : Int) 2 m5 o1 _ hb (by omega) (by omega) (by have := HW.out; have := HL1.out; have := HL2.out; have := HL3.out; have := HL4.out; have := HL5.out; omega) R5).mono ?_
   rintro e w6 ⟨rfl, R6, k⟩
   obtain ⟨m6, Hl6⟩ : ∃ l', Hid (l' = m5 ++ [Atom.num 2 (x.mo.xs.length : Int)]) := ⟨_, rfl⟩
   rw [← Hl6.out] at R6
   have HL6 : Hid (wtL m6 = wtL m5 + (6)) := by
    show _ = _
    rw [Hl6.out, wtL_append] <;> rfl
   have X6 := X5.kp k hXb
   have K6 := K5.trans k
   clear q4 k X5 R5
   go_wp2_with fail
   go_loopw [5] (fun iv wv => ∃ (k : Nat), k ≤ x.mo.xs.length ∧ iv = .int .i64 k ∧ RefL wv b (m6 ++ eachL Motion.atoms (x.mo.xs.take k)) (o1 || (x.mo.xs.take k).any Motion.odd) ∧ Kp base b w6 wv) (fun iv _ => x.mo.xs.length - (intOf iv).toNat)
   case atStart => exact ⟨0, Nat.zero_le _, rfl, by simpa [eachL, riseOdd, backsOdd] using R6, Kp.refl _ _ _⟩
   case round =>
    obtain ⟨k, hk, rfl, Rk, Kk⟩ := hrel
    have Xk := X6.kp Kk hXb
    have q4 := Xk.cell 4
    simp only [List.getElem?_toArray, List.getElem?_cons_succ, List.getElem?_cons_zero] at q4
    by_cases hk2 : k < x.mo.xs.length
    ·have hk3 : (k : Int) < (x.mo.xs.length : Int) := by omega
     have Hst : Hid (_ = _) := eachL_take Motion.atoms x.mo.xs k (x.mo.xs[k]'hk2) (List.getElem?_eq_getElem hk2)
     have Hso : Hid (_ = _) := any_take Motion.odd x.mo.xs k (x.mo.xs[k]'hk2) (List.getElem?_eq_getElem hk2)
     have HLk : Hid (wtL (m6 ++ eachL Motion.atoms (x.mo.xs.take k)) + wtL (Motion.atoms (x.mo.xs[k]'hk2)) ≤ 1099400000000) := by
      show _ ≤ _
      have h1 := eachL_wt Motion.atoms x.mo.xs k (x.mo.xs[k]'hk2) (List.getElem?_eq_getElem hk2)
      have h2 := HW.out
      have := HL1.out
      have := HL2.out
      have := HL3.out
      have := HL4.out
      have := HL5.out
      have := HL6.out
      rw [wtL_append]; omega
     obtain ⟨_, _, h0 | ⟨rb, ro, e0, rl, rz, rc⟩⟩ := (hh4.below K6.below).below Kk.below
     ·rw [h0] at hk2; simp at hk2
     have rk := rc k (x.mo.xs[k]'hk2) (List.getElem?_eq_getElem hk2)
     obtain ⟨y, Hy⟩ : ∃ y : Motion, Hid (y = x.mo.xs[k]'hk2) := ⟨x.mo.xs[k]'hk2, rfl⟩
     rw [← Hy.out] at rk Hst HLk Hso
     rw [e0] at q4
     have He0 := show Hid (_ = _) from e0
     clear e0
     have e1 := rk.get0 rfl
     have e2 := rk.get 1 rfl
     have e3 := rk.get 2 rfl
     have e4 := rk.get 3 rfl
     have e5 := rk.get 4 rfl
     have e6 := rk.get 5 rfl
     have e7 := rk.get 6 rfl
     have e8 := rk.get 7 rfl
     have e9 := rk.get 8 rfl
     have e10 := rk.get 9 rfl
     have e11 := rk.get 10 rfl
     have e12 := rk.get 11 rfl
     have e13 := rk.get 12 rfl
     have e14 := rk.get 13 rfl
     simp only [Fld.val, Lst.fld, List.length_map] at e1 e2 e3 e4 e5 e6 e7 e8 e9 e10 e11 e12 e13 e14
     go_wp2_with fail
     refine (rmotion_anyX base b y _ _ _ hb (by have := HLk.out; omega) Rk rk.goods).mono ?_
     rintro e w2 ⟨rfl, R2, k2⟩
     rw [List.append_assoc, ← Hst.out, Bool.or_assoc, ← Hso.out] at R2
     clear HLk Hst rc rk Hso
     go_wp2
     exact ⟨⟨k + 1, by omega, by go_num, R2, Kk.trans k2⟩, by simp [intOf]; omega⟩
    ·have hkk : k = x.mo.xs.length := by omega
     rw [hkk, List.take_length] at Rk
     have hge : ¬ (k : Int) < (x.mo.xs.length : Int) := by omega
     clear hkk
     have K7 := K6.trans Kk
     have X7 := Xk
     have R7 := Rk
     clear Rk Xk X6 R6 Kk
     obtain ⟨o2, Ho2⟩ : ∃ o', Hid (o' = (o1 || x.mo.xs.any Motion.odd)) := ⟨_, rfl⟩
     rw [← Ho2.out] at R7
     obtain ⟨m7, Hl7⟩ : ∃ l', Hid (l' = m6 ++ eachL Motion.atoms x.mo.xs) := ⟨_, rfl⟩
     rw [← Hl7.out] at R7
     have HL7 : Hid (wtL m7 = wtL m6 + (wtL (eachL Motion.atoms x.mo.xs))) := by
      show _ = _
      rw [Hl7.out, wtL_append] <;> rfl
     have hh5 := Lst.held Known.len (g.get 5 rfl)
     have hc5 := hh5.1
     have hm5 := hh5.2.1
     unfold maxLen at hm5
     have q5 := X7.cell 5
     simp only [List.getElem?_toArray, List.getElem?_cons_succ, List.getElem?_cons_zero] at q5
     go_wp2_with fail
     refine (rcountL base b (x.kn.xs.length : Int) 2 m7 o2 _ hb (by omega) (by omega) (by have := HW.out; have := HL1.out; have := HL2.out; have := HL3.out; have := HL4.out; have := HL5.out; have := HL6.out; have := HL7.out; omega) R7).mono ?_
     rintro e w8 ⟨rfl, R8, k⟩
     obtain ⟨m8, Hl8⟩ : ∃ l', Hid (l' = m7 ++ [Atom.num 2 (x.kn.xs.length : Int)]) := ⟨_, rfl⟩
     rw [← Hl8.out] at R8
     have HL8 : Hid (wtL m8 = wtL m7 + (6)) := by
      show _ = _
      rw [Hl8.out, wtL_append] <;> rfl
     have X8 := X7.kp k hXb
     have K8 := K7.trans k
     clear q5 k X7 R7
     go_wp2_with fail
     go_loopw [6] (fun iv wv => ∃ (k : Nat), k ≤ x.kn.xs.length ∧ iv = .int .i64 k ∧ RefL wv b (m8 ++ eachL Known.atoms (x.kn.xs.take k)) (o2 || (x.kn.xs.take k).any Known.odd) ∧ Kp base b w8 wv) (fun iv _ => x.kn.xs.length - (intOf iv).toNat)
     case atStart => exact ⟨0, Nat.zero_le _, rfl, by simpa [eachL, riseOdd, backsOdd] using R8, Kp.refl _ _ _⟩
     case round =>
      obtain ⟨k, hk, rfl, Rk, Kk⟩ := hrel
      have Xk := X8.kp Kk hXb
      have q5 := Xk.cell 5
      simp only [List.getElem?_toArray, List.getElem?_cons_succ, List.getElem?_cons_zero] at q5
      by_cases hk2 : k < x.kn.xs.length
      ·have hk3 : (k : Int) < (x.kn.xs.length : Int) := by omega
       have Hst : Hid (_ = _) := eachL_take Known.atoms x.kn.xs k (x.kn.xs[k]'hk2) (List.getElem?_eq_getElem hk2)
       have Hso : Hid (_ = _) := any_take Known.odd x.kn.xs k (x.kn.xs[k]'hk2) (List.getElem?_eq_getElem hk2)
       have HLk : Hid (wtL (m8 ++ eachL Known.atoms (x.kn.xs.take k)) + wtL (Known.atoms (x.kn.xs[k]'hk2)) ≤ 1099400000000) := by
        show _ ≤ _
        have h1 := eachL_wt Known.atoms x.kn.xs k (x.kn.xs[k]'hk2) (List.getElem?_eq_getElem hk2)
        have h2 := HW.out
        have := HL1.out
        have := HL2.out
        have := HL3.out
        have := HL4.out
        have := HL5.out
        have := HL6.out
        have := HL7.out
        have := HL8.out
        rw [wtL_append]; omega
       obtain ⟨_, _, h0 | ⟨rb, ro, e0, rl, rz, rc⟩⟩ := (hh5.below K8.below).below Kk.below
       ·rw [h0] at hk2; simp at hk2
       have rk := rc k (x.kn.xs[k]'hk2) (List.getElem?_eq_getElem hk2)
       obtain ⟨y, Hy⟩ : ∃ y : Known, Hid (y = x.kn.xs[k]'hk2) := ⟨x.kn.xs[k]'hk2, rfl⟩
       rw [← Hy.out] at rk Hst HLk Hso
       rw [e0] at q5
       have He0 := show Hid (_ = _) from e0
       clear e0
       have e1 := rk.get0 rfl
       have e2 := rk.get 1 rfl
       have e3 := rk.get 2 rfl
       have e4 := rk.get 3 rfl
       have e5 := rk.get 4 rfl
       have e6 := rk.get 5 rfl
       have e7 := rk.get 6 rfl
       have e8 := rk.get 7 rfl
       have e9 := rk.get 8 rfl
       have e10 := rk.get 9 rfl
       have e11 := rk.get 10 rfl
       have e12 := rk.get 11 rfl
       have e13 := rk.get 12 rfl
       have e14 := rk.get 13 rfl
       have e15 := rk.get 14 rfl
       have e16 := rk.get 15 rfl
       have e17 := rk.get 16 rfl
       simp only [Fld.val, Lst.fld, List.length_map] at e1 e2 e3 e4 e5 e6 e7 e8 e9 e10 e11 e12 e13 e14 e15 e16 e17
       go_wp2_with fail
       refine (rknown_anyX base b y _ _ _ hb (by have := HLk.out; omega) Rk rk.goods).mono ?_
       rintro e w2 ⟨rfl, R2, k2⟩
       rw [List.append_assoc, ← Hst.out, Bool.or_assoc, ← Hso.out] at R2
       clear HLk Hst rc rk Hso
       go_wp2
       exact ⟨⟨k + 1, by omega, by go_num, R2, Kk.trans k2⟩, by simp [intOf]; omega⟩
      ·have hkk : k = x.kn.xs.length := by omega
       rw [hkk, List.take_length] at Rk
       have hge : ¬ (k : Int) < (x.kn.xs.length : Int) := by omega
       clear hkk
       have K9 := K8.trans Kk
       have X9 := Xk
       have R9 := Rk
       clear Rk Xk X8 R8 Kk
       obtain ⟨o3, Ho3⟩ : ∃ o', Hid (o' = (o2 || x.kn.xs.any Known.odd)) := ⟨_, rfl⟩
       rw [← Ho3.out] at R9
       obtain ⟨m9, Hl9⟩ : ∃ l', Hid (l' = m8 ++ eachL Known.atoms x.kn.xs) := ⟨_, rfl⟩
       rw [← Hl9.out] at R9
       have HL9 : Hid (wtL m9 = wtL m8 + (wtL (eachL Known.atoms x.kn.xs))) := by
        show _ = _
        rw [Hl9.out, wtL_append] <;> rfl
       have hh6 := Lst.held Tx.len (g.get 6 rfl)
       have hc6 := hh6.1
       have hm6 := hh6.2.1
       unfold maxLen at hm6
       have q6 := X9.cell 6
       simp only [List.getElem?_toArray, List.getElem?_cons_succ, List.getElem?_cons_zero] at q6
       go_wp2_with fail
       refine (rcountL base b (x.tx.xs.length : Int) 16 m9 o3 _ hb (by omega) (by omega) (by have := HW.out; have := HL1.out; have := HL2.out; have := HL3.out; have := HL4.out; have := HL5.out; have := HL6.out; have := HL7.out; have := HL8.out; have := HL9.out; omega) R9).mono ?_
       rintro e w10 ⟨rfl, R10, k⟩
       obtain ⟨m10, Hl10⟩ : ∃ l', Hid (l' = m9 ++ [Atom.num 16 (x.tx.xs.length : Int)]) := ⟨_, rfl⟩
       rw [← Hl10.out] at R10
       have HL10 : Hid (wtL m10 = wtL m9 + (6)) := by
        show _ = _
        rw [Hl10.out, wtL_append] <;> rfl
       have X10 := X9.kp k hXb
       have K10 := K9.trans k
       clear q6 k X9 R9
       go_wp2_with fail
       go_loopw [7] (fun iv wv => ∃ (k : Nat), k ≤ x.tx.xs.length ∧ iv = .int .i64 k ∧ RefL wv b (m10 ++ eachL Tx.atoms (x.tx.xs.take k)) (o3 || (x.tx.xs.take k).any Tx.odd) ∧ Kp base b w10 wv) (fun iv _ => x.tx.xs.length - (intOf iv).toNat)
       case atStart => exact ⟨0, Nat.zero_le _, rfl, by simpa [eachL, riseOdd, backsOdd] using R10, Kp.refl _ _ _⟩
       case round =>
        obtain ⟨k, hk, rfl, Rk, Kk⟩ := hrel
        have Xk := X10.kp Kk hXb
        have q6 := Xk.cell 6
        simp only [List.getElem?_toArray, List.getElem?_cons_succ, List.getElem?_cons_zero] at q6
        by_cases hk2 : k < x.tx.xs.length
        ·have hk3 : (k : Int) < (x.tx.xs.length : Int) := by omega
         have Hst : Hid (_ = _) := eachL_take Tx.atoms x.tx.xs k (x.tx.xs[k]'hk2) (List.getElem?_eq_getElem hk2)
         have Hso : Hid (_ = _) := any_take Tx.odd x.tx.xs k (x.tx.xs[k]'hk2) (List.getElem?_eq_getElem hk2)
         have HLk : Hid (wtL (m10 ++ eachL Tx.atoms (x.tx.xs.take k)) + wtL (Tx.atoms (x.tx.xs[k]'hk2)) ≤ 1099400000000) := by
          show _ ≤ _
          have h1 := eachL_wt Tx.atoms x.tx.xs k (x.tx.xs[k]'hk2) (List.getElem?_eq_getElem hk2)
          have h2 := HW.out
          have := HL1.out
          have := HL2.out
          have := HL3.out
          have := HL4.out
          have := HL5.out
          have := HL6.out
          have := HL7.out
          have := HL8.out
          have := HL9.out
          have := HL10.out
          rw [wtL_append]; omega
         obtain ⟨_, _, h0 | ⟨rb, ro, e0, rl, rz, rc⟩⟩ := (hh6.below K10.below).below Kk.below
         ·rw [h0] at hk2; simp at hk2
         have rk := rc k (x.tx.xs[k]'hk2) (List.getElem?_eq_getElem hk2)
         obtain ⟨y, Hy⟩ : ∃ y : Tx, Hid (y = x.tx.xs[k]'hk2) := ⟨x.tx.xs[k]'hk2, rfl⟩
         rw [← Hy.out] at rk Hst HLk Hso
         rw [e0] at q6
         have He0 := show Hid (_ = _) from e0
         clear e0
         have e1 := rk.get0 rfl
         have e2 := rk.get 1 rfl
         have e3 := rk.get 2 rfl
         have e4 := rk.get 3 rfl
         have e5 := rk.get 4 rfl
         have e6 := rk.get 5 rfl
         have e7 := rk.get 6 rfl
         have e8 := rk.get 7 rfl
         have e9 := rk.get 8 rfl
         have e10 := rk.get 9 rfl
         have e11 := rk.get 10 rfl
         simp only [Fld.val, Lst.fld, List.length_map] at e1 e2 e3 e4 e5 e6 e7 e8 e9 e10 e11
         go_wp2_with fail
         refine (rtx_anyX base b y _ _ _ hb (by have := HLk.out; omega) Rk rk.goods).mono ?_
         rintro e w2 ⟨rfl, R2, k2⟩
         rw [List.append_assoc, ← Hst.out, Bool.or_assoc, ← Hso.out] at R2
         clear HLk Hst rc rk Hso
         go_wp2
         exact ⟨⟨k + 1, by omega, by go_num, R2, Kk.trans k2⟩, by simp [intOf]; omega⟩
        ·have hkk : k = x.tx.xs.length := by omega
         rw [hkk, List.take_length] at Rk
         have hge : ¬ (k : Int) < (x.tx.xs.length : Int) := by omega
         clear hkk
         have K11 := K10.trans Kk
         have X11 := Xk
         have R11 := Rk
         clear Rk Xk X10 R10 Kk
         obtain ⟨o4, Ho4⟩ : ∃ o', Hid (o' = (o3 || x.tx.xs.any Tx.odd)) := ⟨_, rfl⟩
         rw [← Ho4.out] at R11
         obtain ⟨m11, Hl11⟩ : ∃ l', Hid (l' = m10 ++ eachL Tx.atoms x.tx.xs) := ⟨_, rfl⟩
         rw [← Hl11.out] at R11
         have HL11 : Hid (wtL m11 = wtL m10 + (wtL (eachL Tx.atoms x.tx.xs))) := by
          show _ = _
          rw [Hl11.out, wtL_append] <;> rfl
         have q0 := X11.cell 0
         simp only [List.getElem?_toArray, List.getElem?_cons_zero] at q0
         go_upto_region 24 with fail
         have Hfin : Hid (∀ w', RefL w' b m11 (o4 || decide (x.fr < 1)) → Kp base b wr w' → RefL w' b (l ++ x.atoms) (odd || x.odd) ∧ Kp base b w w') := by
          intro w' h k
          refine ⟨h.as ?_ ?_, K11.trans k⟩
          ·rw [Hl11.out, Hl10.out, Hl9.out, Hl8.out, Hl7.out, Hl6.out, Hl5.out, Hl4.out, Hl3.out, Hl2.out, Hl1.out]
           simp only [Message.atoms, nums, digs, intA, flagL, digL, textL, listL, List.map, List.append_assoc, List.cons_append, List.nil_append]
          ·rw [Ho4.out, Ho3.out, Ho2.out, Ho1.out]
           simp only [Message.odd, Bool.or_assoc]
         go_wp2_with fail
         refine (roddL base b _ _ _ _ hb R11).mono ?_
         rintro e w' ⟨rfl, R', k'⟩
         go_wp2
         go_end0
         exact ⟨rfl, Hfin.out _ (R'.as rfl (by rfl)) k'⟩
end Go.Proofs.YtackcbpabjhmpaaGreat
