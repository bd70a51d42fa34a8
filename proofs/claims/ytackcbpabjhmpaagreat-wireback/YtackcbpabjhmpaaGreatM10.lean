import Derived.Test.YtackcbpabjhmpaaGreatM09
namespace Go.Proofs.YtackcbpabjhmpaaGreat
open Go.RowKit
set_option linter.unusedVariables false
set_option linter.unusedSimpArgs false
def voteZ (h r s : Int) (has : Bool) (bl f : Int) : List UInt8 := numZ h ++ numZ r ++ numZ s ++ flagB has ++ be bl 8 ++ numZ f
def voteFar (h r s f : Int) : Bool := !inNum h || !inNum r || !inNum s || !inNum f
def voteOdd (s : Int) (has : Bool) (bl f : Int) : Bool := decide (2 < s) || decide (f < 1) || (!has && (decide (bl ≠ 0) || decide (s = 0)))
set_option maxHeartbeats 3200000 in
theorem rvote_any (base b : Nat) (h : Int) (r : Int) (s : Int) (has : Bool) (bl : Int) (f : Int) (B : List UInt8) (far odd : Bool) (w : World) (hb : base ≤ b) (bh : -9223372036854775808 ≤ h ∧ h ≤ 9223372036854775807) (br : -9223372036854775808 ≤ r ∧ r ≤ 9223372036854775807) (bs : -9223372036854775808 ≤ s ∧ s ≤ 9223372036854775807) (bbl : 0 ≤ bl ∧ bl ≤ 18446744073709551615) (bf : -9223372036854775808 ≤ f ∧ f ≤ 9223372036854775807) (hB : B.length ≤ 1099511620000) (R : RefAt w b B far odd) :
  Calls Tryz.prog 53 #[.pointer (some ⟨b, 0, none⟩), .agg #[.int .i64 h, .int .i64 r, .int .i64 s, .bool has, .int .u64 bl, .int .i64 f]] w fun e w' => e = .returned (.tuple #[]) ∧ RefAt w' b (B ++ voteZ h r s has bl f) (far || voteFar h r s f) (odd || voteOdd s has bl f) ∧ Kp base b w w' := by
 have hlt := Blk.lt R
 have hB0 : base ≤ w.heap.size := Nat.le_trans hb (Nat.le_of_lt hlt)
 have bA : Below w.heap.size w (w.alloc (.cells #[.int .i64 h, .int .i64 r, .int .i64 s, .bool has, .int .u64 bl, .int .i64 f] 36)) := (Below.refl _ _).alloc (Nat.le_refl _) _
 have X0 := Blk.new w #[.int .i64 h, .int .i64 r, .int .i64 s, .bool has, .int .u64 bl, .int .i64 f] 36
 have K0 : Kp base b w (w.alloc (.cells #[.int .i64 h, .int .i64 r, .int .i64 s, .bool has, .int .u64 bl, .int .i64 f] 36)) := Kp.of_below bA hB0
 have R0 := R.below bA
 have hXb : w.heap.size ≠ b := by omega
 go_enter Tryz.func53, Tryz.ntmps53
 have q0 := X0.cell 0
 simp only [List.getElem?_toArray, List.getElem?_cons_zero] at q0
 go_wp2_with fail
 refine (rnum_any base b h (B) (far) (odd) _ hb bh (by omega) R0).mono ?_
 rintro e w1 ⟨rfl, R1, k1⟩
 have L1 : (B ++ numZ h).length ≤ B.length + 6 := by rw [List.length_append]; have := numZ_len h; omega
 have X1 := X0.kp k1 hXb
 have K1 := K0.trans k1
 clear q0
 have q1 := X1.cell 1
 simp only [List.getElem?_toArray, List.getElem?_cons_succ, List.getElem?_cons_zero] at q1
 go_wp2_with fail
 refine (rnum_any base b r (B ++ numZ h) (far || !inNum h) (odd) _ hb br (by omega) R1).mono ?_
 rintro e w2 ⟨rfl, R2, k2⟩
 have L2 : (B ++ numZ h ++ numZ r).length ≤ B.length + 12 := by rw [List.length_append]; have := numZ_len r; omega
 have X2 := X1.kp k2 hXb
 have K2 := K1.trans k2
 clear q1
 have q2 := X2.cell 2
 simp only [List.getElem?_toArray, List.getElem?_cons_succ, List.getElem?_cons_zero] at q2
 go_wp2_with fail
 refine (rnum_any base b s (B ++ numZ h ++ numZ r) (far || !inNum h || !inNum r) (odd) _ hb bs (by omega) R2).mono ?_
 rintro e w3 ⟨rfl, R3, k3⟩
 have L3 : (B ++ numZ h ++ numZ r ++ numZ s).length ≤ B.length + 18 := by rw [List.length_append]; have := numZ_len s; omega
 have X3 := X2.kp k3 hXb
 have K3 := K2.trans k3
 clear q2
 have q3 := X3.cell 3
 simp only [List.getElem?_toArray, List.getElem?_cons_succ, List.getElem?_cons_zero] at q3
 go_wp2_with fail
 refine (rflag_any base b has (B ++ numZ h ++ numZ r ++ numZ s) (far || !inNum h || !inNum r || !inNum s) (odd) _ hb (by omega) R3).mono ?_
 rintro e w4 ⟨rfl, R4f, k4⟩
 have R4 : RefAt w4 b (B ++ numZ h ++ numZ r ++ numZ s ++ flagB has) (far || !inNum h || !inNum r || !inNum s) (odd) := R4f
 have L4 : (B ++ numZ h ++ numZ r ++ numZ s ++ flagB has).length ≤ B.length + 19 := by rw [List.length_append]; have : (flagB has).length = 1 := rfl; omega
 have X4 := X3.kp k4 hXb
 have K4 := K3.trans k4
 clear q3
 have q4 := X4.cell 4
 simp only [List.getElem?_toArray, List.getElem?_cons_succ, List.getElem?_cons_zero] at q4
 go_wp2_with fail
 refine (rdig_any base b bl (B ++ numZ h ++ numZ r ++ numZ s ++ flagB has) (far || !inNum h || !inNum r || !inNum s) (odd) _ hb bbl (by omega) R4).mono ?_
 rintro e w5 ⟨rfl, R5, k5⟩
 have L5 : (B ++ numZ h ++ numZ r ++ numZ s ++ flagB has ++ be bl 8).length ≤ B.length + 27 := by rw [List.length_append]; have := be_len bl 8; omega
 have X5 := X4.kp k5 hXb
 have K5 := K4.trans k5
 clear q4
 have q5 := X5.cell 5
 simp only [List.getElem?_toArray, List.getElem?_cons_succ, List.getElem?_cons_zero] at q5
 go_wp2_with fail
 refine (rnum_any base b f (B ++ numZ h ++ numZ r ++ numZ s ++ flagB has ++ be bl 8) (far || !inNum h || !inNum r || !inNum s) (odd) _ hb bf (by omega) R5).mono ?_
 rintro e w6 ⟨rfl, R6, k6⟩
 have L6 : (B ++ numZ h ++ numZ r ++ numZ s ++ flagB has ++ be bl 8 ++ numZ f).length ≤ B.length + 33 := by rw [List.length_append]; have := numZ_len f; omega
 have X6 := X5.kp k6 hXb
 have K6 := K5.trans k6
 clear q5
 clear L1 L2 L3 L4 L5 k1 k2 k3 k4 k5 k6
 have EB : B ++ numZ h ++ numZ r ++ numZ s ++ flagB has ++ be bl 8 ++ numZ f = B ++ voteZ h r s has bl f := by simp [voteZ, List.append_assoc]
 have EF : (far || !inNum h || !inNum r || !inNum s || !inNum f) = (far || voteFar h r s f) := by simp [voteFar, Bool.or_assoc]
 rw [EB, EF] at R6
 have fin : ∀ (x y : Bool), x = (decide (2 < s) || decide (f < 1)) → y = (!has && (decide (bl ≠ 0) || decide (s = 0))) → (odd || x || y) = (odd || voteOdd s has bl f) := by
  intro x y hx hy
  rw [hx, hy]
  unfold voteOdd
  rw [Bool.or_assoc]
 clear EB EF
 have q2 := X6.cell 2
 have q5 := X6.cell 5
 simp only [List.getElem?_toArray, List.getElem?_cons_succ, List.getElem?_cons_zero] at q2 q5
 by_cases h2 : 2 < s
 ·go_wp2_with fail
  refine (rodd_any base b true _ _ _ _ hb R6).mono ?_
  rintro e w7 ⟨rfl, R7, k7⟩
  clear q2 q5
  have X7 := X6.kp k7 hXb
  have p2 := X7.cell 2
  have p3 := X7.cell 3
  have p4 := X7.cell 4
  simp only [List.getElem?_toArray, List.getElem?_cons_succ, List.getElem?_cons_zero] at p2 p3 p4
  have K7 := K6.trans k7
  cases has
  ·by_cases hbz : bl = 0
   ·subst hbz
    go_wp2_with fail
    refine (rodd_any base b (decide (s = 0)) _ _ _ _ hb R7).mono ?_
    rintro e w8 ⟨rfl, R8, k8⟩
    rw [fin true (decide (s = 0)) (by simp [h2]) (by simp)] at R8
    go_wp2
    go_end0
    exact ⟨rfl, R8, K7.trans k8⟩
   ·have hbn : (bl != 0) = true := by simpa using hbz
    go_wp2_with fail
    refine (rodd_any base b true _ _ _ _ hb R7).mono ?_
    rintro e w8 ⟨rfl, R8, k8⟩
    rw [fin true true (by simp [h2]) (by simp [hbz])] at R8
    go_wp2
    go_end0
    exact ⟨rfl, R8, K7.trans k8⟩
  ·go_wp2_with fail
   refine (rodd_any base b false _ _ _ _ hb R7).mono ?_
   rintro e w8 ⟨rfl, R8, k8⟩
   rw [fin true false (by simp [h2]) (by simp)] at R8
   go_wp2
   go_end0
   exact ⟨rfl, R8, K7.trans k8⟩
 ·go_wp2_with fail
  refine (rodd_any base b (decide (2 < s) || decide (f < 1)) _ _ _ _ hb R6).mono ?_
  rintro e w7 ⟨rfl, R7, k7⟩
  clear q2 q5
  have X7 := X6.kp k7 hXb
  have p2 := X7.cell 2
  have p3 := X7.cell 3
  have p4 := X7.cell 4
  simp only [List.getElem?_toArray, List.getElem?_cons_succ, List.getElem?_cons_zero] at p2 p3 p4
  have K7 := K6.trans k7
  cases has
  ·by_cases hbz : bl = 0
   ·subst hbz
    go_wp2_with fail
    refine (rodd_any base b (decide (s = 0)) _ _ _ _ hb R7).mono ?_
    rintro e w8 ⟨rfl, R8, k8⟩
    rw [fin (decide (2 < s) || decide (f < 1)) (decide (s = 0)) rfl (by simp)] at R8
    go_wp2
    go_end0
    exact ⟨rfl, R8, K7.trans k8⟩
   ·have hbn : (bl != 0) = true := by simpa using hbz
    go_wp2_with fail
    refine (rodd_any base b true _ _ _ _ hb R7).mono ?_
    rintro e w8 ⟨rfl, R8, k8⟩
    rw [fin (decide (2 < s) || decide (f < 1)) true rfl (by simp [hbz])] at R8
    go_wp2
    go_end0
    exact ⟨rfl, R8, K7.trans k8⟩
  ·go_wp2_with fail
   refine (rodd_any base b false _ _ _ _ hb R7).mono ?_
   rintro e w8 ⟨rfl, R8, k8⟩
   rw [fin (decide (2 < s) || decide (f < 1)) false rfl (by simp)] at R8
   go_wp2
   go_end0
   exact ⟨rfl, R8, K7.trans k8⟩
def parcelZ (k t a : Int) : List UInt8 := numZ k ++ numZ t ++ numZ a
def parcelFar (k t a : Int) : Bool := !inNum k || !inNum t || !inNum a
def parcelOdd (k t : Int) : Bool := decide (k < 1) || decide (2 < k) || decide (t < 1)
set_option maxHeartbeats 3200000 in
theorem rparcel_any (base b : Nat) (k : Int) (t : Int) (a : Int) (B : List UInt8) (far odd : Bool) (w : World) (hb : base ≤ b) (bk : -9223372036854775808 ≤ k ∧ k ≤ 9223372036854775807) (bt : -9223372036854775808 ≤ t ∧ t ≤ 9223372036854775807) (ba : -9223372036854775808 ≤ a ∧ a ≤ 9223372036854775807) (hB : B.length ≤ 1099511620000) (R : RefAt w b B far odd) :
  Calls Tryz.prog 201 #[.pointer (some ⟨b, 0, none⟩), .agg #[.int .i64 k, .int .i64 t, .int .i64 a]] w fun e w' => e = .returned (.tuple #[]) ∧ RefAt w' b (B ++ parcelZ k t a) (far || parcelFar k t a) (odd || parcelOdd k t) ∧ Kp base b w w' := by
 have hlt := Blk.lt R
 have hB0 : base ≤ w.heap.size := Nat.le_trans hb (Nat.le_of_lt hlt)
 have bA : Below w.heap.size w (w.alloc (.cells #[.int .i64 k, .int .i64 t, .int .i64 a] 168)) := (Below.refl _ _).alloc (Nat.le_refl _) _
 have X0 := Blk.new w #[.int .i64 k, .int .i64 t, .int .i64 a] 168
 have K0 : Kp base b w (w.alloc (.cells #[.int .i64 k, .int .i64 t, .int .i64 a] 168)) := Kp.of_below bA hB0
 have R0 := R.below bA
 have hXb : w.heap.size ≠ b := by omega
 go_enter Tryz.func201, Tryz.ntmps201
 have q0 := X0.cell 0
 simp only [List.getElem?_toArray, List.getElem?_cons_zero] at q0
 go_wp2_with fail
 refine (rnum_any base b k (B) (far) (odd) _ hb bk (by omega) R0).mono ?_
 rintro e w1 ⟨rfl, R1, k1⟩
 have L1 : (B ++ numZ k).length ≤ B.length + 6 := by rw [List.length_append]; have := numZ_len k; omega
 have X1 := X0.kp k1 hXb
 have K1 := K0.trans k1
 clear q0
 have q1 := X1.cell 1
 simp only [List.getElem?_toArray, List.getElem?_cons_succ, List.getElem?_cons_zero] at q1
 go_wp2_with fail
 refine (rnum_any base b t (B ++ numZ k) (far || !inNum k) (odd) _ hb bt (by omega) R1).mono ?_
 rintro e w2 ⟨rfl, R2, k2⟩
 have L2 : (B ++ numZ k ++ numZ t).length ≤ B.length + 12 := by rw [List.length_append]; have := numZ_len t; omega
 have X2 := X1.kp k2 hXb
 have K2 := K1.trans k2
 clear q1
 have q2 := X2.cell 2
 simp only [List.getElem?_toArray, List.getElem?_cons_succ, List.getElem?_cons_zero] at q2
 go_wp2_with fail
 refine (rnum_any base b a (B ++ numZ k ++ numZ t) (far || !inNum k || !inNum t) (odd) _ hb ba (by omega) R2).mono ?_
 rintro e w3 ⟨rfl, R3, k3⟩
 have L3 : (B ++ numZ k ++ numZ t ++ numZ a).length ≤ B.length + 18 := by rw [List.length_append]; have := numZ_len a; omega
 have X3 := X2.kp k3 hXb
 have K3 := K2.trans k3
 clear q2
 have EB : B ++ numZ k ++ numZ t ++ numZ a = B ++ parcelZ k t a := by simp [parcelZ, List.append_assoc]
 have EF : (far || !inNum k || !inNum t || !inNum a) = (far || parcelFar k t a) := by simp [parcelFar, Bool.or_assoc]
 rw [EB, EF] at R3
 clear EB EF L1 L2 k1 k2 k3
 have q0 := X3.cell 0
 have q1 := X3.cell 1
 simp only [List.getElem?_toArray, List.getElem?_cons_succ, List.getElem?_cons_zero] at q0 q1
 by_cases h1 : k < 1
 ·skip
  go_wp2_with fail
  refine (rodd_any base b true _ _ _ _ hb R3).mono ?_
  rintro e w4 ⟨rfl, R4, k4⟩
  rw [show (odd || true) = (odd || parcelOdd k t) by simp [parcelOdd, h1]] at R4
  go_wp2
  go_end0
  exact ⟨rfl, R4, K3.trans k4⟩
 ·by_cases h2 : 2 < k
  ·skip
   go_wp2_with fail
   refine (rodd_any base b true _ _ _ _ hb R3).mono ?_
   rintro e w4 ⟨rfl, R4, k4⟩
   rw [show (odd || true) = (odd || parcelOdd k t) by simp [parcelOdd, h2]] at R4
   go_wp2
   go_end0
   exact ⟨rfl, R4, K3.trans k4⟩
  ·skip
   go_wp2_with fail
   refine (rodd_any base b (decide (k < 1) || decide (2 < k) || decide (t < 1)) _ _ _ _ hb R3).mono ?_
   rintro e w4 ⟨rfl, R4, k4⟩
   rw [show (odd || (decide (k < 1) || decide (2 < k) || decide (t < 1))) = (odd || parcelOdd k t) from rfl] at R4
   go_wp2
   go_end0
   exact ⟨rfl, R4, K3.trans k4⟩
def accountZ (ba fo no bo le fr : Int) (ja : Bool) : List UInt8 := numZ ba ++ numZ fo ++ numZ no ++ numZ bo ++ numZ le ++ numZ fr ++ flagB ja
def accountFar (ba fo no bo le fr : Int) : Bool := !inNum ba || !inNum fo || !inNum no || !inNum bo || !inNum le || !inNum fr
set_option maxHeartbeats 3200000 in
theorem raccount_any (base b : Nat) (ba : Int) (fo : Int) (no : Int) (bo : Int) (le : Int) (fr : Int) (ja : Bool) (B : List UInt8) (far odd : Bool) (w : World) (hb : base ≤ b) (bba : -9223372036854775808 ≤ ba ∧ ba ≤ 9223372036854775807) (bfo : -9223372036854775808 ≤ fo ∧ fo ≤ 9223372036854775807) (bno : -9223372036854775808 ≤ no ∧ no ≤ 9223372036854775807) (bbo : -9223372036854775808 ≤ bo ∧ bo ≤ 9223372036854775807) (ble : -9223372036854775808 ≤ le ∧ le ≤ 9223372036854775807) (bfr : -9223372036854775808 ≤ fr ∧ fr ≤ 9223372036854775807) (hB : B.length ≤ 1099511620000) (R : RefAt w b B far odd) :
  Calls Tryz.prog 196 #[.pointer (some ⟨b, 0, none⟩), .agg #[.int .i64 ba, .int .i64 fo, .int .i64 no, .int .i64 bo, .int .i64 le, .int .i64 fr, .bool ja]] w fun e w' => e = .returned (.tuple #[]) ∧ RefAt w' b (B ++ accountZ ba fo no bo le fr ja) (far || accountFar ba fo no bo le fr) odd ∧ Kp base b w w' := by
 have hlt := Blk.lt R
 have hB0 : base ≤ w.heap.size := Nat.le_trans hb (Nat.le_of_lt hlt)
 have bA : Below w.heap.size w (w.alloc (.cells #[.int .i64 ba, .int .i64 fo, .int .i64 no, .int .i64 bo, .int .i64 le, .int .i64 fr, .bool ja] 163)) := (Below.refl _ _).alloc (Nat.le_refl _) _
 have X0 := Blk.new w #[.int .i64 ba, .int .i64 fo, .int .i64 no, .int .i64 bo, .int .i64 le, .int .i64 fr, .bool ja] 163
 have K0 : Kp base b w (w.alloc (.cells #[.int .i64 ba, .int .i64 fo, .int .i64 no, .int .i64 bo, .int .i64 le, .int .i64 fr, .bool ja] 163)) := Kp.of_below bA hB0
 have R0 := R.below bA
 have hXb : w.heap.size ≠ b := by omega
 go_enter Tryz.func196, Tryz.ntmps196
 have q0 := X0.cell 0
 simp only [List.getElem?_toArray, List.getElem?_cons_zero] at q0
 go_wp2_with fail
 refine (rnum_any base b ba (B) (far) (odd) _ hb bba (by omega) R0).mono ?_
 rintro e w1 ⟨rfl, R1, k1⟩
 have L1 : (B ++ numZ ba).length ≤ B.length + 6 := by rw [List.length_append]; have := numZ_len ba; omega
 have X1 := X0.kp k1 hXb
 have K1 := K0.trans k1
 clear q0
 have q1 := X1.cell 1
 simp only [List.getElem?_toArray, List.getElem?_cons_succ, List.getElem?_cons_zero] at q1
 go_wp2_with fail
 refine (rnum_any base b fo (B ++ numZ ba) (far || !inNum ba) (odd) _ hb bfo (by omega) R1).mono ?_
 rintro e w2 ⟨rfl, R2, k2⟩
 have L2 : (B ++ numZ ba ++ numZ fo).length ≤ B.length + 12 := by rw [List.length_append]; have := numZ_len fo; omega
 have X2 := X1.kp k2 hXb
 have K2 := K1.trans k2
 clear q1
 have q2 := X2.cell 2
 simp only [List.getElem?_toArray, List.getElem?_cons_succ, List.getElem?_cons_zero] at q2
 go_wp2_with fail
 refine (rnum_any base b no (B ++ numZ ba ++ numZ fo) (far || !inNum ba || !inNum fo) (odd) _ hb bno (by omega) R2).mono ?_
 rintro e w3 ⟨rfl, R3, k3⟩
 have L3 : (B ++ numZ ba ++ numZ fo ++ numZ no).length ≤ B.length + 18 := by rw [List.length_append]; have := numZ_len no; omega
 have X3 := X2.kp k3 hXb
 have K3 := K2.trans k3
 clear q2
 have q3 := X3.cell 3
 simp only [List.getElem?_toArray, List.getElem?_cons_succ, List.getElem?_cons_zero] at q3
 go_wp2_with fail
 refine (rnum_any base b bo (B ++ numZ ba ++ numZ fo ++ numZ no) (far || !inNum ba || !inNum fo || !inNum no) (odd) _ hb bbo (by omega) R3).mono ?_
 rintro e w4 ⟨rfl, R4, k4⟩
 have L4 : (B ++ numZ ba ++ numZ fo ++ numZ no ++ numZ bo).length ≤ B.length + 24 := by rw [List.length_append]; have := numZ_len bo; omega
 have X4 := X3.kp k4 hXb
 have K4 := K3.trans k4
 clear q3
 have q4 := X4.cell 4
 simp only [List.getElem?_toArray, List.getElem?_cons_succ, List.getElem?_cons_zero] at q4
 go_wp2_with fail
 refine (rnum_any base b le (B ++ numZ ba ++ numZ fo ++ numZ no ++ numZ bo) (far || !inNum ba || !inNum fo || !inNum no || !inNum bo) (odd) _ hb ble (by omega) R4).mono ?_
 rintro e w5 ⟨rfl, R5, k5⟩
 have L5 : (B ++ numZ ba ++ numZ fo ++ numZ no ++ numZ bo ++ numZ le).length ≤ B.length + 30 := by rw [List.length_append]; have := numZ_len le; omega
 have X5 := X4.kp k5 hXb
 have K5 := K4.trans k5
 clear q4
 have q5 := X5.cell 5
 simp only [List.getElem?_toArray, List.getElem?_cons_succ, List.getElem?_cons_zero] at q5
 go_wp2_with fail
 refine (rnum_any base b fr (B ++ numZ ba ++ numZ fo ++ numZ no ++ numZ bo ++ numZ le) (far || !inNum ba || !inNum fo || !inNum no || !inNum bo || !inNum le) (odd) _ hb bfr (by omega) R5).mono ?_
 rintro e w6 ⟨rfl, R6, k6⟩
 have L6 : (B ++ numZ ba ++ numZ fo ++ numZ no ++ numZ bo ++ numZ le ++ numZ fr).length ≤ B.length + 36 := by rw [List.length_append]; have := numZ_len fr; omega
 have X6 := X5.kp k6 hXb
 have K6 := K5.trans k6
 clear q5
 have q6 := X6.cell 6
 simp only [List.getElem?_toArray, List.getElem?_cons_succ, List.getElem?_cons_zero] at q6
 go_wp2_with fail
 refine (rflag_any base b ja (B ++ numZ ba ++ numZ fo ++ numZ no ++ numZ bo ++ numZ le ++ numZ fr) (far || !inNum ba || !inNum fo || !inNum no || !inNum bo || !inNum le || !inNum fr) (odd) _ hb (by omega) R6).mono ?_
 rintro e w7 ⟨rfl, R7f, k7⟩
 have R7 : RefAt w7 b (B ++ numZ ba ++ numZ fo ++ numZ no ++ numZ bo ++ numZ le ++ numZ fr ++ flagB ja) (far || !inNum ba || !inNum fo || !inNum no || !inNum bo || !inNum le || !inNum fr) (odd) := R7f
 have L7 : (B ++ numZ ba ++ numZ fo ++ numZ no ++ numZ bo ++ numZ le ++ numZ fr ++ flagB ja).length ≤ B.length + 37 := by rw [List.length_append]; have : (flagB ja).length = 1 := rfl; omega
 have X7 := X6.kp k7 hXb
 have K7 := K6.trans k7
 clear q6
 have EB : B ++ numZ ba ++ numZ fo ++ numZ no ++ numZ bo ++ numZ le ++ numZ fr ++ flagB ja = B ++ accountZ ba fo no bo le fr ja := by simp [accountZ, List.append_assoc]
 have EF : (far || !inNum ba || !inNum fo || !inNum no || !inNum bo || !inNum le || !inNum fr) = (far || accountFar ba fo no bo le fr) := by simp [accountFar, Bool.or_assoc]
 rw [EB, EF] at R7
 clear EB EF
 go_wp2
 go_end0
 exact ⟨rfl, R7, K7⟩
def PairsLt (base : Nat) (w : World) (la : Option Addr) (ps : List (Int × Int)) : Prop :=
 (∀ p ∈ ps, (-9223372036854775808 ≤ p.1 ∧ p.1 ≤ 9223372036854775807) ∧ (-9223372036854775808 ≤ p.2 ∧ p.2 ≤ 9223372036854775807)) ∧
 (ps = [] ∨ ∃ rb ro, la = some ⟨rb, ro, none⟩ ∧ rb < base ∧ ∀ i p, ps[i]? = some p → w.cell? ⟨rb, ro + i * 2, none⟩ = some (.int .i64 p.1) ∧ w.cell? ⟨rb, ro + i * 2 + 1, none⟩ = some (.int .i64 p.2))
theorem PairsLt.kp {base b : Nat} {w w' : World} {la : Option Addr} {ps : List (Int × Int)} (h : PairsLt base w la ps) (hK : Kp base b w w') : PairsLt base w' la ps := by
 refine ⟨h.1, ?_⟩
 rcases h.2 with h | ⟨rb, ro, e, hl, hc⟩
 ·exact .inl h
 ·exact .inr ⟨rb, ro, e, hl, fun i p hp => by rw [hK.below.cell (p := ⟨rb, ro + i * 2, none⟩) hl, hK.below.cell (p := ⟨rb, ro + i * 2 + 1, none⟩) hl]; exact hc i p hp⟩
def pairsZ (ps : List (Int × Int)) : List UInt8 := ps.flatMap fun p => numZ p.1 ++ numZ p.2
def pairsFar (ps : List (Int × Int)) : Bool := ps.any fun p => !inNum p.1 || !inNum p.2
def oddAt (ps : List (Int × Int)) (i : Nat) : Bool := decide ((ps.getD i (0, 0)).1 < 1) || decide ((ps.getD i (0, 0)).2 < 1) || (decide (0 < i) && decide ((ps.getD i (0, 0)).1 ≤ (ps.getD (i - 1) (0, 0)).1))
def oddTo (ps : List (Int × Int)) (k : Nat) : Bool := (List.range k).any (oddAt ps)
theorem pairsZ_take (ps : List (Int × Int)) (k : Nat) (p : Int × Int) (h : ps[k]? = some p) : pairsZ (ps.take (k + 1)) = pairsZ (ps.take k) ++ numZ p.1 ++ numZ p.2 := by
 rw [List.take_add_one, h]
 simp [pairsZ, List.append_assoc]
theorem pairsFar_take (ps : List (Int × Int)) (k : Nat) (p : Int × Int) (h : ps[k]? = some p) : pairsFar (ps.take (k + 1)) = (pairsFar (ps.take k) || !inNum p.1 || !inNum p.2) := by
 rw [List.take_add_one, h]
 simp [pairsFar, Bool.or_assoc]
theorem oddTo_succ (ps : List (Int × Int)) (k : Nat) : oddTo ps (k + 1) = (oddTo ps k || oddAt ps k) := by
 unfold oddTo
 rw [List.range_succ, List.any_append]; simp
theorem pairsZ_len (ps : List (Int × Int)) : (pairsZ ps).length ≤ 12 * ps.length := by
 induction ps with
 | nil => simp [pairsZ]
 | cons p r ih =>
  have h1 := numZ_len p.1
  have h2 := numZ_len p.2
  have e : pairsZ (p :: r) = (numZ p.1 ++ numZ p.2) ++ pairsZ r := by simp [pairsZ]
  rw [e, List.length_append, List.length_append, List.length_cons]
  omega
def benchZ (ps : List (Int × Int)) : List UInt8 := numZ ps.length ++ pairsZ ps
def benchFar (ps : List (Int × Int)) : Bool := decide ((7 : Int) < ps.length) || !inNum ps.length || pairsFar ps
def benchOdd (ps : List (Int × Int)) : Bool := oddTo ps ps.length
def stepOdd (xs : List Int) (i : Nat) : Bool := decide (xs.getD i 0 < 1) || (decide (0 < i) && decide (xs.getD i 0 ≤ xs.getD (i - 1) 0))
def riseOdd (xs : List Int) (k : Nat) : Bool := (List.range k).any (stepOdd xs)
theorem riseOdd_succ (xs : List Int) (k : Nat) : riseOdd xs (k + 1) = (riseOdd xs k || stepOdd xs k) := by
 simp [riseOdd, List.range_succ]
def backOdd (xs : List Turn) (i : Nat) : Bool := decide (0 < i) && decide ((xs.map Turn.p).getD i 0 ≤ (xs.map Turn.p).getD (i - 1) 0)
def backsOdd (xs : List Turn) (k : Nat) : Bool := (List.range k).any (backOdd xs)
theorem backsOdd_succ (xs : List Turn) (k : Nat) : backsOdd xs (k + 1) = (backsOdd xs k || backOdd xs k) := by
 simp [backsOdd, List.range_succ]
theorem any_take {α : Type} (f : α → Bool) (xs : List α) (k : Nat) (x : α) (h : xs[k]? = some x) : (xs.take (k + 1)).any f = ((xs.take k).any f || f x) := by
 have e : xs.take (k + 1) = xs.take k ++ [x] := by rw [List.take_add_one, h]; rfl
 rw [e]; simp
def Vote.odd (x : Vote) : Bool := decide (2 < x.s) || decide (x.f < 1) || (!x.has && (decide (x.bl ≠ 0) || decide (x.s = 0)))
def Guilt.odd (x : Guilt) : Bool := x.a.odd || x.c.odd
def Cert.odd (x : Cert) : Bool := (decide (x.s ≠ 1) && decide (x.s ≠ 2)) || (!x.has && decide (x.bl ≠ 0)) || riseOdd x.fr.xs x.fr.xs.length
def Proof.odd (x : Proof) : Bool := backsOdd x.tu.xs x.tu.xs.length || (x.leaf && decide (x.val = [])) || (!x.leaf && (decide (0 < x.tu.xs.length) || decide (x.key ≠ []) || decide (x.val ≠ [])))
def Sight.odd (x : Sight) : Bool := x.ce.odd || benchOdd x.se.xs
def isTo (k : Int) : Bool := decide (k = 1) || decide (k = 3) || decide (k = 7) || decide (k = 8)
def isAm (k : Int) : Bool := isTo k || (decide (k = 2) || decide (k = 4) || decide (k = 5))
def Tx.odd (x : Tx) : Bool := x.si.xs.any Sight.odd || x.pr.xs.any Proof.odd || (decide (x.k < 1) || decide (10 < x.k) || decide (x.f < 1)) || ((isTo x.k && decide (x.to < 1)) || (!isTo x.k && decide (x.to ≠ 0))) || (!isAm x.k && decide (x.am ≠ 0)) ||
 (decide (x.k ≠ 2) && decide (x.k ≠ 3) && decide (x.te ≠ [])) || (decide (x.k ≠ 3) && decide (0 < x.ar.xs.length)) || (decide (x.k = 9) != decide (x.si.xs.length = 1)) || (decide (x.k = 10) != decide (x.pr.xs.length = 1))
def Block.odd (x : Block) : Bool := x.tx.xs.any Tx.odd || x.gu.xs.any Guilt.odd
def Motion.odd (x : Motion) : Bool := x.bl.odd || x.ba.xs.any Cert.odd || decide (x.fr < 1)
def Known.odd (x : Known) : Bool := x.ce.odd || x.bl.odd
def Message.odd (x : Message) : Bool := x.vo.xs.any Vote.odd || x.mo.xs.any Motion.odd || x.kn.xs.any Known.odd || x.tx.xs.any Tx.odd || decide (x.fr < 1)
def Proof.may (x : Proof) : Bool := if x.leaf = true then decide (x.val ≠ []) && riseI 0 (x.tu.xs.map Turn.p) else decide (x.tu.xs.length = 0) && decide (x.key = []) && decide (x.val = [])
set_option maxHeartbeats 1600000 in
theorem mayProof_anyX (x : Proof) (w : World) (g : goods w.heap.size w x.flds) : Calls Tryz.prog 74 #[.agg #[.slice x.tu.la x.tu.xs.length x.tu.lc, .bool x.leaf, .string ⟨x.key.toArray⟩, .string ⟨x.val.toArray⟩]] w fun e w' => e = .returned (.bool x.may) ∧ Below w.heap.size w w' := by
 have key : ∀ wv, Below w.heap.size w wv → Calls Tryz.prog 154 #[.slice x.tu.la x.tu.xs.length x.tu.lc, .int .i64 0, .func (.func 155) #[] #[]] wv fun e w' => e = .returned (.bool (riseI 0 (x.tu.xs.map Turn.p))) ∧ Below wv.heap.size wv w' := fun wv hv =>
  riseTurn_anyX w.heap.size x.tu 0 wv hv.size (Lst.held (flds := Turn.flds) (l := x.tu) Turn.len ((g.below hv).get 0 rfl))
 clear g
 obtain ⟨tu, leaf, ky, val⟩ := x
 simp only at key ⊢
 have bA : ∀ c, Below w.heap.size w (w.alloc (.cells c 57)) := fun c => (Below.refl _ _).alloc (Nat.le_refl _) _
 cases leaf
 ·by_cases h0 : tu.xs.length = 0
  ·have h0b : ((tu.xs.length : Int) == 0) = true := by simp [h0]
   have H0 := show Hid (_ = _) from h0
   clear h0
   cases ky with
   | nil =>
    cases val with
    | nil =>
     go_enter Tryz.func74, Tryz.ntmps74
     go_wp2
     go_ret
     exact ⟨by simp [Proof.may, H0.out], bA _⟩
    | cons c r =>
     go_enter Tryz.func74, Tryz.ntmps74
     go_wp2
     go_ret
     exact ⟨by simp [Proof.may, H0.out], bA _⟩
   | cons c r =>
    go_enter Tryz.func74, Tryz.ntmps74
    go_wp2
    go_ret
    exact ⟨by simp [Proof.may, H0.out], bA _⟩
  ·have h0b : ((tu.xs.length : Int) == 0) = false := by simpa using h0
   have H0 : Hid (¬ tu.xs.length = 0) := h0
   clear h0
   go_enter Tryz.func74, Tryz.ntmps74
   go_wp2
   go_ret
   exact ⟨by have h : ¬ tu.xs.length = 0 := H0.out; simp only [Proof.may, h, decide_false, Bool.false_and]; rfl, bA _⟩
 ·cases val with
  | nil =>
   go_enter Tryz.func74, Tryz.ntmps74
   go_wp2
   go_ret
   exact ⟨by simp [Proof.may], bA _⟩
  | cons c r =>
   go_enter Tryz.func74, Tryz.ntmps74
   go_wp2_with fail
   refine (key _ (bA _)).mono ?_
   rintro e w1 ⟨rfl, b1⟩
   go_wp2
   go_ret
   exact ⟨by simp [Proof.may], (bA _).trans (b1.mono (bA _).size)⟩
def Sight.may (x : Sight) : Bool := x.ce.may && mayBenchP x.se.xs
theorem pairs_held {base : Nat} {w : World} {l : Lst (Int × Int)} (h : l.Held pairF 2 base w) : PairsAt w l.la l.xs := by
 obtain ⟨_, _, h0 | ⟨rb, ro, e, rl, rz, rc⟩⟩ := h
 ·exact ⟨by rw [h0]; simp, .inl h0⟩
 ·refine ⟨fun p hp => ?_, .inr ⟨rb, ro, e, rz, fun i p hp => ⟨(rc i p hp).get0 rfl, (rc i p hp).get 1 rfl⟩⟩⟩
  obtain ⟨i, hi⟩ := List.getElem?_of_mem hp
  exact ⟨(rc i p hi).goods.get 0 rfl, (rc i p hi).goods.get 1 rfl⟩
set_option maxHeartbeats 1600000 in
theorem maySight_anyX (x : Sight) (w : World) (g : goods w.heap.size w x.flds) (hn : x.se.xs.length ≤ 140737488351232) : Calls Tryz.prog 165 #[.agg #[.int .i64 x.hd.c, .int .i64 x.hd.h, .int .u64 x.hd.pa, .int .u64 x.hd.tx, .int .u64 x.hd.gu, .int .u64 x.hd.st, .int .u64 x.hd.re, .int .u64 x.hd.be, .int .i64 x.hd.pr, .int .i64 x.ce.h, .int .i64 x.ce.r, .int .i64 x.ce.s, .bool x.ce.has, .int .u64 x.ce.bl, .slice x.ce.fr.la x.ce.fr.xs.length x.ce.fr.lc, .slice x.se.la x.se.xs.length x.se.lc]] w fun e w' => e = .returned (.bool x.may) ∧ Below w.heap.size w w' := by
 have bA : Below w.heap.size w (w.alloc (.cells #[.int .i64 x.hd.c, .int .i64 x.hd.h, .int .u64 x.hd.pa, .int .u64 x.hd.tx, .int .u64 x.hd.gu, .int .u64 x.hd.st, .int .u64 x.hd.re, .int .u64 x.hd.be, .int .i64 x.hd.pr, .int .i64 x.ce.h, .int .i64 x.ce.r, .int .i64 x.ce.s, .bool x.ce.has, .int .u64 x.ce.bl, .slice x.ce.fr.la x.ce.fr.xs.length x.ce.fr.lc, .slice x.se.la x.se.xs.length x.se.lc] 233)) := (Below.refl _ _).alloc (Nat.le_refl _) _
 have kX := Blk.new w #[.int .i64 x.hd.c, .int .i64 x.hd.h, .int .u64 x.hd.pa, .int .u64 x.hd.tx, .int .u64 x.hd.gu, .int .u64 x.hd.st, .int .u64 x.hd.re, .int .u64 x.hd.be, .int .i64 x.hd.pr, .int .i64 x.ce.h, .int .i64 x.ce.r, .int .i64 x.ce.s, .bool x.ce.has, .int .u64 x.ce.bl, .slice x.ce.fr.la x.ce.fr.xs.length x.ce.fr.lc, .slice x.se.la x.se.xs.length x.se.lc] 233
 have key1 : ∀ wv, Below w.heap.size w wv → Calls Tryz.prog 56 #[.agg #[.int .i64 x.ce.h, .int .i64 x.ce.r, .int .i64 x.ce.s, .bool x.ce.has, .int .u64 x.ce.bl, .slice x.ce.fr.la x.ce.fr.xs.length x.ce.fr.lc]] wv fun e w' => e = .returned (.bool x.ce.may) ∧ Below wv.heap.size wv w' := fun wv hv =>
  mayCert_anyX x.ce wv ((g.below hv).mono hv.size).app.2.app.1
 have key2 : ∀ wv, Below w.heap.size w wv → Calls Tryz.prog 62 #[.slice x.se.la x.se.xs.length x.se.lc] wv fun e w' => e = .returned (.bool (mayBenchP x.se.xs)) ∧ Below wv.heap.size wv w' := fun wv hv =>
  mayBench_any x.se.la x.se.lc x.se.xs wv hn (pairs_held (Lst.held pairF_len ((g.below hv).get 15 rfl)))
 clear g
 go_enter Tryz.func165, Tryz.ntmps165
 go_wp2_with fail
 refine (key1 _ bA).mono ?_
 rintro e w1 ⟨rfl, b1⟩
 have b2 := bA.trans (b1.mono bA.size)
 have k1 := kX.below b1 kX.lt
 have q15 := k1.cell 15
 simp only [List.getElem?_toArray, List.getElem?_cons_succ, List.getElem?_cons_zero] at q15
 cases hm : x.ce.may
 ·have Hm := show Hid (_ = _) from hm
  clear hm
  go_wp2
  go_ret
  exact ⟨by unfold Sight.may; rw [Hm.out]; rfl, b2⟩
 ·have Hm := show Hid (_ = _) from hm
  clear hm
  go_wp2_with fail
  refine (key2 _ b2).mono ?_
  rintro e w3 ⟨rfl, b3⟩
  go_wp2
  go_ret
  exact ⟨by unfold Sight.may; rw [Hm.out]; simp, b2.trans (b3.mono b2.size)⟩
def isTx (k : Int) : Bool := decide (k = 2) || decide (k = 3)
def nSi (k : Int) : Int := if k = 9 then 1 else 0
def nPr (k : Int) : Int := if k = 10 then 1 else 0
set_option maxHeartbeats 3200000 in
theorem fieldsOf_any (k : Int) (w : World) : Calls Tryz.prog 163 #[.int .i64 k] w fun e w' => e = .returned (.agg #[.bool (isTo k), .bool (isAm k), .bool (isTx k), .bool (decide (k = 3)), .int .i64 (nSi k), .int .i64 (nPr k)]) ∧ Below w.heap.size w w' := by
 rcases (show k = 1 ∨ k = 2 ∨ k = 3 ∨ k = 4 ∨ k = 5 ∨ k = 7 ∨ k = 8 ∨ k = 9 ∨ k = 10 ∨ (k ≠ 1 ∧ k ≠ 2 ∧ k ≠ 3 ∧ k ≠ 4 ∧ k ≠ 5 ∧ k ≠ 7 ∧ k ≠ 8 ∧ k ≠ 9 ∧ k ≠ 10) by omega) with rfl | rfl | rfl | rfl | rfl | rfl | rfl | rfl | rfl | ⟨h1, h2, h3, h4, h5, h7, h8, h9, h10⟩
 ·go_enter Tryz.func163, Tryz.ntmps163
  go_wp2
  exact bodyPost_ret (v := .agg #[.bool (isTo (1 : Int)), .bool (isAm (1 : Int)), .bool (isTx (1 : Int)), .bool (decide ((1 : Int) = 3)), .int .i64 (nSi (1 : Int)), .int .i64 (nPr (1 : Int))]) (by simp [results, Tryz.results163, go_sem, isTo, isAm, isTx, nSi, nPr]) rfl ⟨rfl, ((Below.refl _ _).alloc (Nat.le_refl _) _).alloc (by simp) _⟩
 ·go_enter Tryz.func163, Tryz.ntmps163
  go_wp2
  exact bodyPost_ret (v := .agg #[.bool (isTo (2 : Int)), .bool (isAm (2 : Int)), .bool (isTx (2 : Int)), .bool (decide ((2 : Int) = 3)), .int .i64 (nSi (2 : Int)), .int .i64 (nPr (2 : Int))]) (by simp [results, Tryz.results163, go_sem, isTo, isAm, isTx, nSi, nPr]) rfl ⟨rfl, ((Below.refl _ _).alloc (Nat.le_refl _) _).alloc (by simp) _⟩
 ·go_enter Tryz.func163, Tryz.ntmps163
  go_wp2
  exact bodyPost_ret (v := .agg #[.bool (isTo (3 : Int)), .bool (isAm (3 : Int)), .bool (isTx (3 : Int)), .bool (decide ((3 : Int) = 3)), .int .i64 (nSi (3 : Int)), .int .i64 (nPr (3 : Int))]) (by simp [results, Tryz.results163, go_sem, isTo, isAm, isTx, nSi, nPr]) rfl ⟨rfl, ((Below.refl _ _).alloc (Nat.le_refl _) _).alloc (by simp) _⟩
 ·go_enter Tryz.func163, Tryz.ntmps163
  go_wp2
  exact bodyPost_ret (v := .agg #[.bool (isTo (4 : Int)), .bool (isAm (4 : Int)), .bool (isTx (4 : Int)), .bool (decide ((4 : Int) = 3)), .int .i64 (nSi (4 : Int)), .int .i64 (nPr (4 : Int))]) (by simp [results, Tryz.results163, go_sem, isTo, isAm, isTx, nSi, nPr]) rfl ⟨rfl, ((Below.refl _ _).alloc (Nat.le_refl _) _).alloc (by simp) _⟩
 ·go_enter Tryz.func163, Tryz.ntmps163
  go_wp2
  exact bodyPost_ret (v := .agg #[.bool (isTo (5 : Int)), .bool (isAm (5 : Int)), .bool (isTx (5 : Int)), .bool (decide ((5 : Int) = 3)), .int .i64 (nSi (5 : Int)), .int .i64 (nPr (5 : Int))]) (by simp [results, Tryz.results163, go_sem, isTo, isAm, isTx, nSi, nPr]) rfl ⟨rfl, ((Below.refl _ _).alloc (Nat.le_refl _) _).alloc (by simp) _⟩
 ·go_enter Tryz.func163, Tryz.ntmps163
  go_wp2
  exact bodyPost_ret (v := .agg #[.bool (isTo (7 : Int)), .bool (isAm (7 : Int)), .bool (isTx (7 : Int)), .bool (decide ((7 : Int) = 3)), .int .i64 (nSi (7 : Int)), .int .i64 (nPr (7 : Int))]) (by simp [results, Tryz.results163, go_sem, isTo, isAm, isTx, nSi, nPr]) rfl ⟨rfl, ((Below.refl _ _).alloc (Nat.le_refl _) _).alloc (by simp) _⟩
 ·go_enter Tryz.func163, Tryz.ntmps163
  go_wp2
  exact bodyPost_ret (v := .agg #[.bool (isTo (8 : Int)), .bool (isAm (8 : Int)), .bool (isTx (8 : Int)), .bool (decide ((8 : Int) = 3)), .int .i64 (nSi (8 : Int)), .int .i64 (nPr (8 : Int))]) (by simp [results, Tryz.results163, go_sem, isTo, isAm, isTx, nSi, nPr]) rfl ⟨rfl, ((Below.refl _ _).alloc (Nat.le_refl _) _).alloc (by simp) _⟩
 ·go_enter Tryz.func163, Tryz.ntmps163
  go_wp2
  exact bodyPost_ret (v := .agg #[.bool (isTo (9 : Int)), .bool (isAm (9 : Int)), .bool (isTx (9 : Int)), .bool (decide ((9 : Int) = 3)), .int .i64 (nSi (9 : Int)), .int .i64 (nPr (9 : Int))]) (by simp [results, Tryz.results163, go_sem, isTo, isAm, isTx, nSi, nPr]) rfl ⟨rfl, ((Below.refl _ _).alloc (Nat.le_refl _) _).alloc (by simp) _⟩
 ·go_enter Tryz.func163, Tryz.ntmps163
  go_wp2
  exact bodyPost_ret (v := .agg #[.bool (isTo (10 : Int)), .bool (isAm (10 : Int)), .bool (isTx (10 : Int)), .bool (decide ((10 : Int) = 3)), .int .i64 (nSi (10 : Int)), .int .i64 (nPr (10 : Int))]) (by simp [results, Tryz.results163, go_sem, isTo, isAm, isTx, nSi, nPr]) rfl ⟨rfl, ((Below.refl _ _).alloc (Nat.le_refl _) _).alloc (by simp) _⟩
 ·go_enter Tryz.func163, Tryz.ntmps163
  go_wp2
  exact bodyPost_ret (v := .agg #[.bool (isTo k), .bool (isAm k), .bool (isTx k), .bool (decide (k = 3)), .int .i64 (nSi k), .int .i64 (nPr k)]) (by simp [results, Tryz.results163, go_sem, isTo, isAm, isTx, nSi, nPr, h1, h2, h3, h4, h5, h7, h8, h9, h10]) rfl ⟨rfl, ((Below.refl _ _).alloc (Nat.le_refl _) _).alloc (by simp) _⟩
end Go.Proofs.YtackcbpabjhmpaaGreat
