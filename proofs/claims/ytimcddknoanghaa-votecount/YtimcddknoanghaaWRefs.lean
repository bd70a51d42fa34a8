/- The answer's writing of votes, parcels, accounts. -/
import Derived.Test.YtimcddknoanghaaWNums
namespace Go.Proofs.Ytimcddknoanghaa.W
open Go.RowKit
set_option linter.unusedVariables false

def voteZ (h r s : Int) (has : Bool) (bl f : Int) : List UInt8 := numZ h ++ numZ r ++ numZ s ++ flagB has ++ be bl 8 ++ numZ f

def voteFar (h r s f : Int) : Bool := !inNum h || !inNum r || !inNum s || !inNum f

def voteOdd (s : Int) (has : Bool) (bl f : Int) : Bool := decide (2 < s) || decide (f < 1) || (!has && (decide (bl ≠ 0) || decide (s = 0)))

set_option maxHeartbeats 3200000 in
theorem rvote_any (base b : Nat) (h : Int) (r : Int) (s : Int) (has : Bool) (bl : Int) (f : Int) (B : List UInt8) (far odd : Bool) (w : World) (hb : base ≤ b) (bh : -9223372036854775808 ≤ h ∧ h ≤ 9223372036854775807) (br : -9223372036854775808 ≤ r ∧ r ≤ 9223372036854775807) (bs : -9223372036854775808 ≤ s ∧ s ≤ 9223372036854775807) (bbl : 0 ≤ bl ∧ bl ≤ 18446744073709551615) (bf : -9223372036854775808 ≤ f ∧ f ≤ 9223372036854775807) (hB : B.length ≤ 1099511620000) (R : RefAt w b B far odd) :
    Calls Try.prog 49 #[.pointer (some ⟨b, 0, none⟩), .agg #[.int .i64 h, .int .i64 r, .int .i64 s, .bool has, .int .u64 bl, .int .i64 f]] w fun e w' => e = .returned (.tuple #[]) ∧ RefAt w' b (B ++ voteZ h r s has bl f) (far || voteFar h r s f) (odd || voteOdd s has bl f) ∧ Kp base b w w' := by
  have hlt := Blk.lt R
  have hB0 : base ≤ w.heap.size := Nat.le_trans hb (Nat.le_of_lt hlt)
  have bA : Below w.heap.size w (w.alloc (.cells #[.int .i64 h, .int .i64 r, .int .i64 s, .bool has, .int .u64 bl, .int .i64 f] 34)) := (Below.refl _ _).alloc (Nat.le_refl _) _
  have X0 := Blk.new w #[.int .i64 h, .int .i64 r, .int .i64 s, .bool has, .int .u64 bl, .int .i64 f] 34
  have K0 : Kp base b w (w.alloc (.cells #[.int .i64 h, .int .i64 r, .int .i64 s, .bool has, .int .u64 bl, .int .i64 f] 34)) := Kp.of_below bA hB0
  have R0 := R.below bA
  have hXb : w.heap.size ≠ b := by omega
  go_enter Try.func49, Try.ntmps49
  have q0 := X0.cell 0
  simp only [List.getElem?_toArray, List.getElem?_cons_zero] at q0
  go_wp2_with fail
  refine (rnum_any base b h (B) (far) (odd) _ hb bh (by omega) R0).mono ?_
  rintro e w1 ⟨rfl, R1, k1⟩
  have L1 : (B ++ numZ h).length ≤ B.length + 6 := by rw [List.length_append]; have := numZ_len h; omega
  have X1 := X0.kp k1 hXb
  have K1 := K0.trans k1
  clear q0
  have q1 := X1.cell 1
  simp only [List.getElem?_toArray, List.getElem?_cons_succ, List.getElem?_cons_zero] at q1
  go_wp2_with fail
  refine (rnum_any base b r (B ++ numZ h) (far || !inNum h) (odd) _ hb br (by omega) R1).mono ?_
  rintro e w2 ⟨rfl, R2, k2⟩
  have L2 : (B ++ numZ h ++ numZ r).length ≤ B.length + 12 := by rw [List.length_append]; have := numZ_len r; omega
  have X2 := X1.kp k2 hXb
  have K2 := K1.trans k2
  clear q1
  have q2 := X2.cell 2
  simp only [List.getElem?_toArray, List.getElem?_cons_succ, List.getElem?_cons_zero] at q2
  go_wp2_with fail
  refine (rnum_any base b s (B ++ numZ h ++ numZ r) (far || !inNum h || !inNum r) (odd) _ hb bs (by omega) R2).mono ?_
  rintro e w3 ⟨rfl, R3, k3⟩
  have L3 : (B ++ numZ h ++ numZ r ++ numZ s).length ≤ B.length + 18 := by rw [List.length_append]; have := numZ_len s; omega
  have X3 := X2.kp k3 hXb
  have K3 := K2.trans k3
  clear q2
  have q3 := X3.cell 3
  simp only [List.getElem?_toArray, List.getElem?_cons_succ, List.getElem?_cons_zero] at q3
  go_wp2_with fail
  refine (rflag_any base b has (B ++ numZ h ++ numZ r ++ numZ s) (far || !inNum h || !inNum r || !inNum s) (odd) _ hb (by omega) R3).mono ?_
  rintro e w4 ⟨rfl, R4f, k4⟩
  have R4 : RefAt w4 b (B ++ numZ h ++ numZ r ++ numZ s ++ flagB has) (far || !inNum h || !inNum r || !inNum s) (odd) := R4f
  have L4 : (B ++ numZ h ++ numZ r ++ numZ s ++ flagB has).length ≤ B.length + 19 := by rw [List.length_append]; have : (flagB has).length = 1 := rfl; omega
  have X4 := X3.kp k4 hXb
  have K4 := K3.trans k4
  clear q3
  have q4 := X4.cell 4
  simp only [List.getElem?_toArray, List.getElem?_cons_succ, List.getElem?_cons_zero] at q4
  go_wp2_with fail
  refine (rdig_any base b bl (B ++ numZ h ++ numZ r ++ numZ s ++ flagB has) (far || !inNum h || !inNum r || !inNum s) (odd) _ hb bbl (by omega) R4).mono ?_
  rintro e w5 ⟨rfl, R5, k5⟩
  have L5 : (B ++ numZ h ++ numZ r ++ numZ s ++ flagB has ++ be bl 8).length ≤ B.length + 27 := by rw [List.length_append]; have := be_len bl 8; omega
  have X5 := X4.kp k5 hXb
  have K5 := K4.trans k5
  clear q4
  have q5 := X5.cell 5
  simp only [List.getElem?_toArray, List.getElem?_cons_succ, List.getElem?_cons_zero] at q5
  go_wp2_with fail
  refine (rnum_any base b f (B ++ numZ h ++ numZ r ++ numZ s ++ flagB has ++ be bl 8) (far || !inNum h || !inNum r || !inNum s) (odd) _ hb bf (by omega) R5).mono ?_
  rintro e w6 ⟨rfl, R6, k6⟩
  have L6 : (B ++ numZ h ++ numZ r ++ numZ s ++ flagB has ++ be bl 8 ++ numZ f).length ≤ B.length + 33 := by rw [List.length_append]; have := numZ_len f; omega
  have X6 := X5.kp k6 hXb
  have K6 := K5.trans k6
  clear q5
  clear L1 L2 L3 L4 L5 k1 k2 k3 k4 k5 k6
  have EB : B ++ numZ h ++ numZ r ++ numZ s ++ flagB has ++ be bl 8 ++ numZ f = B ++ voteZ h r s has bl f := by simp [voteZ, List.append_assoc]
  have EF : (far || !inNum h || !inNum r || !inNum s || !inNum f) = (far || voteFar h r s f) := by simp [voteFar, Bool.or_assoc]
  rw [EB, EF] at R6
  have fin : ∀ (x y : Bool), x = (decide (2 < s) || decide (f < 1)) → y = (!has && (decide (bl ≠ 0) || decide (s = 0))) → (odd || x || y) = (odd || voteOdd s has bl f) := by
    intro x y hx hy
    rw [hx, hy]
    unfold voteOdd
    rw [Bool.or_assoc]
  clear EB EF
  have q2 := X6.cell 2
  have q5 := X6.cell 5
  simp only [List.getElem?_toArray, List.getElem?_cons_succ, List.getElem?_cons_zero] at q2 q5
  by_cases h2 : 2 < s
  · go_wp2_with fail
    refine (rodd_any base b true _ _ _ _ hb R6).mono ?_
    rintro e w7 ⟨rfl, R7, k7⟩
    clear q2 q5
    have X7 := X6.kp k7 hXb
    have p2 := X7.cell 2
    have p3 := X7.cell 3
    have p4 := X7.cell 4
    simp only [List.getElem?_toArray, List.getElem?_cons_succ, List.getElem?_cons_zero] at p2 p3 p4
    have K7 := K6.trans k7
    cases has
    · by_cases hbz : bl = 0
      · subst hbz
        go_wp2_with fail
        refine (rodd_any base b (decide (s = 0)) _ _ _ _ hb R7).mono ?_
        rintro e w8 ⟨rfl, R8, k8⟩
        rw [fin true (decide (s = 0)) (by simp [h2]) (by simp)] at R8
        go_wp2
        go_end0
        exact ⟨rfl, R8, K7.trans k8⟩
      · have hbn : (bl != 0) = true := by simpa using hbz
        go_wp2_with fail
        refine (rodd_any base b true _ _ _ _ hb R7).mono ?_
        rintro e w8 ⟨rfl, R8, k8⟩
        rw [fin true true (by simp [h2]) (by simp [hbz])] at R8
        go_wp2
        go_end0
        exact ⟨rfl, R8, K7.trans k8⟩
    · go_wp2_with fail
      refine (rodd_any base b false _ _ _ _ hb R7).mono ?_
      rintro e w8 ⟨rfl, R8, k8⟩
      rw [fin true false (by simp [h2]) (by simp)] at R8
      go_wp2
      go_end0
      exact ⟨rfl, R8, K7.trans k8⟩
  · go_wp2_with fail
    refine (rodd_any base b (decide (2 < s) || decide (f < 1)) _ _ _ _ hb R6).mono ?_
    rintro e w7 ⟨rfl, R7, k7⟩
    clear q2 q5
    have X7 := X6.kp k7 hXb
    have p2 := X7.cell 2
    have p3 := X7.cell 3
    have p4 := X7.cell 4
    simp only [List.getElem?_toArray, List.getElem?_cons_succ, List.getElem?_cons_zero] at p2 p3 p4
    have K7 := K6.trans k7
    cases has
    · by_cases hbz : bl = 0
      · subst hbz
        go_wp2_with fail
        refine (rodd_any base b (decide (s = 0)) _ _ _ _ hb R7).mono ?_
        rintro e w8 ⟨rfl, R8, k8⟩
        rw [fin (decide (2 < s) || decide (f < 1)) (decide (s = 0)) rfl (by simp)] at R8
        go_wp2
        go_end0
        exact ⟨rfl, R8, K7.trans k8⟩
      · have hbn : (bl != 0) = true := by simpa using hbz
        go_wp2_with fail
        refine (rodd_any base b true _ _ _ _ hb R7).mono ?_
        rintro e w8 ⟨rfl, R8, k8⟩
        rw [fin (decide (2 < s) || decide (f < 1)) true rfl (by simp [hbz])] at R8
        go_wp2
        go_end0
        exact ⟨rfl, R8, K7.trans k8⟩
    · go_wp2_with fail
      refine (rodd_any base b false _ _ _ _ hb R7).mono ?_
      rintro e w8 ⟨rfl, R8, k8⟩
      rw [fin (decide (2 < s) || decide (f < 1)) false rfl (by simp)] at R8
      go_wp2
      go_end0
      exact ⟨rfl, R8, K7.trans k8⟩

def parcelZ (k t a : Int) : List UInt8 := numZ k ++ numZ t ++ numZ a

def parcelFar (k t a : Int) : Bool := !inNum k || !inNum t || !inNum a

def parcelOdd (k t : Int) : Bool := decide (k < 1) || decide (2 < k) || decide (t < 1)



def accountZ (ba fo no bo le fr : Int) (ja : Bool) : List UInt8 := numZ ba ++ numZ fo ++ numZ no ++ numZ bo ++ numZ le ++ numZ fr ++ flagB ja

def accountFar (ba fo no bo le fr : Int) : Bool := !inNum ba || !inNum fo || !inNum no || !inNum bo || !inNum le || !inNum fr



end Go.Proofs.Ytimcddknoanghaa.W
