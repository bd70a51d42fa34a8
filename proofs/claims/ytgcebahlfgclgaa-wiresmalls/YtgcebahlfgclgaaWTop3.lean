/- The answer's writing of views and results, and what both say of benches, views and results: the same. -/
import Derived.Test.YtgcebahlfgclgaaWTop2
import Derived.Test.YtgcebahlfgclgaaWRefB
namespace Go.Proofs.Ytgcebahlfgclgaa
open Go.RowKit
set_option linter.unusedVariables false

def viewZ (c wi ep h st : Int) (ps : List (Int × Int)) : List UInt8 := numZ c ++ numZ wi ++ numZ ep ++ numZ h ++ be st 8 ++ benchZ ps
def viewFar (c wi ep h : Int) (ps : List (Int × Int)) : Bool := !inNum c || !inNum wi || !inNum ep || !inNum h || benchFar ps
def viewOdd (wi ep : Int) (ps : List (Int × Int)) : Bool := benchOdd ps || (decide (wi < 1) || decide (8 < wi) || decide (ep < 1))
def resultZ (co us va : Int) (ps : List (Int × Int)) : List UInt8 := numZ co ++ numZ us ++ numZ va ++ numZ ps.length ++ pairsZ ps
def resultFar (co us va : Int) (ps : List (Int × Int)) : Bool := !inNum co || !inNum us || !inNum va || (decide ((64 : Int) < ps.length) || !inNum ps.length || pairsFar ps)

set_option maxHeartbeats 3200000 in
theorem rview_any (base b : Nat) (c : Int) (wi : Int) (ep : Int) (h : Int) (st : Int) (la : Option Addr) (lc : Nat) (ps : List (Int × Int)) (B : List UInt8) (far odd : Bool) (w : World) (hb : base ≤ b) (bc : -9223372036854775808 ≤ c ∧ c ≤ 9223372036854775807) (bwi : -9223372036854775808 ≤ wi ∧ wi ≤ 9223372036854775807) (bep : -9223372036854775808 ≤ ep ∧ ep ≤ 9223372036854775807) (bh : -9223372036854775808 ≤ h ∧ h ≤ 9223372036854775807) (bst : 0 ≤ st ∧ st ≤ 18446744073709551615) (hn : ps.length ≤ 65536) (hB : B.length ≤ 1099400000000) (R : RefAt w b B far odd) (hps : PairsLt base w la ps) :
    Calls Try.prog 60 #[.pointer (some ⟨b, 0, none⟩), .agg #[.int .i64 c, .int .i64 wi, .int .i64 ep, .int .i64 h, .int .u64 st, .slice la ps.length lc]] w fun e w' => e = .returned (.tuple #[]) ∧ RefAt w' b (B ++ viewZ c wi ep h st ps) (far || viewFar c wi ep h ps) (odd || viewOdd wi ep ps) ∧ Kp base b w w' := by
  have hlt := Blk.lt R
  have hB0 : base ≤ w.heap.size := Nat.le_trans hb (Nat.le_of_lt hlt)
  have bA : Below w.heap.size w (w.alloc (.cells #[.int .i64 c, .int .i64 wi, .int .i64 ep, .int .i64 h, .int .u64 st, .slice la ps.length lc] 34)) := (Below.refl _ _).alloc (Nat.le_refl _) _
  have X0 := Blk.new w #[.int .i64 c, .int .i64 wi, .int .i64 ep, .int .i64 h, .int .u64 st, .slice la ps.length lc] 34
  have K0 : Kp base b w (w.alloc (.cells #[.int .i64 c, .int .i64 wi, .int .i64 ep, .int .i64 h, .int .u64 st, .slice la ps.length lc] 34)) := Kp.of_below bA hB0
  have R0 := R.below bA
  have hXb : w.heap.size ≠ b := by omega
  go_enter Try.func60, Try.ntmps60
  have q0 := X0.cell 0
  simp only [List.getElem?_toArray, List.getElem?_cons_zero] at q0
  go_wp2_with fail
  refine (rnum_any base b c (B) (far) (odd) _ hb bc (by omega) R0).mono ?_
  rintro e w1 ⟨rfl, R1, k1⟩
  have L1 : (B ++ numZ c).length ≤ B.length + 6 := by rw [List.length_append]; have := numZ_len c; omega
  have X1 := X0.kp k1 hXb
  have K1 := K0.trans k1
  clear q0
  have q1 := X1.cell 1
  simp only [List.getElem?_toArray, List.getElem?_cons_succ, List.getElem?_cons_zero] at q1
  go_wp2_with fail
  refine (rnum_any base b wi (B ++ numZ c) (far || !inNum c) (odd) _ hb bwi (by omega) R1).mono ?_
  rintro e w2 ⟨rfl, R2, k2⟩
  have L2 : (B ++ numZ c ++ numZ wi).length ≤ B.length + 12 := by rw [List.length_append]; have := numZ_len wi; omega
  have X2 := X1.kp k2 hXb
  have K2 := K1.trans k2
  clear q1
  have q2 := X2.cell 2
  simp only [List.getElem?_toArray, List.getElem?_cons_succ, List.getElem?_cons_zero] at q2
  go_wp2_with fail
  refine (rnum_any base b ep (B ++ numZ c ++ numZ wi) (far || !inNum c || !inNum wi) (odd) _ hb bep (by omega) R2).mono ?_
  rintro e w3 ⟨rfl, R3, k3⟩
  have L3 : (B ++ numZ c ++ numZ wi ++ numZ ep).length ≤ B.length + 18 := by rw [List.length_append]; have := numZ_len ep; omega
  have X3 := X2.kp k3 hXb
  have K3 := K2.trans k3
  clear q2
  have q3 := X3.cell 3
  simp only [List.getElem?_toArray, List.getElem?_cons_succ, List.getElem?_cons_zero] at q3
  go_wp2_with fail
  refine (rnum_any base b h (B ++ numZ c ++ numZ wi ++ numZ ep) (far || !inNum c || !inNum wi || !inNum ep) (odd) _ hb bh (by omega) R3).mono ?_
  rintro e w4 ⟨rfl, R4, k4⟩
  have L4 : (B ++ numZ c ++ numZ wi ++ numZ ep ++ numZ h).length ≤ B.length + 24 := by rw [List.length_append]; have := numZ_len h; omega
  have X4 := X3.kp k4 hXb
  have K4 := K3.trans k4
  clear q3
  have q4 := X4.cell 4
  simp only [List.getElem?_toArray, List.getElem?_cons_succ, List.getElem?_cons_zero] at q4
  go_wp2_with fail
  refine (rdig_any base b st (B ++ numZ c ++ numZ wi ++ numZ ep ++ numZ h) (far || !inNum c || !inNum wi || !inNum ep || !inNum h) (odd) _ hb bst (by omega) R4).mono ?_
  rintro e w5 ⟨rfl, R5, k5⟩
  have L5 : (B ++ numZ c ++ numZ wi ++ numZ ep ++ numZ h ++ be st 8).length ≤ B.length + 32 := by rw [List.length_append]; have := be_len st 8; omega
  have X5 := X4.kp k5 hXb
  have K5 := K4.trans k5
  clear q4
  have q5 := X5.cell 5
  simp only [List.getElem?_toArray, List.getElem?_cons_succ, List.getElem?_cons_zero] at q5
  have ps5 := hps.kp K5
  go_wp2_with fail
  refine (rbench_any base b la lc ps _ _ odd _ hb (by omega) R5 ps5).mono ?_
  rintro e w6 ⟨rfl, R6, k6⟩
  have X6 := X5.kp k6 hXb
  have K6 := K5.trans k6
  have EB : B ++ numZ c ++ numZ wi ++ numZ ep ++ numZ h ++ be st 8 ++ benchZ ps = B ++ viewZ c wi ep h st ps := by simp [viewZ, List.append_assoc]
  have EF : (far || !inNum c || !inNum wi || !inNum ep || !inNum h || benchFar ps) = (far || viewFar c wi ep h ps) := by simp [viewFar, Bool.or_assoc]
  rw [EB, EF] at R6
  clear EB EF L1 L2 L3 L4 L5 k1 k2 k3 k4 k5 k6 q5 ps5 hps R5
  have q1 := X6.cell 1
  have q2 := X6.cell 2
  simp only [List.getElem?_toArray, List.getElem?_cons_succ, List.getElem?_cons_zero] at q1 q2
  by_cases h1 : wi < 1
  · skip
    go_wp2_with fail
    refine (rodd_any base b true _ _ _ _ hb R6).mono ?_
    rintro e w7 ⟨rfl, R7, k7⟩
    rw [show (odd || benchOdd ps || true) = (odd || viewOdd wi ep ps) by simp [viewOdd, h1]] at R7
    go_wp2
    go_end0
    exact ⟨rfl, R7, K6.trans k7⟩
  · by_cases h2 : 8 < wi
    · skip
      go_wp2_with fail
      refine (rodd_any base b true _ _ _ _ hb R6).mono ?_
      rintro e w7 ⟨rfl, R7, k7⟩
      rw [show (odd || benchOdd ps || true) = (odd || viewOdd wi ep ps) by simp [viewOdd, h2]] at R7
      go_wp2
      go_end0
      exact ⟨rfl, R7, K6.trans k7⟩
    · skip
      go_wp2_with fail
      refine (rodd_any base b (decide (wi < 1) || decide (8 < wi) || decide (ep < 1)) _ _ _ _ hb R6).mono ?_
      rintro e w7 ⟨rfl, R7, k7⟩
      rw [show (odd || benchOdd ps || (decide (wi < 1) || decide (8 < wi) || decide (ep < 1))) = (odd || viewOdd wi ep ps) by rw [viewOdd, Bool.or_assoc]] at R7
      go_wp2
      go_end0
      exact ⟨rfl, R7, K6.trans k7⟩

set_option maxHeartbeats 3200000 in
theorem rresult_any (base b : Nat) (co : Int) (us : Int) (va : Int) (la : Option Addr) (lc : Nat) (ps : List (Int × Int)) (B : List UInt8) (far odd : Bool) (w : World) (hb : base ≤ b) (bco : -9223372036854775808 ≤ co ∧ co ≤ 9223372036854775807) (bus : -9223372036854775808 ≤ us ∧ us ≤ 9223372036854775807) (bva : -9223372036854775808 ≤ va ∧ va ≤ 9223372036854775807) (hn : ps.length ≤ 65536) (hB : B.length ≤ 1099400000000) (R : RefAt w b B far odd) (hps : PairsLt base w la ps) :
    Calls Try.prog 64 #[.pointer (some ⟨b, 0, none⟩), .agg #[.int .i64 co, .int .i64 us, .int .i64 va, .slice la ps.length lc]] w fun e w' => e = .returned (.tuple #[]) ∧ RefAt w' b (B ++ resultZ co us va ps) (far || resultFar co us va ps) odd ∧ Kp base b w w' := by
  have hlt := Blk.lt R
  have hB0 : base ≤ w.heap.size := Nat.le_trans hb (Nat.le_of_lt hlt)
  have bA : Below w.heap.size w (w.alloc (.cells #[.int .i64 co, .int .i64 us, .int .i64 va, .slice la ps.length lc] 38)) := (Below.refl _ _).alloc (Nat.le_refl _) _
  have X0 := Blk.new w #[.int .i64 co, .int .i64 us, .int .i64 va, .slice la ps.length lc] 38
  have K0 : Kp base b w (w.alloc (.cells #[.int .i64 co, .int .i64 us, .int .i64 va, .slice la ps.length lc] 38)) := Kp.of_below bA hB0
  have R0 := R.below bA
  have hXb : w.heap.size ≠ b := by omega
  go_enter Try.func64, Try.ntmps64
  have q0 := X0.cell 0
  simp only [List.getElem?_toArray, List.getElem?_cons_zero] at q0
  go_wp2_with fail
  refine (rnum_any base b co (B) (far) (odd) _ hb bco (by omega) R0).mono ?_
  rintro e w1 ⟨rfl, R1, k1⟩
  have L1 : (B ++ numZ co).length ≤ B.length + 6 := by rw [List.length_append]; have := numZ_len co; omega
  have X1 := X0.kp k1 hXb
  have K1 := K0.trans k1
  clear q0
  have q1 := X1.cell 1
  simp only [List.getElem?_toArray, List.getElem?_cons_succ, List.getElem?_cons_zero] at q1
  go_wp2_with fail
  refine (rnum_any base b us (B ++ numZ co) (far || !inNum co) (odd) _ hb bus (by omega) R1).mono ?_
  rintro e w2 ⟨rfl, R2, k2⟩
  have L2 : (B ++ numZ co ++ numZ us).length ≤ B.length + 12 := by rw [List.length_append]; have := numZ_len us; omega
  have X2 := X1.kp k2 hXb
  have K2 := K1.trans k2
  clear q1
  have q2 := X2.cell 2
  simp only [List.getElem?_toArray, List.getElem?_cons_succ, List.getElem?_cons_zero] at q2
  go_wp2_with fail
  refine (rnum_any base b va (B ++ numZ co ++ numZ us) (far || !inNum co || !inNum us) (odd) _ hb bva (by omega) R2).mono ?_
  rintro e w3 ⟨rfl, R3, k3⟩
  have L3 : (B ++ numZ co ++ numZ us ++ numZ va).length ≤ B.length + 18 := by rw [List.length_append]; have := numZ_len va; omega
  have X3 := X2.kp k3 hXb
  have K3 := K2.trans k3
  clear q2
  have q3 := X3.cell 3
  simp only [List.getElem?_toArray, List.getElem?_cons_succ, List.getElem?_cons_zero] at q3
  go_wp2_with fail
  refine (rcount_any base b (ps.length : Int) 64 _ _ odd _ hb (by omega) (by omega) R3).mono ?_
  rintro e w4 ⟨rfl, R4, k4⟩
  have X4 := X3.kp k4 hXb
  have K4 := K3.trans k4
  have l4 := numZ_len (ps.length : Int)
  generalize hBB : B ++ numZ co ++ numZ us ++ numZ va ++ numZ (ps.length : Int) = BB at *
  generalize hFF : (far || !inNum co || !inNum us || !inNum va || decide ((64 : Int) < ps.length) || !inNum ps.length) = FF at *
  have HB := show Hid (_ = _) from hBB
  have HF := show Hid (_ = _) from hFF
  have hBL : BB.length ≤ 1099400001000 := by rw [← hBB, List.length_append]; omega
  clear hBB hFF L1 L2 L3 k1 k2 k3 R3 q3
  have q3 := X4.cell 3
  simp only [List.getElem?_toArray, List.getElem?_cons_succ, List.getElem?_cons_zero] at q3
  have hX4 := X4.lt
  go_wp2_with fail
  go_loopw [4] (fun iv wv => ∃ (k : Nat), k ≤ ps.length ∧ iv = .int .i64 k ∧ RefAt wv b (BB ++ pairsZ (ps.take k)) (FF || pairsFar (ps.take k)) odd ∧ Kp base b w4 wv) (fun iv _ => ps.length - (intOf iv).toNat)
  case atStart => exact ⟨0, Nat.zero_le _, rfl, by simpa [pairsZ, pairsFar] using R4, Kp.refl _ _ _⟩
  case round =>
    obtain ⟨k, hk, rfl, Rk, Kk⟩ := hrel
    have Xk := X4.kp Kk hXb
    have u3 := Xk.cell 3
    simp only [List.getElem?_toArray, List.getElem?_cons_succ, List.getElem?_cons_zero] at u3
    have hXk := Xk.lt
    by_cases hlt : k < ps.length
    · have hlt' : (k : Int) < (ps.length : Int) := by omega
      have Hz := show Hid (_ = _) from pairsZ_take ps k ps[k] (List.getElem?_eq_getElem hlt)
      have Hf := show Hid (_ = _) from pairsFar_take ps k ps[k] (List.getElem?_eq_getElem hlt)
      have hlz : (BB ++ pairsZ (ps.take k)).length ≤ 1099401000000 := by
        have := pairsZ_len (ps.take k)
        rw [List.length_take] at this
        rw [List.length_append]; omega
      obtain ⟨hbd, h0 | ⟨rb, ro, rfl, hrl, hc⟩⟩ := (hps.kp K4).kp Kk
      · subst h0; simp at hlt
      obtain ⟨y0, y1⟩ := hc k ps[k] (List.getElem?_eq_getElem hlt)
      obtain ⟨hp1, hp2⟩ := hbd _ (List.getElem_mem hlt)
      generalize ps[k] = p at *
      obtain ⟨pa, pc⟩ := p
      simp only at y0 y1 hp1 hp2 Hz Hf
      clear hc hbd
      go_wp2_with fail
      refine (rnum_any base b pa _ _ odd _ hb hp1 (by omega) Rk).mono ?_
      rintro e w5 ⟨rfl, R5, k5⟩
      have z1 := numZ_len pa
      have L5 : (BB ++ pairsZ (ps.take k) ++ numZ pa).length ≤ 1099401000010 := by rw [List.length_append]; omega
      have y2 : w5.cell? ⟨rb, ro + k * 2 + 1, none⟩ = some (.int .i64 pc) := by rw [k5.below.cell (p := ⟨rb, ro + k * 2 + 1, none⟩) hrl]; exact y1
      have X5 := Xk.kp k5 hXb
      have v3 := X5.cell 3
      simp only [List.getElem?_toArray, List.getElem?_cons_succ, List.getElem?_cons_zero] at v3
      go_wp2_with fail
      refine (rnum_any base b pc _ _ odd _ hb hp2 (by omega) R5).mono ?_
      rintro e w6 ⟨rfl, R6, k6⟩
      have HR : Hid (RefAt w6 b (BB ++ pairsZ (ps.take (k + 1))) (FF || pairsFar (ps.take (k + 1))) odd) := by
        show RefAt _ _ _ _ _
        rw [Hz.out, Hf.out]
        simpa [List.append_assoc, Bool.or_assoc] using R6
      clear R6 R5 Rk Hz Hf
      go_wp2
      exact ⟨⟨k + 1, by omega, by go_num, HR.out, Kk.trans (k5.trans k6)⟩, by simp [intOf]; omega⟩
    · have hkk : k = ps.length := by omega
      have Hf : Hid (RefAt wr b (B ++ resultZ co us va ps) (far || resultFar co us va ps) odd) := by
        have h := Rk
        rw [hkk, List.take_length, ← HB.out, ← HF.out] at h
        show RefAt _ _ _ _ _
        unfold resultZ resultFar
        simpa [List.append_assoc, Bool.or_assoc] using h
      have hge : ¬ (k : Int) < (ps.length : Int) := by omega
      clear hkk Rk
      go_wp2
      go_end0
      exact ⟨rfl, Hf.out, K4.trans Kk⟩

end Go.Proofs.Ytgcebahlfgclgaa
