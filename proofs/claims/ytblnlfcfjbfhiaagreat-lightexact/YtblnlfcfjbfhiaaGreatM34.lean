/- The answer's writing of views and results, and what both say of benches, views and results: the same. -/
import Derived.Test.YtblnlfcfjbfhiaaGreatM32
import Derived.Test.YtblnlfcfjbfhiaaGreatWRefB

namespace Go.Proofs.YtblnlfcfjbfhiaaGreat.W
open Go.RowKit
set_option linter.unusedVariables false

def viewZ (c wi ep h st : Int) (ps : List (Int × Int)) : List UInt8 := numZ c ++ numZ wi ++ numZ ep ++ numZ h ++ be st 8 ++ benchZ ps

def viewFar (c wi ep h : Int) (ps : List (Int × Int)) : Bool := !inNum c || !inNum wi || !inNum ep || !inNum h || benchFar ps

def viewOdd (wi ep : Int) (ps : List (Int × Int)) : Bool := benchOdd ps || (decide (wi < 1) || decide (8 < wi) || decide (ep < 1))

def resultZ (co us va : Int) (ps : List (Int × Int)) : List UInt8 := numZ co ++ numZ us ++ numZ va ++ numZ ps.length ++ pairsZ ps

def resultFar (co us va : Int) (ps : List (Int × Int)) : Bool := !inNum co || !inNum us || !inNum va || (decide ((64 : Int) < ps.length) || !inNum ps.length || pairsFar ps)

set_option maxHeartbeats 3200000 in
theorem rview_any (base b : Nat) (c : Int) (wi : Int) (ep : Int) (h : Int) (st : Int) (la : Option Addr) (lc : Nat) (ps : List (Int × Int)) (B : List UInt8) (far odd : Bool) (w : World) (hb : base ≤ b) (bc : -9223372036854775808 ≤ c ∧ c ≤ 9223372036854775807) (bwi : -9223372036854775808 ≤ wi ∧ wi ≤ 9223372036854775807) (bep : -9223372036854775808 ≤ ep ∧ ep ≤ 9223372036854775807) (bh : -9223372036854775808 ≤ h ∧ h ≤ 9223372036854775807) (bst : 0 ≤ st ∧ st ≤ 18446744073709551615) (hn : ps.length ≤ 65536) (hB : B.length ≤ 1099400000000) (R : RefAt w b B far odd) (hps : PairsLt base w la ps) :
    Calls Tryz.prog 52 #[.pointer (some ⟨b, 0, none⟩), .agg #[.int .i64 c, .int .i64 wi, .int .i64 ep, .int .i64 h, .int .u64 st, .slice la ps.length lc]] w fun e w' => e = .returned (.tuple #[]) ∧ RefAt w' b (B ++ viewZ c wi ep h st ps) (far || viewFar c wi ep h ps) (odd || viewOdd wi ep ps) ∧ Kp base b w w' := by
  have hlt := Blk.lt R
  have hB0 : base ≤ w.heap.size := Nat.le_trans hb (Nat.le_of_lt hlt)
  have bA : Below w.heap.size w (w.alloc (.cells #[.int .i64 c, .int .i64 wi, .int .i64 ep, .int .i64 h, .int .u64 st, .slice la ps.length lc] 26)) := (Below.refl _ _).alloc (Nat.le_refl _) _
  have X0 := Blk.new w #[.int .i64 c, .int .i64 wi, .int .i64 ep, .int .i64 h, .int .u64 st, .slice la ps.length lc] 26
  have K0 : Kp base b w (w.alloc (.cells #[.int .i64 c, .int .i64 wi, .int .i64 ep, .int .i64 h, .int .u64 st, .slice la ps.length lc] 26)) := Kp.of_below bA hB0
  have R0 := R.below bA
  have hXb : w.heap.size ≠ b := by omega
  go_enter Tryz.func52, Tryz.ntmps52
  have q0 := X0.cell 0
  simp only [List.getElem?_toArray, List.getElem?_cons_zero] at q0
  go_wp2_with fail
  refine (rnum_any base b c (B) (far) (odd) _ hb bc (by omega) R0).mono ?_
  rintro e w1 ⟨rfl, R1, k1⟩
  have L1 : (B ++ numZ c).length ≤ B.length + 6 := by rw [List.length_append]; have := numZ_len c; omega
  have X1 := X0.kp k1 hXb
  have K1 := K0.trans k1
  clear q0
  have q1 := X1.cell 1
  simp only [List.getElem?_toArray, List.getElem?_cons_succ, List.getElem?_cons_zero] at q1
  go_wp2_with fail
  refine (rnum_any base b wi (B ++ numZ c) (far || !inNum c) (odd) _ hb bwi (by omega) R1).mono ?_
  rintro e w2 ⟨rfl, R2, k2⟩
  have L2 : (B ++ numZ c ++ numZ wi).length ≤ B.length + 12 := by rw [List.length_append]; have := numZ_len wi; omega
  have X2 := X1.kp k2 hXb
  have K2 := K1.trans k2
  clear q1
  have q2 := X2.cell 2
  simp only [List.getElem?_toArray, List.getElem?_cons_succ, List.getElem?_cons_zero] at q2
  go_wp2_with fail
  refine (rnum_any base b ep (B ++ numZ c ++ numZ wi) (far || !inNum c || !inNum wi) (odd) _ hb bep (by omega) R2).mono ?_
  rintro e w3 ⟨rfl, R3, k3⟩
  have L3 : (B ++ numZ c ++ numZ wi ++ numZ ep).length ≤ B.length + 18 := by rw [List.length_append]; have := numZ_len ep; omega
  have X3 := X2.kp k3 hXb
  have K3 := K2.trans k3
  clear q2
  have q3 := X3.cell 3
  simp only [List.getElem?_toArray, List.getElem?_cons_succ, List.getElem?_cons_zero] at q3
  go_wp2_with fail
  refine (rnum_any base b h (B ++ numZ c ++ numZ wi ++ numZ ep) (far || !inNum c || !inNum wi || !inNum ep) (odd) _ hb bh (by omega) R3).mono ?_
  rintro e w4 ⟨rfl, R4, k4⟩
  have L4 : (B ++ numZ c ++ numZ wi ++ numZ ep ++ numZ h).length ≤ B.length + 24 := by rw [List.length_append]; have := numZ_len h; omega
  have X4 := X3.kp k4 hXb
  have K4 := K3.trans k4
  clear q3
  have q4 := X4.cell 4
  simp only [List.getElem?_toArray, List.getElem?_cons_succ, List.getElem?_cons_zero] at q4
  go_wp2_with fail
  refine (rdig_any base b st (B ++ numZ c ++ numZ wi ++ numZ ep ++ numZ h) (far || !inNum c || !inNum wi || !inNum ep || !inNum h) (odd) _ hb bst (by omega) R4).mono ?_
  rintro e w5 ⟨rfl, R5, k5⟩
  have L5 : (B ++ numZ c ++ numZ wi ++ numZ ep ++ numZ h ++ be st 8).length ≤ B.length + 32 := by rw [List.length_append]; have := be_len st 8; omega
  have X5 := X4.kp k5 hXb
  have K5 := K4.trans k5
  clear q4
  have q5 := X5.cell 5
  simp only [List.getElem?_toArray, List.getElem?_cons_succ, List.getElem?_cons_zero] at q5
  have ps5 := hps.kp K5
  go_wp2_with fail
  refine (rbench_any base b la lc ps _ _ odd _ hb (by omega) R5 ps5).mono ?_
  rintro e w6 ⟨rfl, R6, k6⟩
  have X6 := X5.kp k6 hXb
  have K6 := K5.trans k6
  have EB : B ++ numZ c ++ numZ wi ++ numZ ep ++ numZ h ++ be st 8 ++ benchZ ps = B ++ viewZ c wi ep h st ps := by simp [viewZ, List.append_assoc]
  have EF : (far || !inNum c || !inNum wi || !inNum ep || !inNum h || benchFar ps) = (far || viewFar c wi ep h ps) := by simp [viewFar, Bool.or_assoc]
  rw [EB, EF] at R6
  clear EB EF L1 L2 L3 L4 L5 k1 k2 k3 k4 k5 k6 q5 ps5 hps R5
  have q1 := X6.cell 1
  have q2 := X6.cell 2
  simp only [List.getElem?_toArray, List.getElem?_cons_succ, List.getElem?_cons_zero] at q1 q2
  by_cases h1 : wi < 1
  · skip
    go_wp2_with fail
    refine (rodd_any base b true _ _ _ _ hb R6).mono ?_
    rintro e w7 ⟨rfl, R7, k7⟩
    rw [show (odd || benchOdd ps || true) = (odd || viewOdd wi ep ps) by simp [viewOdd, h1]] at R7
    go_wp2
    go_end0
    exact ⟨rfl, R7, K6.trans k7⟩
  · by_cases h2 : 8 < wi
    · skip
      go_wp2_with fail
      refine (rodd_any base b true _ _ _ _ hb R6).mono ?_
      rintro e w7 ⟨rfl, R7, k7⟩
      rw [show (odd || benchOdd ps || true) = (odd || viewOdd wi ep ps) by simp [viewOdd, h2]] at R7
      go_wp2
      go_end0
      exact ⟨rfl, R7, K6.trans k7⟩
    · skip
      go_wp2_with fail
      refine (rodd_any base b (decide (wi < 1) || decide (8 < wi) || decide (ep < 1)) _ _ _ _ hb R6).mono ?_
      rintro e w7 ⟨rfl, R7, k7⟩
      rw [show (odd || benchOdd ps || (decide (wi < 1) || decide (8 < wi) || decide (ep < 1))) = (odd || viewOdd wi ep ps) by rw [viewOdd, Bool.or_assoc]] at R7
      go_wp2
      go_end0
      exact ⟨rfl, R7, K6.trans k7⟩



end Go.Proofs.YtblnlfcfjbfhiaaGreat.W

namespace Go.Proofs.YtblnlfcfjbfhiaaGreat.W
open Go.RowKit
set_option linter.unusedVariables false

theorem seats_of {w w5 : World} {b : Nat} {la : Option Addr} {ps : List (Int × Int)} (h : PairsAt w la ps) (hb : Below w.heap.size w w5) (hle : w.heap.size ≤ b) : Seats w5 b la ps := by
  rcases h.2 with h | ⟨rb, ro, e, hl, hc⟩
  · exact .inl h
  · refine .inr ⟨rb, ro, e, ⟨by omega, Nat.lt_of_lt_of_le hl hb.size, .inl (by omega)⟩, fun i p hp => ?_⟩
    have := hc i p hp
    exact ⟨by rw [hb.cell (p := ⟨rb, ro + i * 2, none⟩) hl]; exact this.1, by rw [hb.cell (p := ⟨rb, ro + i * 2 + 1, none⟩) hl]; exact this.2⟩

theorem notes_of {w w5 : World} {b : Nat} {la : Option Addr} {ps : List (Int × Int)} (h : PairsAt w la ps) (hb : Below w.heap.size w w5) (hle : w.heap.size ≤ b) : Notes w5 b la ps := by
  rcases h.2 with h | ⟨rb, ro, e, hl, hc⟩
  · exact .inl h
  · refine .inr ⟨rb, ro, e, ⟨by omega, Nat.lt_of_lt_of_le hl hb.size, .inl (by omega)⟩, fun i p hp => ?_⟩
    have := hc i p hp
    exact ⟨by rw [hb.cell (p := ⟨rb, ro + i * 2, none⟩) hl]; exact this.1, by rw [hb.cell (p := ⟨rb, ro + i * 2 + 1, none⟩) hl]; exact this.2⟩

theorem lt_of {w w5 : World} {la : Option Addr} {ps : List (Int × Int)} (h : PairsAt w la ps) (hb : Below w.heap.size w w5) : PairsLt w.heap.size w5 la ps := by
  refine ⟨h.1, ?_⟩
  rcases h.2 with h | ⟨rb, ro, e, hl, hc⟩
  · exact .inl h
  · refine .inr ⟨rb, ro, e, hl, fun i p hp => ?_⟩
    have := hc i p hp
    exact ⟨by rw [hb.cell (p := ⟨rb, ro + i * 2, none⟩) hl]; exact this.1, by rw [hb.cell (p := ⟨rb, ro + i * 2 + 1, none⟩) hl]; exact this.2⟩

theorem view_same (c wi ep h st : Int) (ps : List (Int × Int)) : resB (viewP (some []) c wi ep h st ps) (mayViewP wi ep ps) = outB (viewZ c wi ep h st ps) (viewFar c wi ep h ps) (viewOdd wi ep ps) ∧ resE (viewP (some []) c wi ep h st ps) (mayViewP wi ep ps) = outE (viewFar c wi ep h ps) (viewOdd wi ep ps) := by
  have e := bench_rel (((((Rel.nil.num c).num wi).num ep).num h).app (be st 8)) ps
  simp only [List.nil_append, Bool.false_or] at e
  refine Rel.res (Z := viewZ c wi ep h st ps) (F := viewFar c wi ep h ps) e (fun hf => ?_)
  simp only [viewFar, Bool.or_eq_false_iff] at hf
  unfold viewOdd mayViewP
  rw [bench_odd ps hf.2]
  cases mayBenchP ps <;> by_cases h1 : wi < 1 <;> by_cases h2 : 8 < wi <;> by_cases h3 : ep < 1 <;> simp_all <;> omega

theorem result_same (co us va : Int) (ps : List (Int × Int)) : resB (resultP (some []) co us va ps) true = outB (resultZ co us va ps) (resultFar co us va ps) false ∧ resE (resultP (some []) co us va ps) true = outE (resultFar co us va ps) false := by
  have e := notes_rel ps ((((Rel.nil.num co).num us).num va).numM 64 (ps.length : Int) (by omega) (by omega))
  simp only [List.nil_append, Bool.false_or] at e
  have e2 : (!inNum co || !inNum us || !inNum va || decide ((64 : Int) < ps.length) || !inNum ps.length || pairsFar ps) = resultFar co us va ps := by simp [resultFar, Bool.or_assoc]
  rw [e2] at e
  exact Rel.res (Z := resultZ co us va ps) (F := resultFar co us va ps) e (fun _ => rfl)

set_option maxHeartbeats 800000 in
theorem wputBench_any (la : Option Addr) (lc : Nat) (ps : List (Int × Int)) (w : World) (hn : ps.length ≤ 65536) (hc : ps.length ≤ lc) (hcm : lc ≤ maxLen) (hps : PairsAt w la ps) :
    Calls Tryz.prog 49 #[(.slice la ps.length lc)] w fun e w' => e = .returned (.tuple #[.string ⟨(outB (benchZ ps) (benchFar ps) (benchOdd ps)).toArray⟩, .int .i64 (outE (benchFar ps) (benchOdd ps))]) ∧ Below w.heap.size w w' := by
  have hput := put_Bench  la ps.length lc (seatL 7 (some []) ps) (mayBenchP ps) w (fun b w5 hP kX hne hb5 => pbench_any w.heap.size b w.heap.size 0 la lc ps [] w5 (by omega) hc hcm (by simp) hP (kX.safe (by decide) hne) (by rw [kX.cell 0]; rfl) (seats_of hps hb5 hP.le.1)) (fun w5 h5 => mayBench_any la lc ps w5 (by omega) (hps.below (B := 0) h5))
  rw [(bench_same ps).1, (bench_same ps).2] at hput
  go_enter Tryz.func49, Tryz.ntmps49
  go_wp2_with fail
  refine hput.mono ?_
  rintro e w1 ⟨rfl, b1⟩
  go_wp2
  go_ret2
  exact ⟨rfl, b1⟩

set_option maxHeartbeats 800000 in
theorem rputBench_any (la : Option Addr) (lc : Nat) (ps : List (Int × Int)) (w : World) (hn : ps.length ≤ 65536) (hc : ps.length ≤ lc) (hcm : lc ≤ maxLen) (hps : PairsAt w la ps) :
    Calls Tryz.prog 30 #[(.slice la ps.length lc)] w fun e w' => e = .returned (.tuple #[.string ⟨(outB (benchZ ps) (benchFar ps) (benchOdd ps)).toArray⟩, .int .i64 (outE (benchFar ps) (benchOdd ps))]) ∧ Below w.heap.size w w' := by
  have R0 : RefAt (w.alloc (.cells #[.string ⟨#[]⟩, .bool false, .bool false] 80)) (w.heap.size) [] false false := by
    have h := Blk.new w #[.string ⟨#[]⟩, .bool false, .bool false] 80
    skip
    exact h
  have bA : Below w.heap.size w (w.alloc (.cells #[.string ⟨#[]⟩, .bool false, .bool false] 80)) := (Below.refl _ _).alloc (Nat.le_refl _) _
  have P0 := lt_of hps bA
  go_enter Tryz.func30, Tryz.ntmps30
  go_wp2_with fail
  refine (rbench_any w.heap.size w.heap.size la lc ps [] false false _ (Nat.le_refl _) (by simp; omega) R0 P0).mono ?_
  rintro e w1 ⟨rfl, R1, k1⟩
  simp only [List.nil_append, Bool.false_or] at R1
  have b1 := bA.trans k1.below
  go_wp2_with fail
  refine (rout_any (w.heap.size) _ _ _ _ R1).mono ?_
  rintro e w2 ⟨rfl, b2⟩
  go_wp2
  go_ret2
  exact ⟨rfl, b1.trans (b2.mono b1.size)⟩

set_option maxHeartbeats 800000 in
theorem wputView_any (c : Int) (wi : Int) (ep : Int) (h : Int) (st : Int) (la : Option Addr) (lc : Nat) (ps : List (Int × Int)) (w : World) (bc : -9223372036854775808 ≤ c ∧ c ≤ 9223372036854775807) (bwi : -9223372036854775808 ≤ wi ∧ wi ≤ 9223372036854775807) (bep : -9223372036854775808 ≤ ep ∧ ep ≤ 9223372036854775807) (bh : -9223372036854775808 ≤ h ∧ h ≤ 9223372036854775807) (bst : 0 ≤ st ∧ st ≤ 18446744073709551615) (hn : ps.length ≤ 65536) (hc : ps.length ≤ lc) (hcm : lc ≤ maxLen) (hps : PairsAt w la ps) :
    Calls Tryz.prog 46 #[(.agg #[.int .i64 c, .int .i64 wi, .int .i64 ep, .int .i64 h, .int .u64 st, .slice la ps.length lc])] w fun e w' => e = .returned (.tuple #[.string ⟨(outB (viewZ c wi ep h st ps) (viewFar c wi ep h ps) (viewOdd wi ep ps)).toArray⟩, .int .i64 (outE (viewFar c wi ep h ps) (viewOdd wi ep ps))]) ∧ Below w.heap.size w w' := by
  have bA : Below w.heap.size w (w.alloc (.cells #[.int .i64 c, .int .i64 wi, .int .i64 ep, .int .i64 h, .int .u64 st, .slice la ps.length lc] 26)) := (Below.refl _ _).alloc (Nat.le_refl _) _
  have hps1 := hps.below (B := 0) bA
  have hput := put_View c wi ep h st la ps.length lc (viewP (some []) c wi ep h st ps) (mayViewP wi ep ps) (w.alloc (.cells #[.int .i64 c, .int .i64 wi, .int .i64 ep, .int .i64 h, .int .u64 st, .slice la ps.length lc] 26)) (fun b w5 hP kX hne hb5 => pview_any (w.alloc (.cells #[.int .i64 c, .int .i64 wi, .int .i64 ep, .int .i64 h, .int .u64 st, .slice la ps.length lc] 26)).heap.size b (w.alloc (.cells #[.int .i64 c, .int .i64 wi, .int .i64 ep, .int .i64 h, .int .u64 st, .slice la ps.length lc] 26)).heap.size c wi ep h st la lc ps [] w5 bst (by omega) hc hcm (by simp) hP kX hne (seats_of hps1 hb5 hP.le.1)) (fun w5 h5 => mayView_any c wi ep h st la lc ps w5 (by omega) (hps1.below (B := 0) h5))
  rw [(view_same c wi ep h st ps).1, (view_same c wi ep h st ps).2] at hput
  go_enter Tryz.func46, Tryz.ntmps46
  go_wp2_with fail
  refine hput.mono ?_
  rintro e w1 ⟨rfl, b1⟩
  go_wp2
  go_ret2
  exact ⟨rfl, bA.trans (b1.mono bA.size)⟩

set_option maxHeartbeats 800000 in
theorem rputView_any (c : Int) (wi : Int) (ep : Int) (h : Int) (st : Int) (la : Option Addr) (lc : Nat) (ps : List (Int × Int)) (w : World) (bc : -9223372036854775808 ≤ c ∧ c ≤ 9223372036854775807) (bwi : -9223372036854775808 ≤ wi ∧ wi ≤ 9223372036854775807) (bep : -9223372036854775808 ≤ ep ∧ ep ≤ 9223372036854775807) (bh : -9223372036854775808 ≤ h ∧ h ≤ 9223372036854775807) (bst : 0 ≤ st ∧ st ≤ 18446744073709551615) (hn : ps.length ≤ 65536) (hc : ps.length ≤ lc) (hcm : lc ≤ maxLen) (hps : PairsAt w la ps) :
    Calls Tryz.prog 27 #[(.agg #[.int .i64 c, .int .i64 wi, .int .i64 ep, .int .i64 h, .int .u64 st, .slice la ps.length lc])] w fun e w' => e = .returned (.tuple #[.string ⟨(outB (viewZ c wi ep h st ps) (viewFar c wi ep h ps) (viewOdd wi ep ps)).toArray⟩, .int .i64 (outE (viewFar c wi ep h ps) (viewOdd wi ep ps))]) ∧ Below w.heap.size w w' := by
  have R0 : RefAt ((w.alloc (.cells #[.int .i64 c, .int .i64 wi, .int .i64 ep, .int .i64 h, .int .u64 st, .slice la ps.length lc] 26)).alloc (.cells #[.string ⟨#[]⟩, .bool false, .bool false] 80)) (w.heap.size + 1) [] false false := by
    have h := Blk.new (w.alloc (.cells #[.int .i64 c, .int .i64 wi, .int .i64 ep, .int .i64 h, .int .u64 st, .slice la ps.length lc] 26)) #[.string ⟨#[]⟩, .bool false, .bool false] 80
    rw [World.size_alloc] at h
    exact h
  have bA : Below w.heap.size w ((w.alloc (.cells #[.int .i64 c, .int .i64 wi, .int .i64 ep, .int .i64 h, .int .u64 st, .slice la ps.length lc] 26)).alloc (.cells #[.string ⟨#[]⟩, .bool false, .bool false] 80)) := ((Below.refl _ _).alloc (Nat.le_refl _) _).alloc (by simp) _
  have P0 := lt_of hps bA
  go_enter Tryz.func27, Tryz.ntmps27
  go_wp2_with fail
  refine (rview_any w.heap.size (w.heap.size + 1) c wi ep h st la lc ps [] false false _ (by omega) bc bwi bep bh bst hn (by simp) R0 P0).mono ?_
  rintro e w1 ⟨rfl, R1, k1⟩
  simp only [List.nil_append, Bool.false_or] at R1
  have b1 := bA.trans k1.below
  go_wp2_with fail
  refine (rout_any (w.heap.size + 1) _ _ _ _ R1).mono ?_
  rintro e w2 ⟨rfl, b2⟩
  go_wp2
  go_ret2
  exact ⟨rfl, b1.trans (b2.mono b1.size)⟩





end Go.Proofs.YtblnlfcfjbfhiaaGreat.W
