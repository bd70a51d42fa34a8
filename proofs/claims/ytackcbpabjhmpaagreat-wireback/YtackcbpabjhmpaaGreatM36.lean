import Derived.Test.YtackcbpabjhmpaaGreatM34
namespace Go.Proofs.YtackcbpabjhmpaaGreat
open Go.RowKit
set_option linter.unusedVariables false
set_option linter.unusedSimpArgs false
set_option maxRecDepth 8000 in
set_option maxHeartbeats 6400000 in
theorem rrecord_wa (base b : Nat) (x : Record) (k : Int) (hxk : x.k = k) (e1 : k < 1) (l : List Atom) (odd : Bool) (w : World) (hb : base ≤ b) (hL : wtL l + (6) ≤ 1099400000000) (R : RefL w b l odd) (g : goods base w x.flds) :
  Calls Tryz.prog 190 #[.pointer (some ⟨b, 0, none⟩), .agg x.arr] w fun e w' => e = .returned (.tuple #[]) ∧ RefL w' b (l ++ x.atoms) (odd || x.odd) ∧ Kp base b w w' := by
 obtain ⟨C, HC⟩ : ∃ C, Hid (C = x.arr) := ⟨_, rfl⟩
 rw [← HC.out]
 have hlt := R.lt
 have hB0 : base ≤ w.heap.size := Nat.le_trans hb (Nat.le_of_lt hlt)
 have bA : Below w.heap.size w (w.alloc (.cells C 158)) := (Below.refl _ _).alloc (Nat.le_refl _) _
 have X0 := Blk.new w C 158
 have K0 : Kp base b w (w.alloc (.cells C 158)) := Kp.of_below bA hB0
 have R0 := R.below bA
 have hXb : w.heap.size ≠ b := by omega
 have gk := (show Fld.good base w (.i x.k) from g.get 0 rfl)
 rw [hxk] at gk
 have gk1 : -9223372036854775808 ≤ k := gk.1
 have gk2 : k ≤ 9223372036854775807 := gk.2
 clear gk R
 have Hk := show Hid (_ = _) from hxk
 clear hxk
 have HA : Hid (x.atoms = intA k ++ []) := by show _ = _; simp [Record.atoms, Record.tail, Hk.out, show ¬ k = 1 by omega, show ¬ k = 2 by omega, show ¬ k = 3 by omega, show ¬ k = 4 by omega]
 have HO : Hid (x.odd = (true || !x.vo.no || !x.mo.no || !x.kn.no || false)) := by
  show _ = _
  simp only [Record.odd, Hk.out]; rw [show (decide (k < 1) || decide (4 < k)) = true by simp; omega]; simp
 have f1 : ¬ k = 1 := by omega
 have f1b : (k == 1) = false := by simp [f1]
 have f1n : (k != 1) = true := by simp [bne, f1b]
 have f2 : ¬ k = 2 := by omega
 have f2b : (k == 2) = false := by simp [f2]
 have f2n : (k != 2) = true := by simp [bne, f2b]
 have f3 : ¬ k = 3 := by omega
 have f3b : (k == 3) = false := by simp [f3]
 have f3n : (k != 3) = true := by simp [bne, f3b]
 have f4 : ¬ k = 4 := by omega
 have f4b : (k == 4) = false := by simp [f4]
 have f4n : (k != 4) = true := by simp [bne, f4b]
 go_enter Tryz.func190, Tryz.ntmps190
 have q0 : (w.alloc (.cells C 158)).cell? ⟨w.heap.size, 0, none⟩ = some (.int .i64 k) := (X0.cell 0).trans (by rw [HC.out, ← Hk.out]; rfl)
 go_wp2_with fail
 refine (rnumL base b k l odd _ hb ⟨by omega, by omega⟩ (by omega) R0).mono ?_
 rintro e w1 ⟨rfl, R1, k1⟩
 obtain ⟨m1, Hl1⟩ : ∃ l', Hid (l' = l ++ intA k) := ⟨_, rfl⟩
 rw [← Hl1.out] at R1
 have HL1 : Hid (wtL m1 = wtL l + 6) := by
  show _ = _
  rw [Hl1.out, wtL_append] <;> rfl
 have X1 := X0.kp k1 hXb
 have K1 := K0.trans k1
 clear q0 k1 X0 R0
 have q0 : w1.cell? ⟨w.heap.size, 0, none⟩ = some (.int .i64 k) := (X1.cell 0).trans (by rw [HC.out, ← Hk.out]; rfl)
 go_wp2_with fail
 refine (roddL base b _ _ _ _ hb R1).mono ?_
 rintro e w2 ⟨rfl, R2, k2⟩
 have R2 := R2.as rfl (show _ = (odd || true) by simp)
 obtain ⟨o1, Ho1⟩ : ∃ o', Hid (o' = (odd || true)) := ⟨_, rfl⟩
 rw [← Ho1.out] at R2
 have X2 := X1.kp k2 hXb
 have K2 := K1.trans k2
 clear q0 k2 X1 R1
 have q0 : w2.cell? ⟨w.heap.size, 0, none⟩ = some (.int .i64 k) := (X2.cell 0).trans (by rw [HC.out, ← Hk.out]; rfl)
 have q1 : w2.cell? ⟨w.heap.size, 1, none⟩ = some (.int .i64 x.vo.h) := (X2.cell 1).trans (by rw [HC.out]; rfl)
 have q2 : w2.cell? ⟨w.heap.size, 2, none⟩ = some (.int .i64 x.vo.r) := (X2.cell 2).trans (by rw [HC.out]; rfl)
 have q3 : w2.cell? ⟨w.heap.size, 3, none⟩ = some (.int .i64 x.vo.s) := (X2.cell 3).trans (by rw [HC.out]; rfl)
 have q4 : w2.cell? ⟨w.heap.size, 4, none⟩ = some (.bool x.vo.has) := (X2.cell 4).trans (by rw [HC.out]; rfl)
 have q5 : w2.cell? ⟨w.heap.size, 5, none⟩ = some (.int .u64 x.vo.bl) := (X2.cell 5).trans (by rw [HC.out]; rfl)
 have q6 : w2.cell? ⟨w.heap.size, 6, none⟩ = some (.int .i64 x.vo.f) := (X2.cell 6).trans (by rw [HC.out]; rfl)
 go_upto_region 4 with fail
 go_cut [] (fun wx => RefL wx b m1 (o1 || !x.vo.no) ∧ Kp base b w2 wx)
 case first =>
  go_wp2_with fail
  all_goals (
   refine (roddL base b _ _ _ _ hb R2).mono ?_
   rintro e w' ⟨rfl, R', k'⟩
   go_wp2_with fail
   go_meet
   case rel => exact ⟨R'.as rfl (by simp [Vote.no, *]), k'⟩)
 case rest =>
  obtain ⟨R3, k3⟩ := hcut
  obtain ⟨o2, Ho2⟩ : ∃ o', Hid (o' = (o1 || !x.vo.no)) := ⟨_, rfl⟩
  rw [← Ho2.out] at R3
  have X3 := X2.kp k3 hXb
  have K3 := K2.trans k3
  clear q0 q1 q2 q3 q4 q5 q6
  clear k3 X2 R2
  generalize wc = v3 at *
  have q0 : v3.cell? ⟨w.heap.size, 0, none⟩ = some (.int .i64 k) := (X3.cell 0).trans (by rw [HC.out, ← Hk.out]; rfl)
  have q7 : v3.cell? ⟨w.heap.size, 7, none⟩ = some (.int .i64 x.mo.ro) := (X3.cell 7).trans (by rw [HC.out]; rfl)
  have q8 : v3.cell? ⟨w.heap.size, 8, none⟩ = some (.int .i64 x.mo.fr) := (X3.cell 8).trans (by rw [HC.out]; rfl)
  have q9 : v3.cell? ⟨w.heap.size, 9, none⟩ = some (.int .i64 x.mo.bl.hd.c) := (X3.cell 9).trans (by rw [HC.out]; rfl)
  have q10 : v3.cell? ⟨w.heap.size, 10, none⟩ = some (.int .i64 x.mo.bl.hd.h) := (X3.cell 10).trans (by rw [HC.out]; rfl)
  have q11 : v3.cell? ⟨w.heap.size, 11, none⟩ = some (.int .u64 x.mo.bl.hd.pa) := (X3.cell 11).trans (by rw [HC.out]; rfl)
  have q12 : v3.cell? ⟨w.heap.size, 12, none⟩ = some (.int .u64 x.mo.bl.hd.tx) := (X3.cell 12).trans (by rw [HC.out]; rfl)
  have q13 : v3.cell? ⟨w.heap.size, 13, none⟩ = some (.int .u64 x.mo.bl.hd.gu) := (X3.cell 13).trans (by rw [HC.out]; rfl)
  have q14 : v3.cell? ⟨w.heap.size, 14, none⟩ = some (.int .u64 x.mo.bl.hd.st) := (X3.cell 14).trans (by rw [HC.out]; rfl)
  have q15 : v3.cell? ⟨w.heap.size, 15, none⟩ = some (.int .u64 x.mo.bl.hd.re) := (X3.cell 15).trans (by rw [HC.out]; rfl)
  have q16 : v3.cell? ⟨w.heap.size, 16, none⟩ = some (.int .u64 x.mo.bl.hd.be) := (X3.cell 16).trans (by rw [HC.out]; rfl)
  have q17 : v3.cell? ⟨w.heap.size, 17, none⟩ = some (.int .i64 x.mo.bl.hd.pr) := (X3.cell 17).trans (by rw [HC.out]; rfl)
  have q18 : v3.cell? ⟨w.heap.size, 18, none⟩ = some (.slice x.mo.bl.tx.la x.mo.bl.tx.xs.length x.mo.bl.tx.lc) := (X3.cell 18).trans (by rw [HC.out]; rfl)
  have q19 : v3.cell? ⟨w.heap.size, 19, none⟩ = some (.slice x.mo.bl.gu.la x.mo.bl.gu.xs.length x.mo.bl.gu.lc) := (X3.cell 19).trans (by rw [HC.out]; rfl)
  have q20 : v3.cell? ⟨w.heap.size, 20, none⟩ = some (.slice x.mo.ba.la x.mo.ba.xs.length x.mo.ba.lc) := (X3.cell 20).trans (by rw [HC.out]; rfl)
  go_upto_region 5 with fail
  go_cut [] (fun wx => RefL wx b m1 (o2 || !x.mo.no) ∧ Kp base b v3 wx)
  case first =>
   by_cases h1 : x.mo.ro = 0
   rotate_left
   ·have h1b : (x.mo.ro != 0) = true := by simpa using h1
    have H1 : Hid (x.mo.no = false) := by show _ = _; simp [Motion.no, h1]
    clear h1
    go_wp2_with fail
    refine (roddL base b _ _ _ _ hb R3).mono ?_
    rintro e w' ⟨rfl, R', k'⟩
    go_wp2_with fail
    go_meet
    case rel => exact ⟨R'.as rfl (by rw [H1.out]; rfl), k'⟩
   have h1b : (x.mo.ro != 0) = false := by simpa using h1
   by_cases h2 : x.mo.fr = 0
   rotate_left
   ·have h2b : (x.mo.fr != 0) = true := by simpa using h2
    have H1 : Hid (x.mo.no = false) := by show _ = _; simp [Motion.no, h2]
    clear h1 h2
    go_wp2_with fail
    refine (roddL base b _ _ _ _ hb R3).mono ?_
    rintro e w' ⟨rfl, R', k'⟩
    go_wp2_with fail
    go_meet
    case rel => exact ⟨R'.as rfl (by rw [H1.out]; rfl), k'⟩
   have h2b : (x.mo.fr != 0) = false := by simpa using h2
   by_cases h3 : 0 < x.mo.ba.xs.length
   ·have h3b : (0 : Int) < (x.mo.ba.xs.length : Int) := by omega
    have h3d : decide ((0 : Int) < (x.mo.ba.xs.length : Int)) = true := by simpa using h3b
    have h3n : decide (0 < x.mo.ba.xs.length) = true := by simpa using h3
    have H1 : Hid (x.mo.no = false) := by
     show _ = _
     have : ¬ (x.mo.ba.xs.length : Int) = 0 := by omega
     simp only [Motion.no]
     rw [show ((x.mo.ba.xs.length : Int) == 0) = false by simpa using this]
     simp
    clear h1 h2 h3
    go_wp2_with fail
    refine (roddL base b _ _ _ _ hb R3).mono ?_
    rintro e w' ⟨rfl, R', k'⟩
    go_wp2_with fail
    go_meet
    case rel => exact ⟨R'.as rfl (by rw [H1.out]; rfl), k'⟩
   have h3b : ¬ (0 : Int) < (x.mo.ba.xs.length : Int) := by omega
   have h3d : decide ((0 : Int) < (x.mo.ba.xs.length : Int)) = false := by simpa using h3b
   have h3n : decide (0 < x.mo.ba.xs.length) = false := by simpa using h3
   have H1 : Hid (x.mo.no = x.mo.bl.no) := by
    show _ = _
    have : (x.mo.ba.xs.length : Int) = 0 := by omega
    simp [Motion.no, h1, h2, this]
   clear h1 h2 h3
   have key := remptyBlock_any x.mo.bl v3
   go_wp2_with fail
   refine key.mono ?_
   rintro e wE ⟨rfl, bE⟩
   have RE := R3.below bE
   have kE : Kp base b v3 wE := Kp.of_below bE (Nat.le_trans hB0 K3.size)
   clear key
   cases hv : x.mo.bl.no
   ·have H2 : Hid ((!x.mo.no) = true) := by show _ = _; rw [H1.out, hv]; rfl
    clear hv
    go_wp2_with fail
    refine (roddL base b _ _ _ _ hb RE).mono ?_
    rintro e w' ⟨rfl, R', k'⟩
    go_wp2_with fail
    go_meet
    case rel => exact ⟨R'.as rfl (by rw [H2.out]), kE.trans k'⟩
   ·have H2 : Hid ((!x.mo.no) = false) := by show _ = _; rw [H1.out, hv]; rfl
    clear hv
    go_wp2_with fail
    refine (roddL base b _ _ _ _ hb RE).mono ?_
    rintro e w' ⟨rfl, R', k'⟩
    go_wp2_with fail
    go_meet
    case rel => exact ⟨R'.as rfl (by rw [H2.out]), kE.trans k'⟩
  case rest =>
   obtain ⟨R4, k4⟩ := hcut
   obtain ⟨o3, Ho3⟩ : ∃ o', Hid (o' = (o2 || !x.mo.no)) := ⟨_, rfl⟩
   rw [← Ho3.out] at R4
   have X4 := X3.kp k4 hXb
   have K4 := K3.trans k4
   clear q0 q7 q8 q9 q10 q11 q12 q13 q14 q15 q16 q17 q18 q19 q20
   clear k4 X3 R3
   generalize wc = v4 at *
   have q0 : v4.cell? ⟨w.heap.size, 0, none⟩ = some (.int .i64 k) := (X4.cell 0).trans (by rw [HC.out, ← Hk.out]; rfl)
   have q21 : v4.cell? ⟨w.heap.size, 21, none⟩ = some (.int .i64 x.kn.ce.h) := (X4.cell 21).trans (by rw [HC.out]; rfl)
   have q22 : v4.cell? ⟨w.heap.size, 22, none⟩ = some (.int .i64 x.kn.ce.r) := (X4.cell 22).trans (by rw [HC.out]; rfl)
   have q23 : v4.cell? ⟨w.heap.size, 23, none⟩ = some (.int .i64 x.kn.ce.s) := (X4.cell 23).trans (by rw [HC.out]; rfl)
   have q24 : v4.cell? ⟨w.heap.size, 24, none⟩ = some (.bool x.kn.ce.has) := (X4.cell 24).trans (by rw [HC.out]; rfl)
   have q25 : v4.cell? ⟨w.heap.size, 25, none⟩ = some (.int .u64 x.kn.ce.bl) := (X4.cell 25).trans (by rw [HC.out]; rfl)
   have q26 : v4.cell? ⟨w.heap.size, 26, none⟩ = some (.slice x.kn.ce.fr.la x.kn.ce.fr.xs.length x.kn.ce.fr.lc) := (X4.cell 26).trans (by rw [HC.out]; rfl)
   have q27 : v4.cell? ⟨w.heap.size, 27, none⟩ = some (.int .i64 x.kn.bl.hd.c) := (X4.cell 27).trans (by rw [HC.out]; rfl)
   have q28 : v4.cell? ⟨w.heap.size, 28, none⟩ = some (.int .i64 x.kn.bl.hd.h) := (X4.cell 28).trans (by rw [HC.out]; rfl)
   have q29 : v4.cell? ⟨w.heap.size, 29, none⟩ = some (.int .u64 x.kn.bl.hd.pa) := (X4.cell 29).trans (by rw [HC.out]; rfl)
   have q30 : v4.cell? ⟨w.heap.size, 30, none⟩ = some (.int .u64 x.kn.bl.hd.tx) := (X4.cell 30).trans (by rw [HC.out]; rfl)
   have q31 : v4.cell? ⟨w.heap.size, 31, none⟩ = some (.int .u64 x.kn.bl.hd.gu) := (X4.cell 31).trans (by rw [HC.out]; rfl)
   have q32 : v4.cell? ⟨w.heap.size, 32, none⟩ = some (.int .u64 x.kn.bl.hd.st) := (X4.cell 32).trans (by rw [HC.out]; rfl)
   have q33 : v4.cell? ⟨w.heap.size, 33, none⟩ = some (.int .u64 x.kn.bl.hd.re) := (X4.cell 33).trans (by rw [HC.out]; rfl)
   have q34 : v4.cell? ⟨w.heap.size, 34, none⟩ = some (.int .u64 x.kn.bl.hd.be) := (X4.cell 34).trans (by rw [HC.out]; rfl)
   have q35 : v4.cell? ⟨w.heap.size, 35, none⟩ = some (.int .i64 x.kn.bl.hd.pr) := (X4.cell 35).trans (by rw [HC.out]; rfl)
   have q36 : v4.cell? ⟨w.heap.size, 36, none⟩ = some (.slice x.kn.bl.tx.la x.kn.bl.tx.xs.length x.kn.bl.tx.lc) := (X4.cell 36).trans (by rw [HC.out]; rfl)
   have q37 : v4.cell? ⟨w.heap.size, 37, none⟩ = some (.slice x.kn.bl.gu.la x.kn.bl.gu.xs.length x.kn.bl.gu.lc) := (X4.cell 37).trans (by rw [HC.out]; rfl)
   go_upto_region 6 with fail
   go_cut [] (fun wx => RefL wx b m1 (o3 || !x.kn.no) ∧ Kp base b v4 wx)
   case first =>
    have key := remptyCert_any x.kn.ce v4
    go_wp2_with fail
    refine key.mono ?_
    rintro e wE ⟨rfl, bE⟩
    have RE := R4.below bE
    have kE : Kp base b v4 wE := Kp.of_below bE (Nat.le_trans hB0 K4.size)
    have XE := X4.below bE X4.lt
    clear key
    cases hv : x.kn.ce.no
    ·have H2 : Hid ((!x.kn.no) = true) := by show _ = _; simp [Known.no, hv]
     clear hv
     go_wp2_with fail
     refine (roddL base b _ _ _ _ hb RE).mono ?_
     rintro e w' ⟨rfl, R', k'⟩
     go_wp2_with fail
     go_meet
     case rel => exact ⟨R'.as rfl (by rw [H2.out]), kE.trans k'⟩
    ·have H1 : Hid (x.kn.no = x.kn.bl.no) := by show _ = _; simp [Known.no, hv]
     clear hv
     clear q21 q22 q23 q24 q25 q26 q27 q28 q29 q30 q31 q32 q33 q34 q35 q36 q37
     have q27 : wE.cell? ⟨w.heap.size, 27, none⟩ = some (.int .i64 x.kn.bl.hd.c) := (XE.cell 27).trans (by rw [HC.out]; rfl)
     have q28 : wE.cell? ⟨w.heap.size, 28, none⟩ = some (.int .i64 x.kn.bl.hd.h) := (XE.cell 28).trans (by rw [HC.out]; rfl)
     have q29 : wE.cell? ⟨w.heap.size, 29, none⟩ = some (.int .u64 x.kn.bl.hd.pa) := (XE.cell 29).trans (by rw [HC.out]; rfl)
     have q30 : wE.cell? ⟨w.heap.size, 30, none⟩ = some (.int .u64 x.kn.bl.hd.tx) := (XE.cell 30).trans (by rw [HC.out]; rfl)
     have q31 : wE.cell? ⟨w.heap.size, 31, none⟩ = some (.int .u64 x.kn.bl.hd.gu) := (XE.cell 31).trans (by rw [HC.out]; rfl)
     have q32 : wE.cell? ⟨w.heap.size, 32, none⟩ = some (.int .u64 x.kn.bl.hd.st) := (XE.cell 32).trans (by rw [HC.out]; rfl)
     have q33 : wE.cell? ⟨w.heap.size, 33, none⟩ = some (.int .u64 x.kn.bl.hd.re) := (XE.cell 33).trans (by rw [HC.out]; rfl)
     have q34 : wE.cell? ⟨w.heap.size, 34, none⟩ = some (.int .u64 x.kn.bl.hd.be) := (XE.cell 34).trans (by rw [HC.out]; rfl)
     have q35 : wE.cell? ⟨w.heap.size, 35, none⟩ = some (.int .i64 x.kn.bl.hd.pr) := (XE.cell 35).trans (by rw [HC.out]; rfl)
     have q36 : wE.cell? ⟨w.heap.size, 36, none⟩ = some (.slice x.kn.bl.tx.la x.kn.bl.tx.xs.length x.kn.bl.tx.lc) := (XE.cell 36).trans (by rw [HC.out]; rfl)
     have q37 : wE.cell? ⟨w.heap.size, 37, none⟩ = some (.slice x.kn.bl.gu.la x.kn.bl.gu.xs.length x.kn.bl.gu.lc) := (XE.cell 37).trans (by rw [HC.out]; rfl)
     have hz := XE.lt
     have key := remptyBlock_any x.kn.bl wE
     go_wp2_with fail
     refine key.mono ?_
     rintro e wF ⟨rfl, bF⟩
     have RF := RE.below bF
     have kF : Kp base b wE wF := Kp.of_below bF (Nat.le_trans (Nat.le_trans hB0 K4.size) kE.size)
     clear key
     cases hv : x.kn.bl.no
     ·have H2 : Hid ((!x.kn.no) = true) := by show _ = _; rw [H1.out, hv]; rfl
      clear hv
      go_wp2_with fail
      refine (roddL base b _ _ _ _ hb RF).mono ?_
      rintro e w' ⟨rfl, R', k'⟩
      go_wp2_with fail
      go_meet
      case rel => exact ⟨R'.as rfl (by rw [H2.out]), (kE.trans kF).trans k'⟩
     ·have H2 : Hid ((!x.kn.no) = false) := by show _ = _; rw [H1.out, hv]; rfl
      clear hv
      go_wp2_with fail
      refine (roddL base b _ _ _ _ hb RF).mono ?_
      rintro e w' ⟨rfl, R', k'⟩
      go_wp2_with fail
      go_meet
      case rel => exact ⟨R'.as rfl (by rw [H2.out]), (kE.trans kF).trans k'⟩
   case rest =>
    obtain ⟨R5, k5⟩ := hcut
    obtain ⟨o4, Ho4⟩ : ∃ o', Hid (o' = (o3 || !x.kn.no)) := ⟨_, rfl⟩
    rw [← Ho4.out] at R5
    have X5 := X4.kp k5 hXb
    have K5 := K4.trans k5
    clear q0 q21 q22 q23 q24 q25 q26 q27 q28 q29 q30 q31 q32 q33 q34 q35 q36 q37
    clear k5 X4 R4
    generalize wc = v5 at *
    have q0 : v5.cell? ⟨w.heap.size, 0, none⟩ = some (.int .i64 k) := (X5.cell 0).trans (by rw [HC.out, ← Hk.out]; rfl)
    have Rz := R5.as (show _ = l ++ x.atoms by rw [HA.out, Hl1.out, List.append_nil]) (show _ = (odd || x.odd) by rw [HO.out, Ho4.out, Ho3.out, Ho2.out, Ho1.out]; simp only [Bool.or_assoc, Bool.or_false])
    go_wp2
    go_end0
    exact ⟨rfl, Rz, K5⟩
set_option maxRecDepth 8000 in
set_option maxHeartbeats 6400000 in
theorem rrecord_wb (base b : Nat) (x : Record) (k : Int) (hxk : x.k = k) (e1 : 4 < k) (l : List Atom) (odd : Bool) (w : World) (hb : base ≤ b) (hL : wtL l + (6) ≤ 1099400000000) (R : RefL w b l odd) (g : goods base w x.flds) :
  Calls Tryz.prog 190 #[.pointer (some ⟨b, 0, none⟩), .agg x.arr] w fun e w' => e = .returned (.tuple #[]) ∧ RefL w' b (l ++ x.atoms) (odd || x.odd) ∧ Kp base b w w' := by
 obtain ⟨C, HC⟩ : ∃ C, Hid (C = x.arr) := ⟨_, rfl⟩
 rw [← HC.out]
 have hlt := R.lt
 have hB0 : base ≤ w.heap.size := Nat.le_trans hb (Nat.le_of_lt hlt)
 have bA : Below w.heap.size w (w.alloc (.cells C 158)) := (Below.refl _ _).alloc (Nat.le_refl _) _
 have X0 := Blk.new w C 158
 have K0 : Kp base b w (w.alloc (.cells C 158)) := Kp.of_below bA hB0
 have R0 := R.below bA
 have hXb : w.heap.size ≠ b := by omega
 have gk := (show Fld.good base w (.i x.k) from g.get 0 rfl)
 rw [hxk] at gk
 have gk1 : -9223372036854775808 ≤ k := gk.1
 have gk2 : k ≤ 9223372036854775807 := gk.2
 clear gk R
 have Hk := show Hid (_ = _) from hxk
 clear hxk
 have HA : Hid (x.atoms = intA k ++ []) := by show _ = _; simp [Record.atoms, Record.tail, Hk.out, show ¬ k = 1 by omega, show ¬ k = 2 by omega, show ¬ k = 3 by omega, show ¬ k = 4 by omega]
 have HO : Hid (x.odd = (true || !x.vo.no || !x.mo.no || !x.kn.no || false)) := by
  show _ = _
  simp only [Record.odd, Hk.out]; rw [show (decide (k < 1) || decide (4 < k)) = true by simp; omega]; simp
 have f1 : ¬ k = 1 := by omega
 have f1b : (k == 1) = false := by simp [f1]
 have f1n : (k != 1) = true := by simp [bne, f1b]
 have f2 : ¬ k = 2 := by omega
 have f2b : (k == 2) = false := by simp [f2]
 have f2n : (k != 2) = true := by simp [bne, f2b]
 have f3 : ¬ k = 3 := by omega
 have f3b : (k == 3) = false := by simp [f3]
 have f3n : (k != 3) = true := by simp [bne, f3b]
 have f4 : ¬ k = 4 := by omega
 have f4b : (k == 4) = false := by simp [f4]
 have f4n : (k != 4) = true := by simp [bne, f4b]
 go_enter Tryz.func190, Tryz.ntmps190
 have q0 : (w.alloc (.cells C 158)).cell? ⟨w.heap.size, 0, none⟩ = some (.int .i64 k) := (X0.cell 0).trans (by rw [HC.out, ← Hk.out]; rfl)
 go_wp2_with fail
 refine (rnumL base b k l odd _ hb ⟨by omega, by omega⟩ (by omega) R0).mono ?_
 rintro e w1 ⟨rfl, R1, k1⟩
 obtain ⟨m1, Hl1⟩ : ∃ l', Hid (l' = l ++ intA k) := ⟨_, rfl⟩
 rw [← Hl1.out] at R1
 have HL1 : Hid (wtL m1 = wtL l + 6) := by
  show _ = _
  rw [Hl1.out, wtL_append] <;> rfl
 have X1 := X0.kp k1 hXb
 have K1 := K0.trans k1
 clear q0 k1 X0 R0
 have q0 : w1.cell? ⟨w.heap.size, 0, none⟩ = some (.int .i64 k) := (X1.cell 0).trans (by rw [HC.out, ← Hk.out]; rfl)
 go_wp2_with fail
 refine (roddL base b _ _ _ _ hb R1).mono ?_
 rintro e w2 ⟨rfl, R2, k2⟩
 have R2 := R2.as rfl (show _ = (odd || true) by simp)
 obtain ⟨o1, Ho1⟩ : ∃ o', Hid (o' = (odd || true)) := ⟨_, rfl⟩
 rw [← Ho1.out] at R2
 have X2 := X1.kp k2 hXb
 have K2 := K1.trans k2
 clear q0 k2 X1 R1
 have q0 : w2.cell? ⟨w.heap.size, 0, none⟩ = some (.int .i64 k) := (X2.cell 0).trans (by rw [HC.out, ← Hk.out]; rfl)
 have q1 : w2.cell? ⟨w.heap.size, 1, none⟩ = some (.int .i64 x.vo.h) := (X2.cell 1).trans (by rw [HC.out]; rfl)
 have q2 : w2.cell? ⟨w.heap.size, 2, none⟩ = some (.int .i64 x.vo.r) := (X2.cell 2).trans (by rw [HC.out]; rfl)
 have q3 : w2.cell? ⟨w.heap.size, 3, none⟩ = some (.int .i64 x.vo.s) := (X2.cell 3).trans (by rw [HC.out]; rfl)
 have q4 : w2.cell? ⟨w.heap.size, 4, none⟩ = some (.bool x.vo.has) := (X2.cell 4).trans (by rw [HC.out]; rfl)
 have q5 : w2.cell? ⟨w.heap.size, 5, none⟩ = some (.int .u64 x.vo.bl) := (X2.cell 5).trans (by rw [HC.out]; rfl)
 have q6 : w2.cell? ⟨w.heap.size, 6, none⟩ = some (.int .i64 x.vo.f) := (X2.cell 6).trans (by rw [HC.out]; rfl)
 go_upto_region 4 with fail
 go_cut [] (fun wx => RefL wx b m1 (o1 || !x.vo.no) ∧ Kp base b w2 wx)
 case first =>
  go_wp2_with fail
  all_goals (
   refine (roddL base b _ _ _ _ hb R2).mono ?_
   rintro e w' ⟨rfl, R', k'⟩
   go_wp2_with fail
   go_meet
   case rel => exact ⟨R'.as rfl (by simp [Vote.no, *]), k'⟩)
 case rest =>
  obtain ⟨R3, k3⟩ := hcut
  obtain ⟨o2, Ho2⟩ : ∃ o', Hid (o' = (o1 || !x.vo.no)) := ⟨_, rfl⟩
  rw [← Ho2.out] at R3
  have X3 := X2.kp k3 hXb
  have K3 := K2.trans k3
  clear q0 q1 q2 q3 q4 q5 q6
  clear k3 X2 R2
  generalize wc = v3 at *
  have q0 : v3.cell? ⟨w.heap.size, 0, none⟩ = some (.int .i64 k) := (X3.cell 0).trans (by rw [HC.out, ← Hk.out]; rfl)
  have q7 : v3.cell? ⟨w.heap.size, 7, none⟩ = some (.int .i64 x.mo.ro) := (X3.cell 7).trans (by rw [HC.out]; rfl)
  have q8 : v3.cell? ⟨w.heap.size, 8, none⟩ = some (.int .i64 x.mo.fr) := (X3.cell 8).trans (by rw [HC.out]; rfl)
  have q9 : v3.cell? ⟨w.heap.size, 9, none⟩ = some (.int .i64 x.mo.bl.hd.c) := (X3.cell 9).trans (by rw [HC.out]; rfl)
  have q10 : v3.cell? ⟨w.heap.size, 10, none⟩ = some (.int .i64 x.mo.bl.hd.h) := (X3.cell 10).trans (by rw [HC.out]; rfl)
  have q11 : v3.cell? ⟨w.heap.size, 11, none⟩ = some (.int .u64 x.mo.bl.hd.pa) := (X3.cell 11).trans (by rw [HC.out]; rfl)
  have q12 : v3.cell? ⟨w.heap.size, 12, none⟩ = some (.int .u64 x.mo.bl.hd.tx) := (X3.cell 12).trans (by rw [HC.out]; rfl)
  have q13 : v3.cell? ⟨w.heap.size, 13, none⟩ = some (.int .u64 x.mo.bl.hd.gu) := (X3.cell 13).trans (by rw [HC.out]; rfl)
  have q14 : v3.cell? ⟨w.heap.size, 14, none⟩ = some (.int .u64 x.mo.bl.hd.st) := (X3.cell 14).trans (by rw [HC.out]; rfl)
  have q15 : v3.cell? ⟨w.heap.size, 15, none⟩ = some (.int .u64 x.mo.bl.hd.re) := (X3.cell 15).trans (by rw [HC.out]; rfl)
  have q16 : v3.cell? ⟨w.heap.size, 16, none⟩ = some (.int .u64 x.mo.bl.hd.be) := (X3.cell 16).trans (by rw [HC.out]; rfl)
  have q17 : v3.cell? ⟨w.heap.size, 17, none⟩ = some (.int .i64 x.mo.bl.hd.pr) := (X3.cell 17).trans (by rw [HC.out]; rfl)
  have q18 : v3.cell? ⟨w.heap.size, 18, none⟩ = some (.slice x.mo.bl.tx.la x.mo.bl.tx.xs.length x.mo.bl.tx.lc) := (X3.cell 18).trans (by rw [HC.out]; rfl)
  have q19 : v3.cell? ⟨w.heap.size, 19, none⟩ = some (.slice x.mo.bl.gu.la x.mo.bl.gu.xs.length x.mo.bl.gu.lc) := (X3.cell 19).trans (by rw [HC.out]; rfl)
  have q20 : v3.cell? ⟨w.heap.size, 20, none⟩ = some (.slice x.mo.ba.la x.mo.ba.xs.length x.mo.ba.lc) := (X3.cell 20).trans (by rw [HC.out]; rfl)
  go_upto_region 5 with fail
  go_cut [] (fun wx => RefL wx b m1 (o2 || !x.mo.no) ∧ Kp base b v3 wx)
  case first =>
   by_cases h1 : x.mo.ro = 0
   rotate_left
   ·have h1b : (x.mo.ro != 0) = true := by simpa using h1
    have H1 : Hid (x.mo.no = false) := by show _ = _; simp [Motion.no, h1]
    clear h1
    go_wp2_with fail
    refine (roddL base b _ _ _ _ hb R3).mono ?_
    rintro e w' ⟨rfl, R', k'⟩
    go_wp2_with fail
    go_meet
    case rel => exact ⟨R'.as rfl (by rw [H1.out]; rfl), k'⟩
   have h1b : (x.mo.ro != 0) = false := by simpa using h1
   by_cases h2 : x.mo.fr = 0
   rotate_left
   ·have h2b : (x.mo.fr != 0) = true := by simpa using h2
    have H1 : Hid (x.mo.no = false) := by show _ = _; simp [Motion.no, h2]
    clear h1 h2
    go_wp2_with fail
    refine (roddL base b _ _ _ _ hb R3).mono ?_
    rintro e w' ⟨rfl, R', k'⟩
    go_wp2_with fail
    go_meet
    case rel => exact ⟨R'.as rfl (by rw [H1.out]; rfl), k'⟩
   have h2b : (x.mo.fr != 0) = false := by simpa using h2
   by_cases h3 : 0 < x.mo.ba.xs.length
   ·have h3b : (0 : Int) < (x.mo.ba.xs.length : Int) := by omega
    have h3d : decide ((0 : Int) < (x.mo.ba.xs.length : Int)) = true := by simpa using h3b
    have h3n : decide (0 < x.mo.ba.xs.length) = true := by simpa using h3
    have H1 : Hid (x.mo.no = false) := by
     show _ = _
     have : ¬ (x.mo.ba.xs.length : Int) = 0 := by omega
     simp only [Motion.no]
     rw [show ((x.mo.ba.xs.length : Int) == 0) = false by simpa using this]
     simp
    clear h1 h2 h3
    go_wp2_with fail
    refine (roddL base b _ _ _ _ hb R3).mono ?_
    rintro e w' ⟨rfl, R', k'⟩
    go_wp2_with fail
    go_meet
    case rel => exact ⟨R'.as rfl (by rw [H1.out]; rfl), k'⟩
   have h3b : ¬ (0 : Int) < (x.mo.ba.xs.length : Int) := by omega
   have h3d : decide ((0 : Int) < (x.mo.ba.xs.length : Int)) = false := by simpa using h3b
   have h3n : decide (0 < x.mo.ba.xs.length) = false := by simpa using h3
   have H1 : Hid (x.mo.no = x.mo.bl.no) := by
    show _ = _
    have : (x.mo.ba.xs.length : Int) = 0 := by omega
    simp [Motion.no, h1, h2, this]
   clear h1 h2 h3
   have key := remptyBlock_any x.mo.bl v3
   go_wp2_with fail
   refine key.mono ?_
   rintro e wE ⟨rfl, bE⟩
   have RE := R3.below bE
   have kE : Kp base b v3 wE := Kp.of_below bE (Nat.le_trans hB0 K3.size)
   clear key
   cases hv : x.mo.bl.no
   ·have H2 : Hid ((!x.mo.no) = true) := by show _ = _; rw [H1.out, hv]; rfl
    clear hv
    go_wp2_with fail
    refine (roddL base b _ _ _ _ hb RE).mono ?_
    rintro e w' ⟨rfl, R', k'⟩
    go_wp2_with fail
    go_meet
    case rel => exact ⟨R'.as rfl (by rw [H2.out]), kE.trans k'⟩
   ·have H2 : Hid ((!x.mo.no) = false) := by show _ = _; rw [H1.out, hv]; rfl
    clear hv
    go_wp2_with fail
    refine (roddL base b _ _ _ _ hb RE).mono ?_
    rintro e w' ⟨rfl, R', k'⟩
    go_wp2_with fail
    go_meet
    case rel => exact ⟨R'.as rfl (by rw [H2.out]), kE.trans k'⟩
  case rest =>
   obtain ⟨R4, k4⟩ := hcut
   obtain ⟨o3, Ho3⟩ : ∃ o', Hid (o' = (o2 || !x.mo.no)) := ⟨_, rfl⟩
   rw [← Ho3.out] at R4
   have X4 := X3.kp k4 hXb
   have K4 := K3.trans k4
   clear q0 q7 q8 q9 q10 q11 q12 q13 q14 q15 q16 q17 q18 q19 q20
   clear k4 X3 R3
   generalize wc = v4 at *
   have q0 : v4.cell? ⟨w.heap.size, 0, none⟩ = some (.int .i64 k) := (X4.cell 0).trans (by rw [HC.out, ← Hk.out]; rfl)
   have q21 : v4.cell? ⟨w.heap.size, 21, none⟩ = some (.int .i64 x.kn.ce.h) := (X4.cell 21).trans (by rw [HC.out]; rfl)
   have q22 : v4.cell? ⟨w.heap.size, 22, none⟩ = some (.int .i64 x.kn.ce.r) := (X4.cell 22).trans (by rw [HC.out]; rfl)
   have q23 : v4.cell? ⟨w.heap.size, 23, none⟩ = some (.int .i64 x.kn.ce.s) := (X4.cell 23).trans (by rw [HC.out]; rfl)
   have q24 : v4.cell? ⟨w.heap.size, 24, none⟩ = some (.bool x.kn.ce.has) := (X4.cell 24).trans (by rw [HC.out]; rfl)
   have q25 : v4.cell? ⟨w.heap.size, 25, none⟩ = some (.int .u64 x.kn.ce.bl) := (X4.cell 25).trans (by rw [HC.out]; rfl)
   have q26 : v4.cell? ⟨w.heap.size, 26, none⟩ = some (.slice x.kn.ce.fr.la x.kn.ce.fr.xs.length x.kn.ce.fr.lc) := (X4.cell 26).trans (by rw [HC.out]; rfl)
   have q27 : v4.cell? ⟨w.heap.size, 27, none⟩ = some (.int .i64 x.kn.bl.hd.c) := (X4.cell 27).trans (by rw [HC.out]; rfl)
   have q28 : v4.cell? ⟨w.heap.size, 28, none⟩ = some (.int .i64 x.kn.bl.hd.h) := (X4.cell 28).trans (by rw [HC.out]; rfl)
   have q29 : v4.cell? ⟨w.heap.size, 29, none⟩ = some (.int .u64 x.kn.bl.hd.pa) := (X4.cell 29).trans (by rw [HC.out]; rfl)
   have q30 : v4.cell? ⟨w.heap.size, 30, none⟩ = some (.int .u64 x.kn.bl.hd.tx) := (X4.cell 30).trans (by rw [HC.out]; rfl)
   have q31 : v4.cell? ⟨w.heap.size, 31, none⟩ = some (.int .u64 x.kn.bl.hd.gu) := (X4.cell 31).trans (by rw [HC.out]; rfl)
   have q32 : v4.cell? ⟨w.heap.size, 32, none⟩ = some (.int .u64 x.kn.bl.hd.st) := (X4.cell 32).trans (by rw [HC.out]; rfl)
   have q33 : v4.cell? ⟨w.heap.size, 33, none⟩ = some (.int .u64 x.kn.bl.hd.re) := (X4.cell 33).trans (by rw [HC.out]; rfl)
   have q34 : v4.cell? ⟨w.heap.size, 34, none⟩ = some (.int .u64 x.kn.bl.hd.be) := (X4.cell 34).trans (by rw [HC.out]; rfl)
   have q35 : v4.cell? ⟨w.heap.size, 35, none⟩ = some (.int .i64 x.kn.bl.hd.pr) := (X4.cell 35).trans (by rw [HC.out]; rfl)
   have q36 : v4.cell? ⟨w.heap.size, 36, none⟩ = some (.slice x.kn.bl.tx.la x.kn.bl.tx.xs.length x.kn.bl.tx.lc) := (X4.cell 36).trans (by rw [HC.out]; rfl)
   have q37 : v4.cell? ⟨w.heap.size, 37, none⟩ = some (.slice x.kn.bl.gu.la x.kn.bl.gu.xs.length x.kn.bl.gu.lc) := (X4.cell 37).trans (by rw [HC.out]; rfl)
   go_upto_region 6 with fail
   go_cut [] (fun wx => RefL wx b m1 (o3 || !x.kn.no) ∧ Kp base b v4 wx)
   case first =>
    have key := remptyCert_any x.kn.ce v4
    go_wp2_with fail
    refine key.mono ?_
    rintro e wE ⟨rfl, bE⟩
    have RE := R4.below bE
    have kE : Kp base b v4 wE := Kp.of_below bE (Nat.le_trans hB0 K4.size)
    have XE := X4.below bE X4.lt
    clear key
    cases hv : x.kn.ce.no
    ·have H2 : Hid ((!x.kn.no) = true) := by show _ = _; simp [Known.no, hv]
     clear hv
     go_wp2_with fail
     refine (roddL base b _ _ _ _ hb RE).mono ?_
     rintro e w' ⟨rfl, R', k'⟩
     go_wp2_with fail
     go_meet
     case rel => exact ⟨R'.as rfl (by rw [H2.out]), kE.trans k'⟩
    ·have H1 : Hid (x.kn.no = x.kn.bl.no) := by show _ = _; simp [Known.no, hv]
     clear hv
     clear q21 q22 q23 q24 q25 q26 q27 q28 q29 q30 q31 q32 q33 q34 q35 q36 q37
     have q27 : wE.cell? ⟨w.heap.size, 27, none⟩ = some (.int .i64 x.kn.bl.hd.c) := (XE.cell 27).trans (by rw [HC.out]; rfl)
     have q28 : wE.cell? ⟨w.heap.size, 28, none⟩ = some (.int .i64 x.kn.bl.hd.h) := (XE.cell 28).trans (by rw [HC.out]; rfl)
     have q29 : wE.cell? ⟨w.heap.size, 29, none⟩ = some (.int .u64 x.kn.bl.hd.pa) := (XE.cell 29).trans (by rw [HC.out]; rfl)
     have q30 : wE.cell? ⟨w.heap.size, 30, none⟩ = some (.int .u64 x.kn.bl.hd.tx) := (XE.cell 30).trans (by rw [HC.out]; rfl)
     have q31 : wE.cell? ⟨w.heap.size, 31, none⟩ = some (.int .u64 x.kn.bl.hd.gu) := (XE.cell 31).trans (by rw [HC.out]; rfl)
     have q32 : wE.cell? ⟨w.heap.size, 32, none⟩ = some (.int .u64 x.kn.bl.hd.st) := (XE.cell 32).trans (by rw [HC.out]; rfl)
     have q33 : wE.cell? ⟨w.heap.size, 33, none⟩ = some (.int .u64 x.kn.bl.hd.re) := (XE.cell 33).trans (by rw [HC.out]; rfl)
     have q34 : wE.cell? ⟨w.heap.size, 34, none⟩ = some (.int .u64 x.kn.bl.hd.be) := (XE.cell 34).trans (by rw [HC.out]; rfl)
     have q35 : wE.cell? ⟨w.heap.size, 35, none⟩ = some (.int .i64 x.kn.bl.hd.pr) := (XE.cell 35).trans (by rw [HC.out]; rfl)
     have q36 : wE.cell? ⟨w.heap.size, 36, none⟩ = some (.slice x.kn.bl.tx.la x.kn.bl.tx.xs.length x.kn.bl.tx.lc) := (XE.cell 36).trans (by rw [HC.out]; rfl)
     have q37 : wE.cell? ⟨w.heap.size, 37, none⟩ = some (.slice x.kn.bl.gu.la x.kn.bl.gu.xs.length x.kn.bl.gu.lc) := (XE.cell 37).trans (by rw [HC.out]; rfl)
     have hz := XE.lt
     have key := remptyBlock_any x.kn.bl wE
     go_wp2_with fail
     refine key.mono ?_
     rintro e wF ⟨rfl, bF⟩
     have RF := RE.below bF
     have kF : Kp base b wE wF := Kp.of_below bF (Nat.le_trans (Nat.le_trans hB0 K4.size) kE.size)
     clear key
     cases hv : x.kn.bl.no
     ·have H2 : Hid ((!x.kn.no) = true) := by show _ = _; rw [H1.out, hv]; rfl
      clear hv
      go_wp2_with fail
      refine (roddL base b _ _ _ _ hb RF).mono ?_
      rintro e w' ⟨rfl, R', k'⟩
      go_wp2_with fail
      go_meet
      case rel => exact ⟨R'.as rfl (by rw [H2.out]), (kE.trans kF).trans k'⟩
     ·have H2 : Hid ((!x.kn.no) = false) := by show _ = _; rw [H1.out, hv]; rfl
      clear hv
      go_wp2_with fail
      refine (roddL base b _ _ _ _ hb RF).mono ?_
      rintro e w' ⟨rfl, R', k'⟩
      go_wp2_with fail
      go_meet
      case rel => exact ⟨R'.as rfl (by rw [H2.out]), (kE.trans kF).trans k'⟩
   case rest =>
    obtain ⟨R5, k5⟩ := hcut
    obtain ⟨o4, Ho4⟩ : ∃ o', Hid (o' = (o3 || !x.kn.no)) := ⟨_, rfl⟩
    rw [← Ho4.out] at R5
    have X5 := X4.kp k5 hXb
    have K5 := K4.trans k5
    clear q0 q21 q22 q23 q24 q25 q26 q27 q28 q29 q30 q31 q32 q33 q34 q35 q36 q37
    clear k5 X4 R4
    generalize wc = v5 at *
    have q0 : v5.cell? ⟨w.heap.size, 0, none⟩ = some (.int .i64 k) := (X5.cell 0).trans (by rw [HC.out, ← Hk.out]; rfl)
    have Rz := R5.as (show _ = l ++ x.atoms by rw [HA.out, Hl1.out, List.append_nil]) (show _ = (odd || x.odd) by rw [HO.out, Ho4.out, Ho3.out, Ho2.out, Ho1.out]; simp only [Bool.or_assoc, Bool.or_false])
    go_wp2
    go_end0
    exact ⟨rfl, Rz, K5⟩
end Go.Proofs.YtackcbpabjhmpaaGreat
