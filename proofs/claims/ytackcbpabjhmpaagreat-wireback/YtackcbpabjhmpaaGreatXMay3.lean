import Derived.Test.YtackcbpabjhmpaaGreatM10
import Derived.Deep.RegionHeld3
namespace Go.Proofs.YtackcbpabjhmpaaGreat
open Go.RowKit
set_option linter.unusedVariables false
set_option linter.unusedSimpArgs false
set_option maxHeartbeats 1600000 in
theorem allSight_anyX (base : Nat) (l : Lst Sight) (hn : ∀ y ∈ l.xs, y.se.xs.length ≤ 140737488351232) (w : World) (hb0 : base ≤ w.heap.size) (hh : l.Held Sight.flds 16 base w) :
  Calls Tryz.prog 164 #[.slice l.la l.xs.length l.lc, .func (.func 165) #[] #[]] w fun e w' => e = .returned (.bool (l.xs.all Sight.may)) ∧ Below w.heap.size w w' := by
 obtain ⟨la, lc, xs⟩ := l
 obtain ⟨hc, hcm, _⟩ := id hh
 simp only at hc hcm hn ⊢
 unfold maxLen at hcm
 go_enter Tryz.func164, Tryz.ntmps164
 go_wp2
 go_loopw [6, 9] (fun _ iv wv => ∃ (k : Nat), k ≤ xs.length ∧ iv = .int .i64 k ∧ Hid (xs.all Sight.may = (xs.drop k).all Sight.may) ∧ Below w.heap.size w wv) (fun _ iv _ => xs.length - (intOf iv).toNat)
 case atStart => exact ⟨0, Nat.zero_le _, rfl, rfl, Below.refl _ _⟩
 case round =>
  obtain ⟨k, hk, rfl, HR, hb⟩ := hrel
  by_cases hlt : k < xs.length
  ·have hlt' : (k : Int) < (xs.length : Int) := by omega
   obtain ⟨_, _, h0 | ⟨rb, ro, e0, rl, rz, rc⟩⟩ := hh.below (hb.mono hb0)
   ·simp only at h0; subst h0; simp at hlt
   simp only at e0 rc
   subst e0
   have rk := rc k (xs[k]'hlt) (List.getElem?_eq_getElem hlt)
   have HS : Hid ((xs.drop k).all Sight.may = (Sight.may (xs[k]'hlt) && (xs.drop (k + 1)).all Sight.may)) := by
    show _ = _
    rw [List.drop_eq_getElem_cons hlt]; rfl
   obtain ⟨y, Hy⟩ : ∃ y : Sight, Hid (y = xs[k]'hlt) := ⟨xs[k]'hlt, rfl⟩
   rw [← Hy.out] at rk HS
   have e1 := rk.get0 rfl
   have e2 := rk.get 1 rfl
   have e3 := rk.get 2 rfl
   have e4 := rk.get 3 rfl
   have e5 := rk.get 4 rfl
   have e6 := rk.get 5 rfl
   have e7 := rk.get 6 rfl
   have e8 := rk.get 7 rfl
   have e9 := rk.get 8 rfl
   have e10 := rk.get 9 rfl
   have e11 := rk.get 10 rfl
   have e12 := rk.get 11 rfl
   have e13 := rk.get 12 rfl
   have e14 := rk.get 13 rfl
   have e15 := rk.get 14 rfl
   have e16 := rk.get 15 rfl
   simp only [Fld.val, Lst.fld, List.length_map] at e1 e2 e3 e4 e5 e6 e7 e8 e9 e10 e11 e12 e13 e14 e15 e16
   have hb1 := (hb.alloc hb.size (.cells #[.int .i64 y.hd.c, .int .i64 y.hd.h, .int .u64 y.hd.pa, .int .u64 y.hd.tx, .int .u64 y.hd.gu, .int .u64 y.hd.st, .int .u64 y.hd.re, .int .u64 y.hd.be, .int .i64 y.hd.pr, .int .i64 y.ce.h, .int .i64 y.ce.r, .int .i64 y.ce.s, .bool y.ce.has, .int .u64 y.ce.bl, .slice y.ce.fr.la y.ce.fr.xs.length y.ce.fr.lc, .slice y.se.la y.se.xs.length y.se.lc] 233))
   have gd := (rk.goods.below (hb1' hb hb0 (.cells #[.int .i64 y.hd.c, .int .i64 y.hd.h, .int .u64 y.hd.pa, .int .u64 y.hd.tx, .int .u64 y.hd.gu, .int .u64 y.hd.st, .int .u64 y.hd.re, .int .u64 y.hd.be, .int .i64 y.hd.pr, .int .i64 y.ce.h, .int .i64 y.ce.r, .int .i64 y.ce.s, .bool y.ce.has, .int .u64 y.ce.bl, .slice y.ce.fr.la y.ce.fr.xs.length y.ce.fr.lc, .slice y.se.la y.se.xs.length y.se.lc] 233))).mono (Nat.le_trans hb0 hb1.size)
   clear rc rk
   go_wp2_with fail
   refine (maySight_anyX y _ gd (hn y (by rw [Hy.out]; exact List.getElem_mem hlt))).mono ?_
   rintro e w1 ⟨rfl, b1⟩
   have hb2 := hb1.trans (b1.mono hb1.size)
   cases hm : Sight.may y
   ·have Hf : Hid (xs.all Sight.may = false) := by
     show _ = _
     rw [HR.out, HS.out, hm]; rfl
    clear HR HS hm
    go_wp2
    go_ret
    exact ⟨by rw [Hf.out]; rfl, hb2⟩
   ·have Hf : Hid (xs.all Sight.may = (xs.drop (k + 1)).all Sight.may) := by
     show _ = _
     rw [HR.out, HS.out, hm]; rfl
    clear HR HS hm
    go_wp2
    exact ⟨⟨k + 1, by omega, by go_num, Hf, hb2⟩, by simp [intOf]; omega⟩
  ·have Hf : Hid (xs.all Sight.may = true) := by
    show _ = _
    rw [HR.out, List.drop_of_length_le (by omega)]; rfl
   have hge : ¬ (k : Int) < (xs.length : Int) := by omega
   clear HR
   go_wp2
   go_ret
   exact ⟨by rw [Hf.out]; rfl, hb⟩
set_option maxHeartbeats 1600000 in
theorem allProof_anyX (base : Nat) (l : Lst Proof) (w : World) (hb0 : base ≤ w.heap.size) (hh : l.Held Proof.flds 4 base w) :
  Calls Tryz.prog 166 #[.slice l.la l.xs.length l.lc, .func (.func 74) #[] #[]] w fun e w' => e = .returned (.bool (l.xs.all Proof.may)) ∧ Below w.heap.size w w' := by
 obtain ⟨la, lc, xs⟩ := l
 obtain ⟨hc, hcm, _⟩ := id hh
 simp only at hc hcm ⊢
 unfold maxLen at hcm
 go_enter Tryz.func166, Tryz.ntmps166
 go_wp2
 go_loopw [6, 9] (fun _ iv wv => ∃ (k : Nat), k ≤ xs.length ∧ iv = .int .i64 k ∧ Hid (xs.all Proof.may = (xs.drop k).all Proof.may) ∧ Below w.heap.size w wv) (fun _ iv _ => xs.length - (intOf iv).toNat)
 case atStart => exact ⟨0, Nat.zero_le _, rfl, rfl, Below.refl _ _⟩
 case round =>
  obtain ⟨k, hk, rfl, HR, hb⟩ := hrel
  by_cases hlt : k < xs.length
  ·have hlt' : (k : Int) < (xs.length : Int) := by omega
   obtain ⟨_, _, h0 | ⟨rb, ro, e0, rl, rz, rc⟩⟩ := hh.below (hb.mono hb0)
   ·simp only at h0; subst h0; simp at hlt
   simp only at e0 rc
   subst e0
   have rk := rc k (xs[k]'hlt) (List.getElem?_eq_getElem hlt)
   have HS : Hid ((xs.drop k).all Proof.may = (Proof.may (xs[k]'hlt) && (xs.drop (k + 1)).all Proof.may)) := by
    show _ = _
    rw [List.drop_eq_getElem_cons hlt]; rfl
   obtain ⟨y, Hy⟩ : ∃ y : Proof, Hid (y = xs[k]'hlt) := ⟨xs[k]'hlt, rfl⟩
   rw [← Hy.out] at rk HS
   have e1 := rk.get0 rfl
   have e2 := rk.get 1 rfl
   have e3 := rk.get 2 rfl
   have e4 := rk.get 3 rfl
   simp only [Fld.val, Lst.fld, List.length_map] at e1 e2 e3 e4
   have hb1 := (hb.alloc hb.size (.cells #[.slice y.tu.la y.tu.xs.length y.tu.lc, .bool y.leaf, .string ⟨y.key.toArray⟩, .string ⟨y.val.toArray⟩] 57))
   have gd := (rk.goods.below (hb1' hb hb0 (.cells #[.slice y.tu.la y.tu.xs.length y.tu.lc, .bool y.leaf, .string ⟨y.key.toArray⟩, .string ⟨y.val.toArray⟩] 57))).mono (Nat.le_trans hb0 hb1.size)
   clear rc rk
   go_wp2_with fail
   refine (mayProof_anyX y _ gd).mono ?_
   rintro e w1 ⟨rfl, b1⟩
   have hb2 := hb1.trans (b1.mono hb1.size)
   cases hm : Proof.may y
   ·have Hf : Hid (xs.all Proof.may = false) := by
     show _ = _
     rw [HR.out, HS.out, hm]; rfl
    clear HR HS hm
    go_wp2
    go_ret
    exact ⟨by rw [Hf.out]; rfl, hb2⟩
   ·have Hf : Hid (xs.all Proof.may = (xs.drop (k + 1)).all Proof.may) := by
     show _ = _
     rw [HR.out, HS.out, hm]; rfl
    clear HR HS hm
    go_wp2
    exact ⟨⟨k + 1, by omega, by go_num, Hf, hb2⟩, by simp [intOf]; omega⟩
  ·have Hf : Hid (xs.all Proof.may = true) := by
    show _ = _
    rw [HR.out, List.drop_of_length_le (by omega)]; rfl
   have hge : ¬ (k : Int) < (xs.length : Int) := by omega
   clear HR
   go_wp2
   go_ret
   exact ⟨by rw [Hf.out]; rfl, hb⟩
def Tx.bad1 (x : Tx) : Bool := decide (x.k < 1) || decide (10 < x.k) || decide (x.f < 1)
def Tx.bad2 (x : Tx) : Bool := (isTo x.k != decide (1 ≤ x.to)) || (!isAm x.k && decide (x.am ≠ 0))
def Tx.bad3 (x : Tx) : Bool := (!isTx x.k && decide (x.te ≠ [])) || (!decide (x.k = 3) && decide (0 < x.ar.xs.length))
def Tx.bad4 (x : Tx) : Bool := decide (nSi x.k ≠ (x.si.xs.length : Int)) || decide (nPr x.k ≠ (x.pr.xs.length : Int))
def Tx.may (x : Tx) : Bool := !x.bad1 && !x.bad2 && !x.bad3 && !x.bad4 && (x.si.xs.all Sight.may && x.pr.xs.all Proof.may)
set_option maxRecDepth 4000 in
set_option maxHeartbeats 6400000 in
theorem mayTx_anyX (x : Tx) (w : World) (g : goods w.heap.size w x.flds) (hn : ∀ y ∈ x.si.xs, y.se.xs.length ≤ 140737488351232) : Calls Tryz.prog 80 #[.agg #[.int .i64 x.k, .int .i64 x.f, .int .i64 x.n, .int .i64 x.p, .int .i64 x.li, .int .i64 x.to, .int .i64 x.am, .string ⟨x.te.toArray⟩, .slice x.ar.la x.ar.xs.length x.ar.lc, .slice x.si.la x.si.xs.length x.si.lc, .slice x.pr.la x.pr.xs.length x.pr.lc]] w fun e w' => e = .returned (.bool x.may) ∧ Below w.heap.size w w' := by
 have bA : Below w.heap.size w (w.alloc (.cells #[.int .i64 x.k, .int .i64 x.f, .int .i64 x.n, .int .i64 x.p, .int .i64 x.li, .int .i64 x.to, .int .i64 x.am, .string ⟨x.te.toArray⟩, .slice x.ar.la x.ar.xs.length x.ar.lc, .slice x.si.la x.si.xs.length x.si.lc, .slice x.pr.la x.pr.xs.length x.pr.lc] 64)) := (Below.refl _ _).alloc (Nat.le_refl _) _
 have kX := Blk.new w #[.int .i64 x.k, .int .i64 x.f, .int .i64 x.n, .int .i64 x.p, .int .i64 x.li, .int .i64 x.to, .int .i64 x.am, .string ⟨x.te.toArray⟩, .slice x.ar.la x.ar.xs.length x.ar.lc, .slice x.si.la x.si.xs.length x.si.lc, .slice x.pr.la x.pr.xs.length x.pr.lc] 64
 have h8 := Lst.held (flds := intF) (l := x.ar) intF_len (g.get 8 rfl)
 have h9 := Lst.held (flds := Sight.flds) (l := x.si) Sight.len (g.get 9 rfl)
 have h10 := Lst.held (flds := Proof.flds) (l := x.pr) Proof.len (g.get 10 rfl)
 have l8 := Nat.le_trans h8.1 h8.2.1
 have l9 := Nat.le_trans h9.1 h9.2.1
 have l10 := Nat.le_trans h10.1 h10.2.1
 unfold maxLen at l8 l9 l10
 have key1 : ∀ wv, Below w.heap.size w wv → Calls Tryz.prog 164 #[.slice x.si.la x.si.xs.length x.si.lc, .func (.func 165) #[] #[]] wv fun e w' => e = .returned (.bool (x.si.xs.all Sight.may)) ∧ Below wv.heap.size wv w' := fun wv hv =>
  allSight_anyX w.heap.size x.si hn wv hv.size (h9.below hv)
 have key2 : ∀ wv, Below w.heap.size w wv → Calls Tryz.prog 166 #[.slice x.pr.la x.pr.xs.length x.pr.lc, .func (.func 74) #[] #[]] wv fun e w' => e = .returned (.bool (x.pr.xs.all Proof.may)) ∧ Below wv.heap.size wv w' := fun wv hv =>
  allProof_anyX w.heap.size x.pr wv hv.size (h10.below hv)
 clear g h8 h9 h10 hn
 go_enter Tryz.func80, Tryz.ntmps80
 go_upto_region 1 with fail
 go_cut [16] (fun c wx => c = .bool (x.bad1) ∧ w.alloc (.cells #[.int .i64 x.k, .int .i64 x.f, .int .i64 x.n, .int .i64 x.p, .int .i64 x.li, .int .i64 x.to, .int .i64 x.am, .string ⟨x.te.toArray⟩, .slice x.ar.la x.ar.xs.length x.ar.lc, .slice x.si.la x.si.xs.length x.si.lc, .slice x.pr.la x.pr.xs.length x.pr.lc] 64) = wx)
 case first =>
  by_cases c1 : x.k < 1
  ·go_wp2_with fail
   go_meet
   case rel => exact ⟨by simp [Tx.bad1, c1], rfl⟩
  ·have c1d : decide (x.k < 1) = false := by simpa using c1
   by_cases c2 : 10 < x.k
   ·go_wp2_with fail
    go_meet
    case rel => exact ⟨by simp [Tx.bad1, c2], rfl⟩
   ·have c2d : decide (10 < x.k) = false := by simpa using c2
    go_wp2_with fail
    go_meet
    case rel => exact ⟨by unfold Tx.bad1; rw [c1d, c2d]; simp, rfl⟩
 case rest =>
  obtain ⟨rfl, rfl⟩ := hcut
  cases hE1 : x.bad1
  rotate_left
  ·have HE := show Hid (_ = _) from hE1
   clear hE1
   go_wp2
   go_ret
   exact ⟨by unfold Tx.may; rw [HE.out]; rfl, bA⟩
  have HE1 := show Hid (_ = _) from hE1
  clear hE1
  go_wp2_with fail
  refine (fieldsOf_any x.k _).mono ?_
  rintro e w1 ⟨rfl, b1⟩
  obtain ⟨A, HA⟩ : ∃ z, Hid (z = isTo x.k) := ⟨_, rfl⟩
  obtain ⟨M, HM⟩ : ∃ z, Hid (z = isAm x.k) := ⟨_, rfl⟩
  obtain ⟨C, HC⟩ : ∃ z, Hid (z = isTx x.k) := ⟨_, rfl⟩
  obtain ⟨D, HD⟩ : ∃ z, Hid (z = decide (x.k = 3)) := ⟨_, rfl⟩
  obtain ⟨S, HS⟩ : ∃ z, Hid (z = nSi x.k) := ⟨_, rfl⟩
  obtain ⟨P, HP⟩ : ∃ z, Hid (z = nPr x.k) := ⟨_, rfl⟩
  rw [← HA.out, ← HM.out, ← HC.out, ← HD.out, ← HS.out, ← HP.out]
  have HB2 : Hid (x.bad2 = ((A != decide (1 ≤ x.to)) || (!M && decide (x.am ≠ 0)))) := by show _ = _; rw [HA.out, HM.out]; rfl
  have HB3 : Hid (x.bad3 = ((!C && decide (x.te ≠ [])) || (!D && decide (0 < x.ar.xs.length)))) := by show _ = _; rw [HC.out, HD.out]; rfl
  have HB4 : Hid (x.bad4 = (decide (S ≠ (x.si.xs.length : Int)) || decide (P ≠ (x.pr.xs.length : Int)))) := by show _ = _; rw [HS.out, HP.out]; rfl
  clear HA HM HC HD HS HP
  have b2 := bA.trans (b1.mono bA.size)
  have k1 := kX.below b1 kX.lt
  have k2 := k1.alloc (.cells #[.bool A, .bool M, .bool C, .bool D, .int .i64 S, .int .i64 P] 240)
  have b3 := b2.alloc b2.size (.cells #[.bool A, .bool M, .bool C, .bool D, .int .i64 S, .int .i64 P] 240)
  have kF := Blk.new w1 #[.bool A, .bool M, .bool C, .bool D, .int .i64 S, .int .i64 P] 240
  have q5 := k2.cell 5
  have q6 := k2.cell 6
  have q7 := k2.cell 7
  have q8 := k2.cell 8
  have q9 := k2.cell 9
  have q10 := k2.cell 10
  simp only [List.getElem?_toArray, List.getElem?_cons_succ, List.getElem?_cons_zero] at q5 q6 q7 q8 q9 q10
  have hz2 := k2.lt
  go_upto_region 4 with fail
  go_cut [35] (fun c wx => c = .bool ((A != decide (1 ≤ x.to)) || (!M && decide (x.am ≠ 0))) ∧ w1.alloc (.cells #[.bool A, .bool M, .bool C, .bool D, .int .i64 S, .int .i64 P] 240) = wx)
  case first =>
   by_cases cA : A = true
   ·subst cA
    by_cases c1 : 1 ≤ x.to
    ·have c1d : decide (1 ≤ x.to) = true := by simpa using c1
     by_cases cM : M = true
     ·subst cM
      go_wp2_with fail
      go_meet
      case rel => exact ⟨by simp [c1], rfl⟩
     ·rw [Bool.not_eq_true] at cM
      subst cM
      go_wp2_with fail
      go_meet
      case rel => exact ⟨by simp [c1, bne, BEq.beq], rfl⟩
    ·have c1d : decide (1 ≤ x.to) = false := by simpa using c1
     go_wp2_with fail
     go_meet
     case rel => exact ⟨by simp [c1], rfl⟩
   ·rw [Bool.not_eq_true] at cA
    subst cA
    by_cases c1 : 1 ≤ x.to
    ·have c1d : decide (1 ≤ x.to) = true := by simpa using c1
     go_wp2_with fail
     go_meet
     case rel => exact ⟨by simp [c1], rfl⟩
    ·have c1d : decide (1 ≤ x.to) = false := by simpa using c1
     by_cases cM : M = true
     ·subst cM
      go_wp2_with fail
      go_meet
      case rel => exact ⟨by simp [c1], rfl⟩
     ·rw [Bool.not_eq_true] at cM
      subst cM
      go_wp2_with fail
      go_meet
      case rel => exact ⟨by simp [c1, bne, BEq.beq], rfl⟩
  case rest =>
   obtain ⟨rfl, rfl⟩ := hcut
   rw [← HB2.out]
   cases hE2 : x.bad2
   rotate_left
   ·have HE := show Hid (_ = _) from hE2
    clear hE2
    go_wp2
    go_ret
    exact ⟨by unfold Tx.may; rw [HE.out]; simp, b3⟩
   have HE2 := show Hid (_ = _) from hE2
   clear hE2
   go_upto_region 6 with fail
   go_cut [54] (fun c wx => c = .bool ((!C && decide (x.te ≠ [])) || (!D && decide (0 < x.ar.xs.length))) ∧ w1.alloc (.cells #[.bool A, .bool M, .bool C, .bool D, .int .i64 S, .int .i64 P] 240) = wx)
   case first =>
    by_cases cC : C = true
    ·subst cC
     by_cases cD : D = true
     ·subst cD
      go_wp2_with fail
      go_meet
      case rel => exact ⟨by simp [Bool.or_false], rfl⟩
     ·rw [Bool.not_eq_true] at cD
      subst cD
      by_cases cR : 0 < x.ar.xs.length
      ·have cRd : decide ((0 : Int) < (x.ar.xs.length : Int)) = true := decide_eq_true (by omega)
       have cRn : decide (0 < x.ar.xs.length) = true := by simpa using cR
       go_wp2_with fail
       go_meet
       case rel => exact ⟨by simp [Bool.or_false, cRn], rfl⟩
      ·have cRd : decide ((0 : Int) < (x.ar.xs.length : Int)) = false := decide_eq_false (by omega)
       have cRn : decide (0 < x.ar.xs.length) = false := by simpa using cR
       go_wp2_with fail
       go_meet
       case rel => exact ⟨by simp [Bool.or_false, cRn], rfl⟩
    ·rw [Bool.not_eq_true] at cC
     subst cC
     by_cases cT : x.te = []
     ·rw [cT] at q7
      by_cases cD : D = true
      ·subst cD
       go_wp2_with fail
       go_meet
       case rel => exact ⟨by simp [cT], rfl⟩
      ·rw [Bool.not_eq_true] at cD
       subst cD
       by_cases cR : 0 < x.ar.xs.length
       ·have cRd : decide ((0 : Int) < (x.ar.xs.length : Int)) = true := decide_eq_true (by omega)
        have cRn : decide (0 < x.ar.xs.length) = true := by simpa using cR
        go_wp2_with fail
        go_meet
        case rel => exact ⟨by simp [cT, cRn], rfl⟩
       ·have cRd : decide ((0 : Int) < (x.ar.xs.length : Int)) = false := decide_eq_false (by omega)
        have cRn : decide (0 < x.ar.xs.length) = false := by simpa using cR
        go_wp2_with fail
        go_meet
        case rel => exact ⟨by simp [cT, cRn], rfl⟩
     ·have cTb : x.te.isEmpty = false := by simpa using cT
      go_wp2_with fail
      go_meet
      case rel => exact ⟨by simp [cT], rfl⟩
   case rest =>
    obtain ⟨rfl, rfl⟩ := hcut
    rw [← HB3.out]
    cases hE3 : x.bad3
    rotate_left
    ·have HE := show Hid (_ = _) from hE3
     clear hE3
     go_wp2
     go_ret
     exact ⟨by unfold Tx.may; rw [HE.out]; simp, b3⟩
    have HE3 := show Hid (_ = _) from hE3
    clear hE3
    go_upto_region 8 with fail
    go_cut [68] (fun c wx => c = .bool (decide (S ≠ (x.si.xs.length : Int)) || decide (P ≠ (x.pr.xs.length : Int))) ∧ w1.alloc (.cells #[.bool A, .bool M, .bool C, .bool D, .int .i64 S, .int .i64 P] 240) = wx)
    case first =>
     by_cases cS : S = (x.si.xs.length : Int)
     ·have cSb : (S != (x.si.xs.length : Int)) = false := by simpa using cS
      have HcS := show Hid (_ = _) from cS
      clear cS
      go_wp2_with fail
      go_meet
      case rel => exact ⟨by have h := HcS.out; simp [h, bne, BEq.beq], rfl⟩
     ·have cSb : (S != (x.si.xs.length : Int)) = true := by simpa using cS
      go_wp2_with fail
      go_meet
      case rel => exact ⟨by simp [cS], rfl⟩
    case rest =>
     obtain ⟨rfl, rfl⟩ := hcut
     rw [← HB4.out]
     cases hE4 : x.bad4
     rotate_left
     ·have HE := show Hid (_ = _) from hE4
      clear hE4
      go_wp2
      go_ret
      exact ⟨by unfold Tx.may; rw [HE.out]; simp, b3⟩
     have HE4 := show Hid (_ = _) from hE4
     clear hE4
     go_wp2_with fail
     refine (key1 _ b3).mono ?_
     rintro e w4 ⟨rfl, b4⟩
     have b5 := b3.trans (b4.mono b3.size)
     have k4 := k2.below b4 k2.lt
     have p10 := k4.cell 10
     simp only [List.getElem?_toArray, List.getElem?_cons_succ, List.getElem?_cons_zero] at p10
     have hz4 := k4.lt
     cases hm : x.si.xs.all Sight.may
     ·have Hm := show Hid (_ = _) from hm
      clear hm
      go_wp2
      go_ret
      exact ⟨by unfold Tx.may; rw [HE1.out, HE2.out, HE3.out, HE4.out, Hm.out]; rfl, b5⟩
     ·have Hm := show Hid (_ = _) from hm
      clear hm
      go_wp2_with fail
      refine (key2 _ b5).mono ?_
      rintro e w6 ⟨rfl, b6⟩
      go_wp2
      go_ret
      exact ⟨by unfold Tx.may; rw [HE1.out, HE2.out, HE3.out, HE4.out, Hm.out]; simp, b5.trans (b6.mono b5.size)⟩
end Go.Proofs.YtackcbpabjhmpaaGreat
