import Derived.Test.YtackcbpabjhmpaaGreatM29
import Derived.Deep.MidRow
import Derived.Deep.WholeRow
namespace Go.Proofs.YtackcbpabjhmpaaGreat
open Go.RowKit
set_option linter.unusedVariables false
set_option linter.unusedSimpArgs false
theorem Motion.wts (x : Motion) (h : wtL x.atoms ≤ 1099400000000) : wtL x.bl.atoms ≤ 1099400000000 := by
 simp only [Motion.atoms, wtL_append] at h
 omega
theorem Known.wts (x : Known) (h : wtL x.atoms ≤ 1099400000000) : wtL x.bl.atoms ≤ 1099400000000 := by
 simp only [Known.atoms, wtL_append] at h
 omega
theorem Message.wts (x : Message) (h : wtL x.atoms ≤ 1099400000000) : (∀ y ∈ x.mo.xs, wtL y.atoms ≤ 1099400000000) ∧ (∀ y ∈ x.kn.xs, wtL y.atoms ≤ 1099400000000) ∧ (∀ y ∈ x.tx.xs, wtL y.atoms ≤ 1099400000000) := by
 simp only [Message.atoms, wtL_append, listL, wtL] at h
 refine ⟨fun y hy => ?_, fun y hy => ?_, fun y hy => ?_⟩
 ·have := each_mem Motion.atoms x.mo.xs y hy
  omega
 ·have := each_mem Known.atoms x.kn.xs y hy
  omega
 ·have := each_mem Tx.atoms x.tx.xs y hy
  omega
set_option maxHeartbeats 1600000 in
theorem allCert_anyX (base : Nat) (l : Lst Cert) (w : World) (hb0 : base ≤ w.heap.size) (hh : l.Held Cert.flds 6 base w) :
  Calls Tryz.prog 270 #[.slice l.la l.xs.length l.lc, .func (.func 56) #[] #[]] w fun e w' => e = .returned (.bool (l.xs.all Cert.may)) ∧ Below w.heap.size w w' := by
 obtain ⟨la, lc, xs⟩ := l
 obtain ⟨hc, hcm, _⟩ := id hh
 simp only at hc hcm ⊢
 unfold maxLen at hcm
 go_enter Tryz.func270, Tryz.ntmps270
 go_wp2
 go_loopw [6, 9] (fun _ iv wv => ∃ (k : Nat), k ≤ xs.length ∧ iv = .int .i64 k ∧ Hid (xs.all Cert.may = (xs.drop k).all Cert.may) ∧ Below w.heap.size w wv) (fun _ iv _ => xs.length - (intOf iv).toNat)
 case atStart => exact ⟨0, Nat.zero_le _, rfl, rfl, Below.refl _ _⟩
 case round =>
  obtain ⟨k, hk, rfl, HR, hb⟩ := hrel
  by_cases hlt : k < xs.length
  ·have hlt' : (k : Int) < (xs.length : Int) := by omega
   obtain ⟨_, _, h0 | ⟨rb, ro, e0, rl, rz, rc⟩⟩ := hh.below (hb.mono hb0)
   ·simp only at h0; subst h0; simp at hlt
   simp only at e0 rc
   subst e0
   have rk := rc k (xs[k]'hlt) (List.getElem?_eq_getElem hlt)
   have HS : Hid ((xs.drop k).all Cert.may = (Cert.may (xs[k]'hlt) && (xs.drop (k + 1)).all Cert.may)) := by
    show _ = _
    rw [List.drop_eq_getElem_cons hlt]; rfl
   obtain ⟨y, Hy⟩ : ∃ y : Cert, Hid (y = xs[k]'hlt) := ⟨xs[k]'hlt, rfl⟩
   rw [← Hy.out] at rk HS
   have e1 := rk.get0 rfl
   have e2 := rk.get 1 rfl
   have e3 := rk.get 2 rfl
   have e4 := rk.get 3 rfl
   have e5 := rk.get 4 rfl
   have e6 := rk.get 5 rfl
   simp only [Fld.val, Lst.fld, List.length_map] at e1 e2 e3 e4 e5 e6
   have hb1 := (hb.alloc hb.size (.cells #[.int .i64 y.h, .int .i64 y.r, .int .i64 y.s, .bool y.has, .int .u64 y.bl, .slice y.fr.la y.fr.xs.length y.fr.lc] 42))
   have gd := (rk.goods.below (hb1' hb hb0 (.cells #[.int .i64 y.h, .int .i64 y.r, .int .i64 y.s, .bool y.has, .int .u64 y.bl, .slice y.fr.la y.fr.xs.length y.fr.lc] 42))).mono (Nat.le_trans hb0 hb1.size)
   clear rc rk
   go_wp2_with fail
   refine (mayCert_anyX y _ gd).mono ?_
   rintro e w1 ⟨rfl, b1⟩
   have hb2 := hb1.trans (b1.mono hb1.size)
   cases hm : Cert.may y
   ·have Hf : Hid (xs.all Cert.may = false) := by
     show _ = _
     rw [HR.out, HS.out, hm]; rfl
    clear HR HS hm
    go_wp2
    go_ret
    exact ⟨by rw [Hf.out]; rfl, hb2⟩
   ·have Hf : Hid (xs.all Cert.may = (xs.drop (k + 1)).all Cert.may) := by
     show _ = _
     rw [HR.out, HS.out, hm]; rfl
    clear HR HS hm
    go_wp2
    exact ⟨⟨k + 1, by omega, by go_num, Hf, hb2⟩, by simp [intOf]; omega⟩
  ·have Hf : Hid (xs.all Cert.may = true) := by
    show _ = _
    rw [HR.out, List.drop_of_length_le (by omega)]; rfl
   have hge : ¬ (k : Int) < (xs.length : Int) := by omega
   clear HR
   go_wp2
   go_ret
   exact ⟨by rw [Hf.out]; rfl, hb⟩
def Motion.may (x : Motion) : Bool := decide (1 ≤ x.fr) && x.bl.may && x.ba.xs.all Cert.may
set_option maxRecDepth 4000 in
set_option maxHeartbeats 3200000 in
theorem mayMotion_anyX (x : Motion) (w : World) (g : goods w.heap.size w x.flds) (hn : wtL x.atoms ≤ 1099400000000) : Calls Tryz.prog 240 #[.agg #[.int .i64 x.ro, .int .i64 x.fr, .int .i64 x.bl.hd.c, .int .i64 x.bl.hd.h, .int .u64 x.bl.hd.pa, .int .u64 x.bl.hd.tx, .int .u64 x.bl.hd.gu, .int .u64 x.bl.hd.st, .int .u64 x.bl.hd.re, .int .u64 x.bl.hd.be, .int .i64 x.bl.hd.pr, .slice x.bl.tx.la x.bl.tx.xs.length x.bl.tx.lc, .slice x.bl.gu.la x.bl.gu.xs.length x.bl.gu.lc, .slice x.ba.la x.ba.xs.length x.ba.lc]] w fun e w' => e = .returned (.bool x.may) ∧ Below w.heap.size w w' := by
 have bA : Below w.heap.size w (w.alloc (.cells #[.int .i64 x.ro, .int .i64 x.fr, .int .i64 x.bl.hd.c, .int .i64 x.bl.hd.h, .int .u64 x.bl.hd.pa, .int .u64 x.bl.hd.tx, .int .u64 x.bl.hd.gu, .int .u64 x.bl.hd.st, .int .u64 x.bl.hd.re, .int .u64 x.bl.hd.be, .int .i64 x.bl.hd.pr, .slice x.bl.tx.la x.bl.tx.xs.length x.bl.tx.lc, .slice x.bl.gu.la x.bl.gu.xs.length x.bl.gu.lc, .slice x.ba.la x.ba.xs.length x.ba.lc] 154)) := (Below.refl _ _).alloc (Nat.le_refl _) _
 have kX := Blk.new w #[.int .i64 x.ro, .int .i64 x.fr, .int .i64 x.bl.hd.c, .int .i64 x.bl.hd.h, .int .u64 x.bl.hd.pa, .int .u64 x.bl.hd.tx, .int .u64 x.bl.hd.gu, .int .u64 x.bl.hd.st, .int .u64 x.bl.hd.re, .int .u64 x.bl.hd.be, .int .i64 x.bl.hd.pr, .slice x.bl.tx.la x.bl.tx.xs.length x.bl.tx.lc, .slice x.bl.gu.la x.bl.gu.xs.length x.bl.gu.lc, .slice x.ba.la x.ba.xs.length x.ba.lc] 154
 have key1 : ∀ wv, Below w.heap.size w wv → Calls Tryz.prog 175 #[.agg #[.int .i64 x.bl.hd.c, .int .i64 x.bl.hd.h, .int .u64 x.bl.hd.pa, .int .u64 x.bl.hd.tx, .int .u64 x.bl.hd.gu, .int .u64 x.bl.hd.st, .int .u64 x.bl.hd.re, .int .u64 x.bl.hd.be, .int .i64 x.bl.hd.pr, .slice x.bl.tx.la x.bl.tx.xs.length x.bl.tx.lc, .slice x.bl.gu.la x.bl.gu.xs.length x.bl.gu.lc]] wv fun e w' => e = .returned (.bool (x.bl.may)) ∧ Below wv.heap.size wv w' := fun wv hv => mayBlock_anyX x.bl wv ((g.below hv).mono hv.size).app.2.app.1 (x.bl.short_of (x.wts hn))
 have key2 : ∀ wv, Below w.heap.size w wv → Calls Tryz.prog 270 #[.slice x.ba.la x.ba.xs.length x.ba.lc, .func (.func 56) #[] #[]] wv fun e w' => e = .returned (.bool (x.ba.xs.all Cert.may)) ∧ Below wv.heap.size wv w' := fun wv hv => allCert_anyX wv.heap.size x.ba wv (Nat.le_refl _) (Lst.held (flds := Cert.flds) (l := x.ba) Cert.len (((g.below hv).mono hv.size).get 13 rfl))
 clear g hn
 go_enter Tryz.func240, Tryz.ntmps240
 by_cases c0 : 1 ≤ x.fr
 rotate_left
 ·have cd : decide (1 ≤ x.fr) = false := decide_eq_false c0
  go_wp2
  go_ret
  exact ⟨by unfold Motion.may; rw [cd]; simp, bA⟩
 have H0 : Hid (decide (1 ≤ x.fr) = true) := decide_eq_true c0
 have cd0 : decide (1 ≤ x.fr) = true := decide_eq_true c0
 go_wp2_with fail
 refine (key1 _ bA).mono ?_
 rintro e w1 ⟨rfl, b1⟩
 have B1 := bA.trans (b1.mono bA.size)
 have k1 := kX.below b1 kX.lt
 cases hm1 : (x.bl.may)
 ·have Hf := show Hid (_ = _) from hm1
  clear hm1
  go_wp2
  go_ret
  exact ⟨by unfold Motion.may; rw [Hf.out]; simp, B1⟩
 have H1 := show Hid (_ = _) from hm1
 clear hm1
 have q2_13 := k1.cell 13
 simp only [List.getElem?_toArray, List.getElem?_cons_succ, List.getElem?_cons_zero] at q2_13
 have hz2 := k1.lt
 go_wp2_with fail
 refine (key2 _ B1).mono ?_
 rintro e w2 ⟨rfl, b2⟩
 have B2 := B1.trans (b2.mono B1.size)
 have k2 := k1.below b2 k1.lt
 clear q2_13 hz2
 go_wp2
 go_ret
 exact ⟨by unfold Motion.may; rw [H0.out, H1.out]; simp, B2⟩
def Known.may (x : Known) : Bool := x.ce.may && x.bl.may
set_option maxRecDepth 4000 in
set_option maxHeartbeats 3200000 in
theorem mayKnown_anyX (x : Known) (w : World) (g : goods w.heap.size w x.flds) (hn : wtL x.atoms ≤ 1099400000000) : Calls Tryz.prog 242 #[.agg #[.int .i64 x.ce.h, .int .i64 x.ce.r, .int .i64 x.ce.s, .bool x.ce.has, .int .u64 x.ce.bl, .slice x.ce.fr.la x.ce.fr.xs.length x.ce.fr.lc, .int .i64 x.bl.hd.c, .int .i64 x.bl.hd.h, .int .u64 x.bl.hd.pa, .int .u64 x.bl.hd.tx, .int .u64 x.bl.hd.gu, .int .u64 x.bl.hd.st, .int .u64 x.bl.hd.re, .int .u64 x.bl.hd.be, .int .i64 x.bl.hd.pr, .slice x.bl.tx.la x.bl.tx.xs.length x.bl.tx.lc, .slice x.bl.gu.la x.bl.gu.xs.length x.bl.gu.lc]] w fun e w' => e = .returned (.bool x.may) ∧ Below w.heap.size w w' := by
 have bA : Below w.heap.size w (w.alloc (.cells #[.int .i64 x.ce.h, .int .i64 x.ce.r, .int .i64 x.ce.s, .bool x.ce.has, .int .u64 x.ce.bl, .slice x.ce.fr.la x.ce.fr.xs.length x.ce.fr.lc, .int .i64 x.bl.hd.c, .int .i64 x.bl.hd.h, .int .u64 x.bl.hd.pa, .int .u64 x.bl.hd.tx, .int .u64 x.bl.hd.gu, .int .u64 x.bl.hd.st, .int .u64 x.bl.hd.re, .int .u64 x.bl.hd.be, .int .i64 x.bl.hd.pr, .slice x.bl.tx.la x.bl.tx.xs.length x.bl.tx.lc, .slice x.bl.gu.la x.bl.gu.xs.length x.bl.gu.lc] 156)) := (Below.refl _ _).alloc (Nat.le_refl _) _
 have kX := Blk.new w #[.int .i64 x.ce.h, .int .i64 x.ce.r, .int .i64 x.ce.s, .bool x.ce.has, .int .u64 x.ce.bl, .slice x.ce.fr.la x.ce.fr.xs.length x.ce.fr.lc, .int .i64 x.bl.hd.c, .int .i64 x.bl.hd.h, .int .u64 x.bl.hd.pa, .int .u64 x.bl.hd.tx, .int .u64 x.bl.hd.gu, .int .u64 x.bl.hd.st, .int .u64 x.bl.hd.re, .int .u64 x.bl.hd.be, .int .i64 x.bl.hd.pr, .slice x.bl.tx.la x.bl.tx.xs.length x.bl.tx.lc, .slice x.bl.gu.la x.bl.gu.xs.length x.bl.gu.lc] 156
 have key0 : ∀ wv, Below w.heap.size w wv → Calls Tryz.prog 56 #[.agg #[.int .i64 x.ce.h, .int .i64 x.ce.r, .int .i64 x.ce.s, .bool x.ce.has, .int .u64 x.ce.bl, .slice x.ce.fr.la x.ce.fr.xs.length x.ce.fr.lc]] wv fun e w' => e = .returned (.bool (x.ce.may)) ∧ Below wv.heap.size wv w' := fun wv hv => mayCert_anyX x.ce wv ((g.below hv).mono hv.size).app.1
 have key1 : ∀ wv, Below w.heap.size w wv → Calls Tryz.prog 175 #[.agg #[.int .i64 x.bl.hd.c, .int .i64 x.bl.hd.h, .int .u64 x.bl.hd.pa, .int .u64 x.bl.hd.tx, .int .u64 x.bl.hd.gu, .int .u64 x.bl.hd.st, .int .u64 x.bl.hd.re, .int .u64 x.bl.hd.be, .int .i64 x.bl.hd.pr, .slice x.bl.tx.la x.bl.tx.xs.length x.bl.tx.lc, .slice x.bl.gu.la x.bl.gu.xs.length x.bl.gu.lc]] wv fun e w' => e = .returned (.bool (x.bl.may)) ∧ Below wv.heap.size wv w' := fun wv hv => mayBlock_anyX x.bl wv ((g.below hv).mono hv.size).app.2 (x.bl.short_of (x.wts hn))
 clear g hn
 go_enter Tryz.func242, Tryz.ntmps242
 go_wp2_with fail
 refine (key0 _ bA).mono ?_
 rintro e w1 ⟨rfl, b1⟩
 have B1 := bA.trans (b1.mono bA.size)
 have k1 := kX.below b1 kX.lt
 cases hm0 : (x.ce.may)
 ·have Hf := show Hid (_ = _) from hm0
  clear hm0
  go_wp2
  go_ret
  exact ⟨by unfold Known.may; rw [Hf.out]; simp, B1⟩
 have H0 := show Hid (_ = _) from hm0
 clear hm0
 have q1_6 := k1.cell 6
 have q1_7 := k1.cell 7
 have q1_8 := k1.cell 8
 have q1_9 := k1.cell 9
 have q1_10 := k1.cell 10
 have q1_11 := k1.cell 11
 have q1_12 := k1.cell 12
 have q1_13 := k1.cell 13
 have q1_14 := k1.cell 14
 have q1_15 := k1.cell 15
 have q1_16 := k1.cell 16
 simp only [List.getElem?_toArray, List.getElem?_cons_succ, List.getElem?_cons_zero] at q1_6 q1_7 q1_8 q1_9 q1_10 q1_11 q1_12 q1_13 q1_14 q1_15 q1_16
 have hz1 := k1.lt
 go_wp2_with fail
 refine (key1 _ B1).mono ?_
 rintro e w2 ⟨rfl, b2⟩
 have B2 := B1.trans (b2.mono B1.size)
 have k2 := k1.below b2 k1.lt
 clear q1_6 q1_7 q1_8 q1_9 q1_10 q1_11 q1_12 q1_13 q1_14 q1_15 q1_16 hz1
 go_wp2
 go_ret
 exact ⟨by unfold Known.may; rw [H0.out]; simp, B2⟩
set_option maxHeartbeats 1600000 in
theorem allVote_anyX (base : Nat) (l : Lst Vote) (w : World) (hb0 : base ≤ w.heap.size) (hh : l.Held Vote.flds 6 base w) :
  Calls Tryz.prog 238 #[.slice l.la l.xs.length l.lc, .func (.func 50) #[] #[]] w fun e w' => e = .returned (.bool (l.xs.all Vote.may)) ∧ Below w.heap.size w w' := by
 obtain ⟨la, lc, xs⟩ := l
 obtain ⟨hc, hcm, _⟩ := id hh
 simp only at hc hcm ⊢
 unfold maxLen at hcm
 go_enter Tryz.func238, Tryz.ntmps238
 go_wp2
 go_loopw [6, 9] (fun _ iv wv => ∃ (k : Nat), k ≤ xs.length ∧ iv = .int .i64 k ∧ Hid (xs.all Vote.may = (xs.drop k).all Vote.may) ∧ Below w.heap.size w wv) (fun _ iv _ => xs.length - (intOf iv).toNat)
 case atStart => exact ⟨0, Nat.zero_le _, rfl, rfl, Below.refl _ _⟩
 case round =>
  obtain ⟨k, hk, rfl, HR, hb⟩ := hrel
  by_cases hlt : k < xs.length
  ·have hlt' : (k : Int) < (xs.length : Int) := by omega
   obtain ⟨_, _, h0 | ⟨rb, ro, e0, rl, rz, rc⟩⟩ := hh.below (hb.mono hb0)
   ·simp only at h0; subst h0; simp at hlt
   simp only at e0 rc
   subst e0
   have rk := rc k (xs[k]'hlt) (List.getElem?_eq_getElem hlt)
   have HS : Hid ((xs.drop k).all Vote.may = (Vote.may (xs[k]'hlt) && (xs.drop (k + 1)).all Vote.may)) := by
    show _ = _
    rw [List.drop_eq_getElem_cons hlt]; rfl
   obtain ⟨y, Hy⟩ : ∃ y : Vote, Hid (y = xs[k]'hlt) := ⟨xs[k]'hlt, rfl⟩
   rw [← Hy.out] at rk HS
   have e1 := rk.get0 rfl
   have e2 := rk.get 1 rfl
   have e3 := rk.get 2 rfl
   have e4 := rk.get 3 rfl
   have e5 := rk.get 4 rfl
   have e6 := rk.get 5 rfl
   simp only [Fld.val, Lst.fld, List.length_map] at e1 e2 e3 e4 e5 e6
   have hb1 := (hb.alloc hb.size (.cells #[.int .i64 y.h, .int .i64 y.r, .int .i64 y.s, .bool y.has, .int .u64 y.bl, .int .i64 y.f] 36))
   have gd := (rk.goods.below (hb1' hb hb0 (.cells #[.int .i64 y.h, .int .i64 y.r, .int .i64 y.s, .bool y.has, .int .u64 y.bl, .int .i64 y.f] 36))).mono (Nat.le_trans hb0 hb1.size)
   clear rc rk
   go_wp2_with fail
   refine (mayVote_anyX y _ gd).mono ?_
   rintro e w1 ⟨rfl, b1⟩
   have hb2 := hb1.trans (b1.mono hb1.size)
   cases hm : Vote.may y
   ·have Hf : Hid (xs.all Vote.may = false) := by
     show _ = _
     rw [HR.out, HS.out, hm]; rfl
    clear HR HS hm
    go_wp2
    go_ret
    exact ⟨by rw [Hf.out]; rfl, hb2⟩
   ·have Hf : Hid (xs.all Vote.may = (xs.drop (k + 1)).all Vote.may) := by
     show _ = _
     rw [HR.out, HS.out, hm]; rfl
    clear HR HS hm
    go_wp2
    exact ⟨⟨k + 1, by omega, by go_num, Hf, hb2⟩, by simp [intOf]; omega⟩
  ·have Hf : Hid (xs.all Vote.may = true) := by
    show _ = _
    rw [HR.out, List.drop_of_length_le (by omega)]; rfl
   have hge : ¬ (k : Int) < (xs.length : Int) := by omega
   clear HR
   go_wp2
   go_ret
   exact ⟨by rw [Hf.out]; rfl, hb⟩
set_option maxHeartbeats 1600000 in
theorem allMotion_anyX (base : Nat) (l : Lst Motion) (hn : ∀ y ∈ l.xs, wtL y.atoms ≤ 1099400000000) (w : World) (hb0 : base ≤ w.heap.size) (hh : l.Held Motion.flds 14 base w) :
  Calls Tryz.prog 239 #[.slice l.la l.xs.length l.lc, .func (.func 240) #[] #[]] w fun e w' => e = .returned (.bool (l.xs.all Motion.may)) ∧ Below w.heap.size w w' := by
 obtain ⟨la, lc, xs⟩ := l
 obtain ⟨hc, hcm, _⟩ := id hh
 simp only at hc hcm hn ⊢
 unfold maxLen at hcm
 go_enter Tryz.func239, Tryz.ntmps239
 go_wp2
 go_loopw [6, 9] (fun _ iv wv => ∃ (k : Nat), k ≤ xs.length ∧ iv = .int .i64 k ∧ Hid (xs.all Motion.may = (xs.drop k).all Motion.may) ∧ Below w.heap.size w wv) (fun _ iv _ => xs.length - (intOf iv).toNat)
 case atStart => exact ⟨0, Nat.zero_le _, rfl, rfl, Below.refl _ _⟩
 case round =>
  obtain ⟨k, hk, rfl, HR, hb⟩ := hrel
  by_cases hlt : k < xs.length
  ·have hlt' : (k : Int) < (xs.length : Int) := by omega
   obtain ⟨_, _, h0 | ⟨rb, ro, e0, rl, rz, rc⟩⟩ := hh.below (hb.mono hb0)
   ·simp only at h0; subst h0; simp at hlt
   simp only at e0 rc
   subst e0
   have rk := rc k (xs[k]'hlt) (List.getElem?_eq_getElem hlt)
   have HS : Hid ((xs.drop k).all Motion.may = (Motion.may (xs[k]'hlt) && (xs.drop (k + 1)).all Motion.may)) := by
    show _ = _
    rw [List.drop_eq_getElem_cons hlt]; rfl
   obtain ⟨y, Hy⟩ : ∃ y : Motion, Hid (y = xs[k]'hlt) := ⟨xs[k]'hlt, rfl⟩
   rw [← Hy.out] at rk HS
   have e1 := rk.get0 rfl
   have e2 := rk.get 1 rfl
   have e3 := rk.get 2 rfl
   have e4 := rk.get 3 rfl
   have e5 := rk.get 4 rfl
   have e6 := rk.get 5 rfl
   have e7 := rk.get 6 rfl
   have e8 := rk.get 7 rfl
   have e9 := rk.get 8 rfl
   have e10 := rk.get 9 rfl
   have e11 := rk.get 10 rfl
   have e12 := rk.get 11 rfl
   have e13 := rk.get 12 rfl
   have e14 := rk.get 13 rfl
   simp only [Fld.val, Lst.fld, List.length_map] at e1 e2 e3 e4 e5 e6 e7 e8 e9 e10 e11 e12 e13 e14
   have hb1 := (hb.alloc hb.size (.cells #[.int .i64 y.ro, .int .i64 y.fr, .int .i64 y.bl.hd.c, .int .i64 y.bl.hd.h, .int .u64 y.bl.hd.pa, .int .u64 y.bl.hd.tx, .int .u64 y.bl.hd.gu, .int .u64 y.bl.hd.st, .int .u64 y.bl.hd.re, .int .u64 y.bl.hd.be, .int .i64 y.bl.hd.pr, .slice y.bl.tx.la y.bl.tx.xs.length y.bl.tx.lc, .slice y.bl.gu.la y.bl.gu.xs.length y.bl.gu.lc, .slice y.ba.la y.ba.xs.length y.ba.lc] 154))
   have gd := (rk.goods.below (hb1' hb hb0 (.cells #[.int .i64 y.ro, .int .i64 y.fr, .int .i64 y.bl.hd.c, .int .i64 y.bl.hd.h, .int .u64 y.bl.hd.pa, .int .u64 y.bl.hd.tx, .int .u64 y.bl.hd.gu, .int .u64 y.bl.hd.st, .int .u64 y.bl.hd.re, .int .u64 y.bl.hd.be, .int .i64 y.bl.hd.pr, .slice y.bl.tx.la y.bl.tx.xs.length y.bl.tx.lc, .slice y.bl.gu.la y.bl.gu.xs.length y.bl.gu.lc, .slice y.ba.la y.ba.xs.length y.ba.lc] 154))).mono (Nat.le_trans hb0 hb1.size)
   clear rc rk
   go_wp2_with fail
   refine (mayMotion_anyX y _ gd (hn y (by rw [Hy.out]; exact List.getElem_mem hlt))).mono ?_
   rintro e w1 ⟨rfl, b1⟩
   have hb2 := hb1.trans (b1.mono hb1.size)
   cases hm : Motion.may y
   ·have Hf : Hid (xs.all Motion.may = false) := by
     show _ = _
     rw [HR.out, HS.out, hm]; rfl
    clear HR HS hm
    go_wp2
    go_ret
    exact ⟨by rw [Hf.out]; rfl, hb2⟩
   ·have Hf : Hid (xs.all Motion.may = (xs.drop (k + 1)).all Motion.may) := by
     show _ = _
     rw [HR.out, HS.out, hm]; rfl
    clear HR HS hm
    go_wp2
    exact ⟨⟨k + 1, by omega, by go_num, Hf, hb2⟩, by simp [intOf]; omega⟩
  ·have Hf : Hid (xs.all Motion.may = true) := by
    show _ = _
    rw [HR.out, List.drop_of_length_le (by omega)]; rfl
   have hge : ¬ (k : Int) < (xs.length : Int) := by omega
   clear HR
   go_wp2
   go_ret
   exact ⟨by rw [Hf.out]; rfl, hb⟩
theorem wpList_store_new {P : Program} {ops : Array Oper} {rest : List Oper} {op : Oper} {a : Act} {w : World} {Q : Exit → Act → World → Prop} (hgd : op.guard = none) (ty : TypeId) (x y : Operand) (ho : op.op = .store ty x y) (c c' : Array Value)
  (hx : a.eval x = .pointer (some ⟨w.heap.size, 0, none⟩)) (hy : a.eval y = .agg c') (hi : (P.info? ty).map (·.size) = some c'.size) (hs : c.size = c'.size) (h1 : c'.all (·.oneCell') = true)
  (h : wpList P ops Q rest (a.put op.dst undef) (w.alloc (.cells c' ty))) : wpList P ops Q (op :: rest) a (w.alloc (.cells c ty)) :=
 wpList_plain hgd fun K hK => by
  unfold Oper.wp execOp
  simp only [ho, hx, hy, Instr.storeAt, Instr.sureAddr, Sem.run_bind, Sem.run_pure, Result.andThen_ok, run_storeVar_new w ty c c' hi hs h1]
  exact hK _ _ h
set_option maxRecDepth 4000 in
set_option maxHeartbeats 1600000 in
theorem allKnown_anyX (base : Nat) (l : Lst Known) (hn : ∀ y ∈ l.xs, wtL y.atoms ≤ 1099400000000) (w : World) (hb0 : base ≤ w.heap.size) (hh : l.Held Known.flds 17 base w) :
  Calls Tryz.prog 241 #[.slice l.la l.xs.length l.lc, .func (.func 242) #[] #[]] w fun e w' => e = .returned (.bool (l.xs.all Known.may)) ∧ Below w.heap.size w w' := by
 obtain ⟨la, lc, xs⟩ := l
 obtain ⟨hc, hcm, _⟩ := id hh
 simp only at hc hcm hn ⊢
 unfold maxLen at hcm
 go_enter Tryz.func241, Tryz.ntmps241
 go_wp2
 go_loopw [6, 9] (fun _ iv wv => ∃ (k : Nat), k ≤ xs.length ∧ iv = .int .i64 k ∧ Hid (xs.all Known.may = (xs.drop k).all Known.may) ∧ Below w.heap.size w wv) (fun _ iv _ => xs.length - (intOf iv).toNat)
 case atStart => exact ⟨0, Nat.zero_le _, rfl, rfl, Below.refl _ _⟩
 case round =>
  obtain ⟨k, hk, rfl, HR, hb⟩ := hrel
  by_cases hlt : k < xs.length
  ·have hlt' : (k : Int) < (xs.length : Int) := by omega
   obtain ⟨_, _, h0 | ⟨rb, ro, e0, rl, rz, rc⟩⟩ := hh.below (hb.mono hb0)
   ·simp only at h0; subst h0; simp at hlt
   simp only at e0 rc
   subst e0
   have rk := rc k (xs[k]'hlt) (List.getElem?_eq_getElem hlt)
   have HS : Hid ((xs.drop k).all Known.may = (Known.may (xs[k]'hlt) && (xs.drop (k + 1)).all Known.may)) := by
    show _ = _
    rw [List.drop_eq_getElem_cons hlt]; rfl
   obtain ⟨y, Hy⟩ : ∃ y : Known, Hid (y = xs[k]'hlt) := ⟨xs[k]'hlt, rfl⟩
   rw [← Hy.out] at rk HS
   obtain ⟨C, HC⟩ : ∃ C : Array Value, Hid (C = #[.int .i64 y.ce.h, .int .i64 y.ce.r, .int .i64 y.ce.s, .bool y.ce.has, .int .u64 y.ce.bl, .slice y.ce.fr.la y.ce.fr.xs.length y.ce.fr.lc, .int .i64 y.bl.hd.c, .int .i64 y.bl.hd.h, .int .u64 y.bl.hd.pa, .int .u64 y.bl.hd.tx, .int .u64 y.bl.hd.gu, .int .u64 y.bl.hd.st, .int .u64 y.bl.hd.re, .int .u64 y.bl.hd.be, .int .i64 y.bl.hd.pr, .slice y.bl.tx.la y.bl.tx.xs.length y.bl.tx.lc, .slice y.bl.gu.la y.bl.gu.xs.length y.bl.gu.lc]) := ⟨_, rfl⟩
   have hCs : C.toList = (Known.flds y).map Fld.val := by rw [HC.out]; simp [Vote.flds, Guilt.flds, Cert.flds, Header.flds, Turn.flds, Proof.flds, Sight.flds, Tx.flds, Block.flds, Motion.flds, Known.flds, Message.flds, Record.flds, Fld.val, Lst.fld]
   have hCn : C.size = 17 := by rw [HC.out]; rfl
   have hC1 : C.all (·.oneCell') = true := by rw [HC.out]; simp [Value.oneCell']
   have hr1 : wr.rangeAt rb (ro + k * 17) C.toList := fun j v hv => by
    rw [hCs, List.getElem?_map] at hv
    obtain ⟨f, hf, rfl⟩ := Option.map_eq_some_iff.1 hv
    exact rk.get j hf
   have hr2 : (wr.alloc (.cells C 156)).rangeAt wr.heap.size 0 C.toList := fun j v hv => by
    rw [(Blk.new wr C 156).cell, Nat.zero_add]
    simpa using hv
   have hb1 := (hb.alloc hb.size (.cells C 156))
   have gd := (rk.goods.below (hb1' hb hb0 (.cells C 156))).mono (Nat.le_trans hb0 hb1.size)
   have key := mayKnown_anyX y _ gd (hn y (by rw [Hy.out]; exact List.getElem_mem hlt))
   rw [← HC.out] at key
   clear hCs gd
   clear rc rk
   go_upto_region 3 with fail
   refine wp_region_list ?_
   refine wpList_plain rfl (fun K hK => ?_)
   go_simp
   refine hK _ _ ?_
   clear hK K
   refine wpList_load_mid rfl 156 _ rfl rb (ro + k * 17) rfl C.toList _ hr1 Tryz.underlying156 rfl (by rw [Array.length_toList, hCn]; kernel_rfl) ?_
   rw [Array.toArray_toList]
   refine wpList_plain rfl (fun K hK => ?_)
   go_simp
   refine hK _ _ ?_
   clear hK K
   refine wpList_store_new rfl 156 _ _ rfl #[.int .i64 0, .int .i64 0, .int .i64 0, .bool false, .int .u64 0, .slice none 0 0, .int .i64 0, .int .i64 0, .int .u64 0, .int .u64 0, .int .u64 0, .int .u64 0, .int .u64 0, .int .u64 0, .int .i64 0, .slice none 0 0, .slice none 0 0] C rfl rfl (by rw [hCn]; kernel_rfl) (by rw [hCn]; rfl) hC1 ?_
   refine wpList_nil ?_
   simp only [Exit.then]
   go_upto_region 4 with fail
   refine wp_region_list ?_
   refine wpList_plain rfl (fun K hK => ?_)
   go_simp
   refine hK _ _ ?_
   clear hK K
   refine wpList_load_mid rfl 156 _ rfl wr.heap.size 0 rfl C.toList _ hr2 Tryz.underlying156 rfl (by rw [Array.length_toList, hCn]; kernel_rfl) ?_
   rw [Array.toArray_toList]
   refine wpList_plain rfl (fun K hK => ?_)
   go_simp
   refine key.mono ?_
   rintro e w1 ⟨rfl, b1⟩
   refine hK _ _ ?_
   clear hK K
   refine wpList_plain rfl (fun K hK => ?_)
   go_simp
   refine hK _ _ ?_
   clear hK K
   refine wpList_nil ?_
   simp only [Exit.then]
   have hb2 := hb1.trans (b1.mono hb1.size)
   cases hm : Known.may y
   ·have Hf : Hid (xs.all Known.may = false) := by
     show _ = _
     rw [HR.out, HS.out, hm]; rfl
    clear HR HS hm
    go_wp2
    go_ret
    exact ⟨by rw [Hf.out]; rfl, hb2⟩
   ·have Hf : Hid (xs.all Known.may = (xs.drop (k + 1)).all Known.may) := by
     show _ = _
     rw [HR.out, HS.out, hm]; rfl
    clear HR HS hm
    go_wp2
    exact ⟨⟨k + 1, by omega, by go_num, Hf, hb2⟩, by simp [intOf]; omega⟩
  ·have Hf : Hid (xs.all Known.may = true) := by
    show _ = _
    rw [HR.out, List.drop_of_length_le (by omega)]; rfl
   have hge : ¬ (k : Int) < (xs.length : Int) := by omega
   clear HR
   go_wp2
   go_ret
   exact ⟨by rw [Hf.out]; rfl, hb⟩
end Go.Proofs.YtackcbpabjhmpaaGreat
