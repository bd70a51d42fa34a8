/- Which motions may be. -/
import Derived.Test.YtaifkidpdmhciaaGreatM40
namespace Go.Proofs.YtaifkidpdmhciaaGreat
open Go.RowKit
set_option linter.unusedVariables false
set_option linter.unusedSimpArgs false

theorem Motion.wts (x : Motion) (h : wtL x.atoms ≤ 1099400000000) : wtL x.bl.atoms ≤ 1099400000000 := by
  simp only [Motion.atoms, wtL_append] at h
  omega
theorem Known.wts (x : Known) (h : wtL x.atoms ≤ 1099400000000) : wtL x.bl.atoms ≤ 1099400000000 := by
  simp only [Known.atoms, wtL_append] at h
  omega
theorem Message.wts (x : Message) (h : wtL x.atoms ≤ 1099400000000) : (∀ y ∈ x.mo.xs, wtL y.atoms ≤ 1099400000000) ∧ (∀ y ∈ x.kn.xs, wtL y.atoms ≤ 1099400000000) ∧ (∀ y ∈ x.tx.xs, wtL y.atoms ≤ 1099400000000) := by
  simp only [Message.atoms, wtL_append, listL, wtL] at h
  refine ⟨fun y hy => ?_, fun y hy => ?_, fun y hy => ?_⟩
  · have := each_mem Motion.atoms x.mo.xs y hy
    omega
  · have := each_mem Known.atoms x.kn.xs y hy
    omega
  · have := each_mem Tx.atoms x.tx.xs y hy
    omega

set_option maxHeartbeats 1600000 in
theorem allCert_anyX (base : Nat) (l : Lst Cert) (w : World) (hb0 : base ≤ w.heap.size) (hh : l.Held Cert.flds 6 base w) :
    Calls Tryz.prog 94 #[.slice l.la l.xs.length l.lc, .func (.func 95) #[] #[]] w fun e w' => e = .returned (.bool (l.xs.all Cert.may)) ∧ Below w.heap.size w w' := by
  obtain ⟨la, lc, xs⟩ := l
  obtain ⟨hc, hcm, _⟩ := id hh
  simp only at hc hcm ⊢
  unfold maxLen at hcm
  go_enter Tryz.func94, Tryz.ntmps94
  go_wp2
  go_loopw [6, 9] (fun _ iv wv => ∃ (k : Nat), k ≤ xs.length ∧ iv = .int .i64 k ∧ Hid (xs.all Cert.may = (xs.drop k).all Cert.may) ∧ Below w.heap.size w wv) (fun _ iv _ => xs.length - (intOf iv).toNat)
  case atStart => exact ⟨0, Nat.zero_le _, rfl, rfl, Below.refl _ _⟩
  case round =>
    obtain ⟨k, hk, rfl, HR, hb⟩ := hrel
    by_cases hlt : k < xs.length
    · have hlt' : (k : Int) < (xs.length : Int) := by omega
      obtain ⟨_, _, h0 | ⟨rb, ro, e0, rl, rz, rc⟩⟩ := hh.below (hb.mono hb0)
      · simp only at h0; subst h0; simp at hlt
      simp only at e0 rc
      subst e0
      have rk := rc k (xs[k]'hlt) (List.getElem?_eq_getElem hlt)
      have HS : Hid ((xs.drop k).all Cert.may = (Cert.may (xs[k]'hlt) && (xs.drop (k + 1)).all Cert.may)) := by
        show _ = _
        rw [List.drop_eq_getElem_cons hlt]; rfl
      obtain ⟨y, Hy⟩ : ∃ y : Cert, Hid (y = xs[k]'hlt) := ⟨xs[k]'hlt, rfl⟩
      rw [← Hy.out] at rk HS
      have e1 := rk.get0 rfl
      have e2 := rk.get 1 rfl
      have e3 := rk.get 2 rfl
      have e4 := rk.get 3 rfl
      have e5 := rk.get 4 rfl
      have e6 := rk.get 5 rfl
      simp only [Fld.val, Lst.fld, List.length_map] at e1 e2 e3 e4 e5 e6
      have hb1 := (hb.alloc hb.size (.cells #[.int .i64 y.h, .int .i64 y.r, .int .i64 y.s, .bool y.has, .int .u64 y.bl, .slice y.fr.la y.fr.xs.length y.fr.lc] 53))
      have gd := (rk.goods.below (hb1' hb hb0 (.cells #[.int .i64 y.h, .int .i64 y.r, .int .i64 y.s, .bool y.has, .int .u64 y.bl, .slice y.fr.la y.fr.xs.length y.fr.lc] 53))).mono (Nat.le_trans hb0 hb1.size)
      clear rc rk
      go_wp2_with fail
      refine (mayCert_anyX y _ gd).mono ?_
      rintro e w1 ⟨rfl, b1⟩
      have hb2 := hb1.trans (b1.mono hb1.size)
      cases hm : Cert.may y
      · have Hf : Hid (xs.all Cert.may = false) := by
          show _ = _
          rw [HR.out, HS.out, hm]; rfl
        clear HR HS hm
        go_wp2
        go_ret
        exact ⟨by rw [Hf.out]; rfl, hb2⟩
      · have Hf : Hid (xs.all Cert.may = (xs.drop (k + 1)).all Cert.may) := by
          show _ = _
          rw [HR.out, HS.out, hm]; rfl
        clear HR HS hm
        go_wp2
        exact ⟨⟨k + 1, by omega, by go_num, Hf, hb2⟩, by simp [intOf]; omega⟩
    · have Hf : Hid (xs.all Cert.may = true) := by
        show _ = _
        rw [HR.out, List.drop_of_length_le (by omega)]; rfl
      have hge : ¬ (k : Int) < (xs.length : Int) := by omega
      clear HR
      go_wp2
      go_ret
      exact ⟨by rw [Hf.out]; rfl, hb⟩

def Motion.may (x : Motion) : Bool := decide (1 ≤ x.fr) && x.bl.may && x.ba.xs.all Cert.may

set_option maxRecDepth 4000 in
set_option maxHeartbeats 3200000 in
theorem mayMotion_anyX (x : Motion) (w : World) (g : goods w.heap.size w x.flds) (hn : wtL x.atoms ≤ 1099400000000) : Calls Tryz.prog 64 #[.agg #[.int .i64 x.ro, .int .i64 x.fr, .int .i64 x.bl.hd.c, .int .i64 x.bl.hd.h, .int .u64 x.bl.hd.pa, .int .u64 x.bl.hd.tx, .int .u64 x.bl.hd.gu, .int .u64 x.bl.hd.st, .int .u64 x.bl.hd.re, .int .u64 x.bl.hd.be, .int .i64 x.bl.hd.pr, .slice x.bl.tx.la x.bl.tx.xs.length x.bl.tx.lc, .slice x.bl.gu.la x.bl.gu.xs.length x.bl.gu.lc, .slice x.ba.la x.ba.xs.length x.ba.lc]] w fun e w' => e = .returned (.bool x.may) ∧ Below w.heap.size w w' := by
  have bA : Below w.heap.size w (w.alloc (.cells #[.int .i64 x.ro, .int .i64 x.fr, .int .i64 x.bl.hd.c, .int .i64 x.bl.hd.h, .int .u64 x.bl.hd.pa, .int .u64 x.bl.hd.tx, .int .u64 x.bl.hd.gu, .int .u64 x.bl.hd.st, .int .u64 x.bl.hd.re, .int .u64 x.bl.hd.be, .int .i64 x.bl.hd.pr, .slice x.bl.tx.la x.bl.tx.xs.length x.bl.tx.lc, .slice x.bl.gu.la x.bl.gu.xs.length x.bl.gu.lc, .slice x.ba.la x.ba.xs.length x.ba.lc] 50)) := (Below.refl _ _).alloc (Nat.le_refl _) _
  have kX := Blk.new w #[.int .i64 x.ro, .int .i64 x.fr, .int .i64 x.bl.hd.c, .int .i64 x.bl.hd.h, .int .u64 x.bl.hd.pa, .int .u64 x.bl.hd.tx, .int .u64 x.bl.hd.gu, .int .u64 x.bl.hd.st, .int .u64 x.bl.hd.re, .int .u64 x.bl.hd.be, .int .i64 x.bl.hd.pr, .slice x.bl.tx.la x.bl.tx.xs.length x.bl.tx.lc, .slice x.bl.gu.la x.bl.gu.xs.length x.bl.gu.lc, .slice x.ba.la x.ba.xs.length x.ba.lc] 50
  have key1 : ∀ wv, Below w.heap.size w wv → Calls Tryz.prog 93 #[.agg #[.int .i64 x.bl.hd.c, .int .i64 x.bl.hd.h, .int .u64 x.bl.hd.pa, .int .u64 x.bl.hd.tx, .int .u64 x.bl.hd.gu, .int .u64 x.bl.hd.st, .int .u64 x.bl.hd.re, .int .u64 x.bl.hd.be, .int .i64 x.bl.hd.pr, .slice x.bl.tx.la x.bl.tx.xs.length x.bl.tx.lc, .slice x.bl.gu.la x.bl.gu.xs.length x.bl.gu.lc]] wv fun e w' => e = .returned (.bool (x.bl.may)) ∧ Below wv.heap.size wv w' := fun wv hv => mayBlock_anyX x.bl wv ((g.below hv).mono hv.size).app.2.app.1 (x.bl.short_of (x.wts hn))
  have key2 : ∀ wv, Below w.heap.size w wv → Calls Tryz.prog 94 #[.slice x.ba.la x.ba.xs.length x.ba.lc, .func (.func 95) #[] #[]] wv fun e w' => e = .returned (.bool (x.ba.xs.all Cert.may)) ∧ Below wv.heap.size wv w' := fun wv hv => allCert_anyX wv.heap.size x.ba wv (Nat.le_refl _) (Lst.held (flds := Cert.flds) (l := x.ba) Cert.len (((g.below hv).mono hv.size).get 13 rfl))
  clear g hn
  go_enter Tryz.func64, Tryz.ntmps64
  by_cases c0 : 1 ≤ x.fr
  rotate_left
  · have cd : decide (1 ≤ x.fr) = false := decide_eq_false c0
    go_wp2
    go_ret
    exact ⟨by unfold Motion.may; rw [cd]; simp, bA⟩
  have H0 : Hid (decide (1 ≤ x.fr) = true) := decide_eq_true c0
  have cd0 : decide (1 ≤ x.fr) = true := decide_eq_true c0
  go_wp2_with fail
  refine (key1 _ bA).mono ?_
  rintro e w1 ⟨rfl, b1⟩
  have B1 := bA.trans (b1.mono bA.size)
  have k1 := kX.below b1 kX.lt
  cases hm1 : (x.bl.may)
  · have Hf := show Hid (_ = _) from hm1
    clear hm1
    go_wp2
    go_ret
    exact ⟨by unfold Motion.may; rw [Hf.out]; simp, B1⟩
  have H1 := show Hid (_ = _) from hm1
  clear hm1
  have q2_13 := k1.cell 13
  simp only [List.getElem?_toArray, List.getElem?_cons_succ, List.getElem?_cons_zero] at q2_13
  have hz2 := k1.lt
  go_wp2_with fail
  refine (key2 _ B1).mono ?_
  rintro e w2 ⟨rfl, b2⟩
  have B2 := B1.trans (b2.mono B1.size)
  have k2 := k1.below b2 k1.lt
  clear q2_13 hz2
  go_wp2
  go_ret
  exact ⟨by unfold Motion.may; rw [H0.out, H1.out]; simp, B2⟩

def Known.may (x : Known) : Bool := x.ce.may && x.bl.may

set_option maxRecDepth 4000 in
set_option maxHeartbeats 3200000 in
theorem mayKnown_anyX (x : Known) (w : World) (g : goods w.heap.size w x.flds) (hn : wtL x.atoms ≤ 1099400000000) : Calls Tryz.prog 66 #[.agg #[.int .i64 x.ce.h, .int .i64 x.ce.r, .int .i64 x.ce.s, .bool x.ce.has, .int .u64 x.ce.bl, .slice x.ce.fr.la x.ce.fr.xs.length x.ce.fr.lc, .int .i64 x.bl.hd.c, .int .i64 x.bl.hd.h, .int .u64 x.bl.hd.pa, .int .u64 x.bl.hd.tx, .int .u64 x.bl.hd.gu, .int .u64 x.bl.hd.st, .int .u64 x.bl.hd.re, .int .u64 x.bl.hd.be, .int .i64 x.bl.hd.pr, .slice x.bl.tx.la x.bl.tx.xs.length x.bl.tx.lc, .slice x.bl.gu.la x.bl.gu.xs.length x.bl.gu.lc]] w fun e w' => e = .returned (.bool x.may) ∧ Below w.heap.size w w' := by
  have bA : Below w.heap.size w (w.alloc (.cells #[.int .i64 x.ce.h, .int .i64 x.ce.r, .int .i64 x.ce.s, .bool x.ce.has, .int .u64 x.ce.bl, .slice x.ce.fr.la x.ce.fr.xs.length x.ce.fr.lc, .int .i64 x.bl.hd.c, .int .i64 x.bl.hd.h, .int .u64 x.bl.hd.pa, .int .u64 x.bl.hd.tx, .int .u64 x.bl.hd.gu, .int .u64 x.bl.hd.st, .int .u64 x.bl.hd.re, .int .u64 x.bl.hd.be, .int .i64 x.bl.hd.pr, .slice x.bl.tx.la x.bl.tx.xs.length x.bl.tx.lc, .slice x.bl.gu.la x.bl.gu.xs.length x.bl.gu.lc] 55)) := (Below.refl _ _).alloc (Nat.le_refl _) _
  have kX := Blk.new w #[.int .i64 x.ce.h, .int .i64 x.ce.r, .int .i64 x.ce.s, .bool x.ce.has, .int .u64 x.ce.bl, .slice x.ce.fr.la x.ce.fr.xs.length x.ce.fr.lc, .int .i64 x.bl.hd.c, .int .i64 x.bl.hd.h, .int .u64 x.bl.hd.pa, .int .u64 x.bl.hd.tx, .int .u64 x.bl.hd.gu, .int .u64 x.bl.hd.st, .int .u64 x.bl.hd.re, .int .u64 x.bl.hd.be, .int .i64 x.bl.hd.pr, .slice x.bl.tx.la x.bl.tx.xs.length x.bl.tx.lc, .slice x.bl.gu.la x.bl.gu.xs.length x.bl.gu.lc] 55
  have key0 : ∀ wv, Below w.heap.size w wv → Calls Tryz.prog 95 #[.agg #[.int .i64 x.ce.h, .int .i64 x.ce.r, .int .i64 x.ce.s, .bool x.ce.has, .int .u64 x.ce.bl, .slice x.ce.fr.la x.ce.fr.xs.length x.ce.fr.lc]] wv fun e w' => e = .returned (.bool (x.ce.may)) ∧ Below wv.heap.size wv w' := fun wv hv => mayCert_anyX x.ce wv ((g.below hv).mono hv.size).app.1
  have key1 : ∀ wv, Below w.heap.size w wv → Calls Tryz.prog 93 #[.agg #[.int .i64 x.bl.hd.c, .int .i64 x.bl.hd.h, .int .u64 x.bl.hd.pa, .int .u64 x.bl.hd.tx, .int .u64 x.bl.hd.gu, .int .u64 x.bl.hd.st, .int .u64 x.bl.hd.re, .int .u64 x.bl.hd.be, .int .i64 x.bl.hd.pr, .slice x.bl.tx.la x.bl.tx.xs.length x.bl.tx.lc, .slice x.bl.gu.la x.bl.gu.xs.length x.bl.gu.lc]] wv fun e w' => e = .returned (.bool (x.bl.may)) ∧ Below wv.heap.size wv w' := fun wv hv => mayBlock_anyX x.bl wv ((g.below hv).mono hv.size).app.2 (x.bl.short_of (x.wts hn))
  clear g hn
  go_enter Tryz.func66, Tryz.ntmps66
  go_wp2_with fail
  refine (key0 _ bA).mono ?_
  rintro e w1 ⟨rfl, b1⟩
  have B1 := bA.trans (b1.mono bA.size)
  have k1 := kX.below b1 kX.lt
  cases hm0 : (x.ce.may)
  · have Hf := show Hid (_ = _) from hm0
    clear hm0
    go_wp2
    go_ret
    exact ⟨by unfold Known.may; rw [Hf.out]; simp, B1⟩
  have H0 := show Hid (_ = _) from hm0
  clear hm0
  have q1_6 := k1.cell 6
  have q1_7 := k1.cell 7
  have q1_8 := k1.cell 8
  have q1_9 := k1.cell 9
  have q1_10 := k1.cell 10
  have q1_11 := k1.cell 11
  have q1_12 := k1.cell 12
  have q1_13 := k1.cell 13
  have q1_14 := k1.cell 14
  have q1_15 := k1.cell 15
  have q1_16 := k1.cell 16
  simp only [List.getElem?_toArray, List.getElem?_cons_succ, List.getElem?_cons_zero] at q1_6 q1_7 q1_8 q1_9 q1_10 q1_11 q1_12 q1_13 q1_14 q1_15 q1_16
  have hz1 := k1.lt
  go_wp2_with fail
  refine (key1 _ B1).mono ?_
  rintro e w2 ⟨rfl, b2⟩
  have B2 := B1.trans (b2.mono B1.size)
  have k2 := k1.below b2 k1.lt
  clear q1_6 q1_7 q1_8 q1_9 q1_10 q1_11 q1_12 q1_13 q1_14 q1_15 q1_16 hz1
  go_wp2
  go_ret
  exact ⟨by unfold Known.may; rw [H0.out]; simp, B2⟩

end Go.Proofs.YtaifkidpdmhciaaGreat
