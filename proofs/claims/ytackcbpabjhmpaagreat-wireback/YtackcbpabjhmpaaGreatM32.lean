import Derived.Test.YtackcbpabjhmpaaGreatM31
import Derived.Test.YtackcbpabjhmpaaGreatXRef7
namespace Go.Proofs.YtackcbpabjhmpaaGreat
open Go.RowKit
set_option linter.unusedVariables false
set_option linter.unusedSimpArgs false
def Message.may (x : Message) : Bool := decide (1 ≤ x.fr) && x.vo.xs.all Vote.may && x.mo.xs.all Motion.may && x.kn.xs.all Known.may && x.tx.xs.all Tx.may
set_option maxRecDepth 4000 in
set_option maxHeartbeats 3200000 in
theorem mayMessage_anyX (x : Message) (w : World) (g : goods w.heap.size w x.flds) (hn : wtL x.atoms ≤ 1099400000000) : Calls Tryz.prog 181 #[.agg #[.int .i64 x.fr, .int .i64 x.to, .int .i64 x.h, .slice x.vo.la x.vo.xs.length x.vo.lc, .slice x.mo.la x.mo.xs.length x.mo.lc, .slice x.kn.la x.kn.xs.length x.kn.lc, .slice x.tx.la x.tx.xs.length x.tx.lc]] w fun e w' => e = .returned (.bool x.may) ∧ Below w.heap.size w w' := by
 have bA : Below w.heap.size w (w.alloc (.cells #[.int .i64 x.fr, .int .i64 x.to, .int .i64 x.h, .slice x.vo.la x.vo.xs.length x.vo.lc, .slice x.mo.la x.mo.xs.length x.mo.lc, .slice x.kn.la x.kn.xs.length x.kn.lc, .slice x.tx.la x.tx.xs.length x.tx.lc] 148)) := (Below.refl _ _).alloc (Nat.le_refl _) _
 have kX := Blk.new w #[.int .i64 x.fr, .int .i64 x.to, .int .i64 x.h, .slice x.vo.la x.vo.xs.length x.vo.lc, .slice x.mo.la x.mo.xs.length x.mo.lc, .slice x.kn.la x.kn.xs.length x.kn.lc, .slice x.tx.la x.tx.xs.length x.tx.lc] 148
 have key1 : ∀ wv, Below w.heap.size w wv → Calls Tryz.prog 238 #[.slice x.vo.la x.vo.xs.length x.vo.lc, .func (.func 50) #[] #[]] wv fun e w' => e = .returned (.bool (x.vo.xs.all Vote.may)) ∧ Below wv.heap.size wv w' := fun wv hv => allVote_anyX wv.heap.size x.vo wv (Nat.le_refl _) (Lst.held (flds := Vote.flds) (l := x.vo) Vote.len (((g.below hv).mono hv.size).get 3 rfl))
 have key2 : ∀ wv, Below w.heap.size w wv → Calls Tryz.prog 239 #[.slice x.mo.la x.mo.xs.length x.mo.lc, .func (.func 240) #[] #[]] wv fun e w' => e = .returned (.bool (x.mo.xs.all Motion.may)) ∧ Below wv.heap.size wv w' := fun wv hv => allMotion_anyX wv.heap.size x.mo (x.wts hn).1 wv (Nat.le_refl _) (Lst.held (flds := Motion.flds) (l := x.mo) Motion.len (((g.below hv).mono hv.size).get 4 rfl))
 have key3 : ∀ wv, Below w.heap.size w wv → Calls Tryz.prog 241 #[.slice x.kn.la x.kn.xs.length x.kn.lc, .func (.func 242) #[] #[]] wv fun e w' => e = .returned (.bool (x.kn.xs.all Known.may)) ∧ Below wv.heap.size wv w' := fun wv hv => allKnown_anyX wv.heap.size x.kn (x.wts hn).2.1 wv (Nat.le_refl _) (Lst.held (flds := Known.flds) (l := x.kn) Known.len (((g.below hv).mono hv.size).get 5 rfl))
 have key4 : ∀ wv, Below w.heap.size w wv → Calls Tryz.prog 229 #[.slice x.tx.la x.tx.xs.length x.tx.lc, .func (.func 80) #[] #[]] wv fun e w' => e = .returned (.bool (x.tx.xs.all Tx.may)) ∧ Below wv.heap.size wv w' := fun wv hv => allTx_anyX wv.heap.size x.tx (x.wts hn).2.2 wv (Nat.le_refl _) (Lst.held (flds := Tx.flds) (l := x.tx) Tx.len (((g.below hv).mono hv.size).get 6 rfl))
 clear g hn
 go_enter Tryz.func181, Tryz.ntmps181
 by_cases c0 : 1 ≤ x.fr
 rotate_left
 ·have cd : decide (1 ≤ x.fr) = false := decide_eq_false c0
  go_wp2
  go_ret
  exact ⟨by unfold Message.may; rw [cd]; simp, bA⟩
 have H0 : Hid (decide (1 ≤ x.fr) = true) := decide_eq_true c0
 have cd0 : decide (1 ≤ x.fr) = true := decide_eq_true c0
 go_wp2_with fail
 refine (key1 _ bA).mono ?_
 rintro e w1 ⟨rfl, b1⟩
 have B1 := bA.trans (b1.mono bA.size)
 have k1 := kX.below b1 kX.lt
 cases hm1 : (x.vo.xs.all Vote.may)
 ·have Hf := show Hid (_ = _) from hm1
  clear hm1
  go_wp2
  go_ret
  exact ⟨by unfold Message.may; rw [Hf.out]; simp, B1⟩
 have H1 := show Hid (_ = _) from hm1
 clear hm1
 have q2_4 := k1.cell 4
 simp only [List.getElem?_toArray, List.getElem?_cons_succ, List.getElem?_cons_zero] at q2_4
 have hz2 := k1.lt
 go_wp2_with fail
 refine (key2 _ B1).mono ?_
 rintro e w2 ⟨rfl, b2⟩
 have B2 := B1.trans (b2.mono B1.size)
 have k2 := k1.below b2 k1.lt
 clear q2_4 hz2
 cases hm2 : (x.mo.xs.all Motion.may)
 ·have Hf := show Hid (_ = _) from hm2
  clear hm2
  go_wp2
  go_ret
  exact ⟨by unfold Message.may; rw [Hf.out]; simp, B2⟩
 have H2 := show Hid (_ = _) from hm2
 clear hm2
 have q3_5 := k2.cell 5
 simp only [List.getElem?_toArray, List.getElem?_cons_succ, List.getElem?_cons_zero] at q3_5
 have hz3 := k2.lt
 go_wp2_with fail
 refine (key3 _ B2).mono ?_
 rintro e w3 ⟨rfl, b3⟩
 have B3 := B2.trans (b3.mono B2.size)
 have k3 := k2.below b3 k2.lt
 clear q3_5 hz3
 cases hm3 : (x.kn.xs.all Known.may)
 ·have Hf := show Hid (_ = _) from hm3
  clear hm3
  go_wp2
  go_ret
  exact ⟨by unfold Message.may; rw [Hf.out]; simp, B3⟩
 have H3 := show Hid (_ = _) from hm3
 clear hm3
 have q4_6 := k3.cell 6
 simp only [List.getElem?_toArray, List.getElem?_cons_succ, List.getElem?_cons_zero] at q4_6
 have hz4 := k3.lt
 go_wp2_with fail
 refine (key4 _ B3).mono ?_
 rintro e w4 ⟨rfl, b4⟩
 have B4 := B3.trans (b4.mono B3.size)
 have k4 := k3.below b4 k3.lt
 clear q4_6 hz4
 go_wp2
 go_ret
 exact ⟨by unfold Message.may; rw [H0.out, H1.out, H2.out, H3.out]; simp, B4⟩
theorem Motion.odd_may (x : Motion) (h : okL x.atoms = true) : x.odd = !x.may := by
 simp only [Motion.atoms, okL_append, Bool.and_eq_true] at h
 have hb := okL_list h.2
 have h1 := h.1.1
 unfold Motion.odd Motion.may
 rw [x.bl.odd_may h.1.2, any_all fun y hy => Cert.odd_may y (hb.2 y hy)]
 by_cases hf : 1 ≤ x.fr
 ·have h2 : ¬ x.fr < 1 := by omega
  simp only [hf, h2, decide_true, decide_false]
  cases x.bl.may <;> simp
 ·have h2 : x.fr < 1 := by omega
  simp only [hf, h2, decide_true, decide_false]
  simp
theorem Known.odd_may (x : Known) (h : okL x.atoms = true) : x.odd = !x.may := by
 simp only [Known.atoms, okL_append, Bool.and_eq_true] at h
 unfold Known.odd Known.may
 rw [x.ce.odd_may h.1, x.bl.odd_may h.2]
 simp
theorem Message.odd_may (x : Message) (h : okL x.atoms = true) : x.odd = !x.may := by
 simp only [Message.atoms, okL_append, Bool.and_eq_true] at h
 have hv := okL_list h.1.1.1.2
 have hm := okL_list h.1.1.2
 have hk := okL_list h.1.2
 have ht := okL_list h.2
 unfold Message.odd Message.may
 rw [any_all fun y hy => Vote.odd_may y (hv.2 y hy), any_all fun y hy => Motion.odd_may y (hm.2 y hy), any_all fun y hy => Known.odd_may y (hk.2 y hy), any_all fun y hy => Tx.odd_may y (ht.2 y hy)]
 have e : decide (x.fr < 1) = !decide (1 ≤ x.fr) := by
  by_cases hf : 1 ≤ x.fr
  ·have h2 : ¬ x.fr < 1 := by omega
   simp [hf, h2]
  ·have h2 : x.fr < 1 := by omega
   simp [hf, h2]
 rw [e]
 generalize decide (1 ≤ x.fr) = b1
 generalize x.vo.xs.all Vote.may = b2
 generalize x.mo.xs.all Motion.may = b3
 generalize x.kn.xs.all Known.may = b4
 generalize x.tx.xs.all Tx.may = b5
 revert b1 b2 b3 b4 b5
 decide
set_option maxHeartbeats 1600000 in
theorem rputMessage_anyX (x : Message) (w : World) (hL : wtL x.atoms ≤ 1099400000000) (g : goods w.heap.size w x.flds) :
  Calls Tryz.prog 96 #[(.agg #[.int .i64 x.fr, .int .i64 x.to, .int .i64 x.h, .slice x.vo.la x.vo.xs.length x.vo.lc, .slice x.mo.la x.mo.xs.length x.mo.lc, .slice x.kn.la x.kn.xs.length x.kn.lc, .slice x.tx.la x.tx.xs.length x.tx.lc])] w fun e w' => e = .returned (.tuple #[.string ⟨(outB (encZL x.atoms) (!okL x.atoms) x.odd).toArray⟩, .int .i64 (outE (!okL x.atoms) x.odd)]) ∧ Below w.heap.size w w' := by
 have R0 : RefL ((w.alloc (.cells #[.int .i64 x.fr, .int .i64 x.to, .int .i64 x.h, .slice x.vo.la x.vo.xs.length x.vo.lc, .slice x.mo.la x.mo.xs.length x.mo.lc, .slice x.kn.la x.kn.xs.length x.kn.lc, .slice x.tx.la x.tx.xs.length x.tx.lc] 148)).alloc (.cells #[.string ⟨#[]⟩, .bool false, .bool false] 86)) (w.heap.size + 1) [] false := by
  have h := Blk.new (w.alloc (.cells #[.int .i64 x.fr, .int .i64 x.to, .int .i64 x.h, .slice x.vo.la x.vo.xs.length x.vo.lc, .slice x.mo.la x.mo.xs.length x.mo.lc, .slice x.kn.la x.kn.xs.length x.kn.lc, .slice x.tx.la x.tx.xs.length x.tx.lc] 148)) #[.string ⟨#[]⟩, .bool false, .bool false] 86
  rw [World.size_alloc] at h
  exact h
 have bA : Below w.heap.size w ((w.alloc (.cells #[.int .i64 x.fr, .int .i64 x.to, .int .i64 x.h, .slice x.vo.la x.vo.xs.length x.vo.lc, .slice x.mo.la x.mo.xs.length x.mo.lc, .slice x.kn.la x.kn.xs.length x.kn.lc, .slice x.tx.la x.tx.xs.length x.tx.lc] 148)).alloc (.cells #[.string ⟨#[]⟩, .bool false, .bool false] 86)) := ((Below.refl _ _).alloc (Nat.le_refl _) _).alloc (by simp) _
 have g1 := g.below bA
 clear g
 go_enter Tryz.func96, Tryz.ntmps96
 go_wp2_with fail
 refine (rmessage_anyX w.heap.size (w.heap.size + 1) x [] false _ (by omega) (by simp only [wtL]; omega) R0 g1).mono ?_
 rintro e w1 ⟨rfl, R1, k1⟩
 have R2 : RefAt w1 (w.heap.size + 1) (encZL x.atoms) (!okL x.atoms) x.odd := by
  have h := R1
  unfold RefL at h
  simpa using h
 have b1 := bA.trans k1.below
 clear R0 R1 g1
 go_wp2_with fail
 refine (rout_any (w.heap.size + 1) _ _ _ _ R2).mono ?_
 rintro e w2 ⟨rfl, b2⟩
 go_wp2
 go_ret2
 exact ⟨rfl, b1.trans (b2.mono b1.size)⟩
def Vote.no (x : Vote) : Bool := x.h == 0 && x.r == 0 && x.s == 0 && x.has == false && x.bl == 0 && x.f == 0
def Cert.no (x : Cert) : Bool := x.h == 0 && x.r == 0 && x.s == 0 && !x.has && x.bl == 0 && ((x.fr.xs.length : Int) == 0)
def Header.no (x : Header) : Bool := x.c == 0 && x.h == 0 && x.pa == 0 && x.tx == 0 && x.gu == 0 && x.st == 0 && x.re == 0 && x.be == 0 && x.pr == 0
def Block.no (x : Block) : Bool := x.hd.no && ((x.tx.xs.length : Int) == 0) && ((x.gu.xs.length : Int) == 0)
def Motion.no (x : Motion) : Bool := x.ro == 0 && x.fr == 0 && x.bl.no && ((x.ba.xs.length : Int) == 0)
def Known.no (x : Known) : Bool := x.ce.no && x.bl.no
set_option maxHeartbeats 1600000 in
theorem noVote_any (x : Vote) (w : World) : Calls Tryz.prog 251 #[.agg #[.int .i64 x.h, .int .i64 x.r, .int .i64 x.s, .bool x.has, .int .u64 x.bl, .int .i64 x.f]] w fun e w' => e = .returned (.bool x.no) ∧ Below w.heap.size w w' := by
 go_enter Tryz.func251, Tryz.ntmps251
 go_wp2
 all_goals (go_ret; exact ⟨by simp [Vote.no, *], (Below.refl _ _).alloc (Nat.le_refl _) _⟩)
set_option maxHeartbeats 1600000 in
theorem noCert_any (x : Cert) (w : World) : Calls Tryz.prog 272 #[.agg #[.int .i64 x.h, .int .i64 x.r, .int .i64 x.s, .bool x.has, .int .u64 x.bl, .slice x.fr.la x.fr.xs.length x.fr.lc]] w fun e w' => e = .returned (.bool x.no) ∧ Below w.heap.size w w' := by
 go_enter Tryz.func272, Tryz.ntmps272
 go_wp2
 all_goals (go_ret; exact ⟨by simp [Cert.no, *], (Below.refl _ _).alloc (Nat.le_refl _) _⟩)
set_option maxHeartbeats 1600000 in
theorem remptyCert_any (x : Cert) (w : World) : Calls Tryz.prog 254 #[.agg #[.int .i64 x.h, .int .i64 x.r, .int .i64 x.s, .bool x.has, .int .u64 x.bl, .slice x.fr.la x.fr.xs.length x.fr.lc]] w fun e w' => e = .returned (.bool x.no) ∧ Below w.heap.size w w' := by
 go_enter Tryz.func254, Tryz.ntmps254
 go_wp2
 all_goals (go_ret; exact ⟨by simp [Cert.no, *], (Below.refl _ _).alloc (Nat.le_refl _) _⟩)
set_option maxHeartbeats 1600000 in
theorem noBlock_any (x : Block) (w : World) : Calls Tryz.prog 271 #[.agg #[.int .i64 x.hd.c, .int .i64 x.hd.h, .int .u64 x.hd.pa, .int .u64 x.hd.tx, .int .u64 x.hd.gu, .int .u64 x.hd.st, .int .u64 x.hd.re, .int .u64 x.hd.be, .int .i64 x.hd.pr, .slice x.tx.la x.tx.xs.length x.tx.lc, .slice x.gu.la x.gu.xs.length x.gu.lc]] w fun e w' => e = .returned (.bool x.no) ∧ Below w.heap.size w w' := by
 go_enter Tryz.func271, Tryz.ntmps271
 go_wp2
 all_goals (go_ret; exact ⟨by simp [Block.no, Header.no, *], (Below.refl _ _).alloc (Nat.le_refl _) _⟩)
set_option maxHeartbeats 1600000 in
theorem remptyBlock_any (x : Block) (w : World) : Calls Tryz.prog 253 #[.agg #[.int .i64 x.hd.c, .int .i64 x.hd.h, .int .u64 x.hd.pa, .int .u64 x.hd.tx, .int .u64 x.hd.gu, .int .u64 x.hd.st, .int .u64 x.hd.re, .int .u64 x.hd.be, .int .i64 x.hd.pr, .slice x.tx.la x.tx.xs.length x.tx.lc, .slice x.gu.la x.gu.xs.length x.gu.lc]] w fun e w' => e = .returned (.bool x.no) ∧ Below w.heap.size w w' := by
 go_enter Tryz.func253, Tryz.ntmps253
 go_wp2
 all_goals (go_ret; exact ⟨by simp [Block.no, Header.no, *], (Below.refl _ _).alloc (Nat.le_refl _) _⟩)
set_option maxHeartbeats 1600000 in
theorem noMotion_any (x : Motion) (w : World) : Calls Tryz.prog 249 #[.agg #[.int .i64 x.ro, .int .i64 x.fr, .int .i64 x.bl.hd.c, .int .i64 x.bl.hd.h, .int .u64 x.bl.hd.pa, .int .u64 x.bl.hd.tx, .int .u64 x.bl.hd.gu, .int .u64 x.bl.hd.st, .int .u64 x.bl.hd.re, .int .u64 x.bl.hd.be, .int .i64 x.bl.hd.pr, .slice x.bl.tx.la x.bl.tx.xs.length x.bl.tx.lc, .slice x.bl.gu.la x.bl.gu.xs.length x.bl.gu.lc, .slice x.ba.la x.ba.xs.length x.ba.lc]] w fun e w' => e = .returned (.bool x.no) ∧ Below w.heap.size w w' := by
 have bA : Below w.heap.size w (w.alloc (.cells #[.int .i64 x.ro, .int .i64 x.fr, .int .i64 x.bl.hd.c, .int .i64 x.bl.hd.h, .int .u64 x.bl.hd.pa, .int .u64 x.bl.hd.tx, .int .u64 x.bl.hd.gu, .int .u64 x.bl.hd.st, .int .u64 x.bl.hd.re, .int .u64 x.bl.hd.be, .int .i64 x.bl.hd.pr, .slice x.bl.tx.la x.bl.tx.xs.length x.bl.tx.lc, .slice x.bl.gu.la x.bl.gu.xs.length x.bl.gu.lc, .slice x.ba.la x.ba.xs.length x.ba.lc] 154)) := (Below.refl _ _).alloc (Nat.le_refl _) _
 have kA := Blk.new w #[.int .i64 x.ro, .int .i64 x.fr, .int .i64 x.bl.hd.c, .int .i64 x.bl.hd.h, .int .u64 x.bl.hd.pa, .int .u64 x.bl.hd.tx, .int .u64 x.bl.hd.gu, .int .u64 x.bl.hd.st, .int .u64 x.bl.hd.re, .int .u64 x.bl.hd.be, .int .i64 x.bl.hd.pr, .slice x.bl.tx.la x.bl.tx.xs.length x.bl.tx.lc, .slice x.bl.gu.la x.bl.gu.xs.length x.bl.gu.lc, .slice x.ba.la x.ba.xs.length x.ba.lc] 154
 have key := noBlock_any x.bl (w.alloc (.cells #[.int .i64 x.ro, .int .i64 x.fr, .int .i64 x.bl.hd.c, .int .i64 x.bl.hd.h, .int .u64 x.bl.hd.pa, .int .u64 x.bl.hd.tx, .int .u64 x.bl.hd.gu, .int .u64 x.bl.hd.st, .int .u64 x.bl.hd.re, .int .u64 x.bl.hd.be, .int .i64 x.bl.hd.pr, .slice x.bl.tx.la x.bl.tx.xs.length x.bl.tx.lc, .slice x.bl.gu.la x.bl.gu.xs.length x.bl.gu.lc, .slice x.ba.la x.ba.xs.length x.ba.lc] 154))
 go_enter Tryz.func249, Tryz.ntmps249
 by_cases h1 : x.ro = 0
 rotate_left
 ·have d1 : (x.ro == 0) = false := by simp [h1]
  clear key kA
  go_wp2
  go_ret
  exact ⟨by simp [Motion.no, h1], bA⟩
 have d1 : (x.ro == 0) = true := by simp [h1]
 by_cases h2 : x.fr = 0
 rotate_left
 ·have d2 : (x.fr == 0) = false := by simp [h2]
  have HN : Hid (x.no = false) := by show _ = _; simp [Motion.no, h2]
  have H1 := show Hid (_ = _) from h1
  clear key kA h1
  go_wp2
  go_ret
  exact ⟨by rw [HN.out]; rfl, bA⟩
 have d2 : (x.fr == 0) = true := by simp [h2]
 have HN : Hid (x.no = (x.bl.no && ((x.ba.xs.length : Int) == 0))) := by show _ = _; simp [Motion.no, h1, h2]
 clear h1 h2
 go_wp2_with fail
 refine key.mono ?_
 rintro e w1 ⟨rfl, b1⟩
 have B1 := bA.trans (b1.mono bA.size)
 have k1 := kA.below b1 kA.lt
 have q13 := k1.cell 13
 simp only [List.getElem?_toArray, List.getElem?_cons_succ, List.getElem?_cons_zero] at q13
 have hz := k1.lt
 clear key kA
 cases hb : x.bl.no
 ·have HB := show Hid (_ = _) from hb
  clear hb
  go_wp2
  go_ret
  exact ⟨by rw [HN.out, HB.out]; rfl, B1⟩
 ·have HB := show Hid (_ = _) from hb
  clear hb
  go_wp2
  go_ret
  exact ⟨by rw [HN.out, HB.out]; simp, B1⟩
set_option maxHeartbeats 1600000 in
theorem noKnown_any (x : Known) (w : World) : Calls Tryz.prog 250 #[.agg #[.int .i64 x.ce.h, .int .i64 x.ce.r, .int .i64 x.ce.s, .bool x.ce.has, .int .u64 x.ce.bl, .slice x.ce.fr.la x.ce.fr.xs.length x.ce.fr.lc, .int .i64 x.bl.hd.c, .int .i64 x.bl.hd.h, .int .u64 x.bl.hd.pa, .int .u64 x.bl.hd.tx, .int .u64 x.bl.hd.gu, .int .u64 x.bl.hd.st, .int .u64 x.bl.hd.re, .int .u64 x.bl.hd.be, .int .i64 x.bl.hd.pr, .slice x.bl.tx.la x.bl.tx.xs.length x.bl.tx.lc, .slice x.bl.gu.la x.bl.gu.xs.length x.bl.gu.lc]] w fun e w' => e = .returned (.bool x.no) ∧ Below w.heap.size w w' := by
 have bA : Below w.heap.size w (w.alloc (.cells #[.int .i64 x.ce.h, .int .i64 x.ce.r, .int .i64 x.ce.s, .bool x.ce.has, .int .u64 x.ce.bl, .slice x.ce.fr.la x.ce.fr.xs.length x.ce.fr.lc, .int .i64 x.bl.hd.c, .int .i64 x.bl.hd.h, .int .u64 x.bl.hd.pa, .int .u64 x.bl.hd.tx, .int .u64 x.bl.hd.gu, .int .u64 x.bl.hd.st, .int .u64 x.bl.hd.re, .int .u64 x.bl.hd.be, .int .i64 x.bl.hd.pr, .slice x.bl.tx.la x.bl.tx.xs.length x.bl.tx.lc, .slice x.bl.gu.la x.bl.gu.xs.length x.bl.gu.lc] 156)) := (Below.refl _ _).alloc (Nat.le_refl _) _
 have kA := Blk.new w #[.int .i64 x.ce.h, .int .i64 x.ce.r, .int .i64 x.ce.s, .bool x.ce.has, .int .u64 x.ce.bl, .slice x.ce.fr.la x.ce.fr.xs.length x.ce.fr.lc, .int .i64 x.bl.hd.c, .int .i64 x.bl.hd.h, .int .u64 x.bl.hd.pa, .int .u64 x.bl.hd.tx, .int .u64 x.bl.hd.gu, .int .u64 x.bl.hd.st, .int .u64 x.bl.hd.re, .int .u64 x.bl.hd.be, .int .i64 x.bl.hd.pr, .slice x.bl.tx.la x.bl.tx.xs.length x.bl.tx.lc, .slice x.bl.gu.la x.bl.gu.xs.length x.bl.gu.lc] 156
 have key := noCert_any x.ce (w.alloc (.cells #[.int .i64 x.ce.h, .int .i64 x.ce.r, .int .i64 x.ce.s, .bool x.ce.has, .int .u64 x.ce.bl, .slice x.ce.fr.la x.ce.fr.xs.length x.ce.fr.lc, .int .i64 x.bl.hd.c, .int .i64 x.bl.hd.h, .int .u64 x.bl.hd.pa, .int .u64 x.bl.hd.tx, .int .u64 x.bl.hd.gu, .int .u64 x.bl.hd.st, .int .u64 x.bl.hd.re, .int .u64 x.bl.hd.be, .int .i64 x.bl.hd.pr, .slice x.bl.tx.la x.bl.tx.xs.length x.bl.tx.lc, .slice x.bl.gu.la x.bl.gu.xs.length x.bl.gu.lc] 156))
 go_enter Tryz.func250, Tryz.ntmps250
 go_wp2_with fail
 refine key.mono ?_
 rintro e w1 ⟨rfl, b1⟩
 have B1 := bA.trans (b1.mono bA.size)
 have k1 := kA.below b1 kA.lt
 clear key kA
 cases hc : x.ce.no
 ·have HN : Hid (x.no = false) := by show _ = _; simp [Known.no, hc]
  clear hc
  go_wp2
  go_ret
  exact ⟨by rw [HN.out]; rfl, B1⟩
 have HN : Hid (x.no = x.bl.no) := by show _ = _; simp [Known.no, hc]
 clear hc
 have q6 := k1.cell 6
 have q7 := k1.cell 7
 have q8 := k1.cell 8
 have q9 := k1.cell 9
 have q10 := k1.cell 10
 have q11 := k1.cell 11
 have q12 := k1.cell 12
 have q13 := k1.cell 13
 have q14 := k1.cell 14
 have q15 := k1.cell 15
 have q16 := k1.cell 16
 simp only [List.getElem?_toArray, List.getElem?_cons_succ, List.getElem?_cons_zero] at q6 q7 q8 q9 q10 q11 q12 q13 q14 q15 q16
 have hz := k1.lt
 have key := noBlock_any x.bl w1
 clear k1
 go_wp2_with fail
 refine key.mono ?_
 rintro e w2 ⟨rfl, b2⟩
 have B2 := B1.trans (b2.mono B1.size)
 clear key
 go_wp2
 go_ret
 exact ⟨by rw [HN.out]; rfl, B2⟩
end Go.Proofs.YtackcbpabjhmpaaGreat
