import Derived.Test.YtackcbpabjhmpaaGreatM32
namespace Go.Proofs.YtackcbpabjhmpaaGreat
open Go.RowKit
set_option linter.unusedVariables false
set_option linter.unusedSimpArgs false
def Record.may (x : Record) : Bool := if x.k = 1 then x.vo.may && x.mo.no && x.kn.no else if x.k = 2 then x.mo.may && x.vo.no && x.kn.no else if x.k = 3 ∨ x.k = 4 then x.kn.may && x.vo.no && x.mo.no else false
def Record.arr (x : Record) : Array Value := #[.int .i64 x.k, .int .i64 x.vo.h, .int .i64 x.vo.r, .int .i64 x.vo.s, .bool x.vo.has, .int .u64 x.vo.bl, .int .i64 x.vo.f, .int .i64 x.mo.ro, .int .i64 x.mo.fr, .int .i64 x.mo.bl.hd.c, .int .i64 x.mo.bl.hd.h, .int .u64 x.mo.bl.hd.pa, .int .u64 x.mo.bl.hd.tx, .int .u64 x.mo.bl.hd.gu, .int .u64 x.mo.bl.hd.st, .int .u64 x.mo.bl.hd.re, .int .u64 x.mo.bl.hd.be, .int .i64 x.mo.bl.hd.pr, .slice x.mo.bl.tx.la x.mo.bl.tx.xs.length x.mo.bl.tx.lc, .slice x.mo.bl.gu.la x.mo.bl.gu.xs.length x.mo.bl.gu.lc, .slice x.mo.ba.la x.mo.ba.xs.length x.mo.ba.lc, .int .i64 x.kn.ce.h, .int .i64 x.kn.ce.r, .int .i64 x.kn.ce.s, .bool x.kn.ce.has, .int .u64 x.kn.ce.bl, .slice x.kn.ce.fr.la x.kn.ce.fr.xs.length x.kn.ce.fr.lc, .int .i64 x.kn.bl.hd.c, .int .i64 x.kn.bl.hd.h, .int .u64 x.kn.bl.hd.pa, .int .u64 x.kn.bl.hd.tx, .int .u64 x.kn.bl.hd.gu, .int .u64 x.kn.bl.hd.st, .int .u64 x.kn.bl.hd.re, .int .u64 x.kn.bl.hd.be, .int .i64 x.kn.bl.hd.pr, .slice x.kn.bl.tx.la x.kn.bl.tx.xs.length x.kn.bl.tx.lc, .slice x.kn.bl.gu.la x.kn.bl.gu.xs.length x.kn.bl.gu.lc]
set_option maxRecDepth 4000 in
set_option maxHeartbeats 3200000 in
theorem mayRecord_w1 (x : Record) (k : Int) (hxk : x.k = k) (e1 : k = 1) (w : World) (g : goods w.heap.size w x.flds) (hm : wtL x.mo.atoms ≤ 1099400000000) (hk : wtL x.kn.atoms ≤ 1099400000000) : Calls Tryz.prog 187 #[.agg x.arr] w fun e w' => e = .returned (.bool x.may) ∧ Below w.heap.size w w' := by
 obtain ⟨C, HC⟩ : ∃ C, Hid (C = x.arr) := ⟨_, rfl⟩
 rw [← HC.out]
 have bA : Below w.heap.size w (w.alloc (.cells C 158)) := (Below.refl _ _).alloc (Nat.le_refl _) _
 have kX := Blk.new w C 158
 have gA := g.app.2
 have gv : ∀ y, Below w.heap.size w y → goods y.heap.size y x.vo.flds := fun y hy => (gA.app.1.below hy).mono hy.size
 have gm : ∀ y, Below w.heap.size w y → goods y.heap.size y x.mo.flds := fun y hy => (gA.app.2.app.1.below hy).mono hy.size
 have gk : ∀ y, Below w.heap.size w y → goods y.heap.size y x.kn.flds := fun y hy => (gA.app.2.app.2.below hy).mono hy.size
 have Hk := show Hid (_ = _) from hxk
 clear hxk g gA
 have q0 : (w.alloc (.cells C 158)).cell? ⟨w.heap.size, 0, none⟩ = some (.int .i64 k) := (kX.cell 0).trans (by rw [HC.out, ← Hk.out]; rfl)
 go_enter Tryz.func187, Tryz.ntmps187
 subst e1
 have HV : Hid (x.may = (x.vo.may && x.mo.no && x.kn.no)) := by show _ = _; simp [Record.may, Hk.out]
 have q1 : ((w.alloc (.cells C 158))).cell? ⟨w.heap.size, 1, none⟩ = some (.int .i64 x.vo.h) := (kX.cell 1).trans (by rw [HC.out]; rfl)
 have q2 : ((w.alloc (.cells C 158))).cell? ⟨w.heap.size, 2, none⟩ = some (.int .i64 x.vo.r) := (kX.cell 2).trans (by rw [HC.out]; rfl)
 have q3 : ((w.alloc (.cells C 158))).cell? ⟨w.heap.size, 3, none⟩ = some (.int .i64 x.vo.s) := (kX.cell 3).trans (by rw [HC.out]; rfl)
 have q4 : ((w.alloc (.cells C 158))).cell? ⟨w.heap.size, 4, none⟩ = some (.bool x.vo.has) := (kX.cell 4).trans (by rw [HC.out]; rfl)
 have q5 : ((w.alloc (.cells C 158))).cell? ⟨w.heap.size, 5, none⟩ = some (.int .u64 x.vo.bl) := (kX.cell 5).trans (by rw [HC.out]; rfl)
 have q6 : ((w.alloc (.cells C 158))).cell? ⟨w.heap.size, 6, none⟩ = some (.int .i64 x.vo.f) := (kX.cell 6).trans (by rw [HC.out]; rfl)
 have key0 := mayVote_anyX x.vo (w.alloc (.cells C 158)) (gv _ bA)
 go_wp2_with fail
 refine key0.mono ?_
 rintro e w1 ⟨rfl, b1'⟩
 have b1 := bA.trans (b1'.mono bA.size)
 have k1 := kX.below b1' kX.lt
 clear key0 q1 q2 q3 q4 q5 q6
 cases h0v : x.vo.may
 ·have HR : Hid (x.may = false) := by show _ = _; rw [HV.out]; simp [h0v]
  clear h0v
  go_wp2
  go_ret
  exact ⟨by rw [HR.out]; rfl, b1⟩
 have H0v := show Hid (_ = _) from h0v
 clear h0v
 have q7 : (w1).cell? ⟨w.heap.size, 7, none⟩ = some (.int .i64 x.mo.ro) := (k1.cell 7).trans (by rw [HC.out]; rfl)
 have q8 : (w1).cell? ⟨w.heap.size, 8, none⟩ = some (.int .i64 x.mo.fr) := (k1.cell 8).trans (by rw [HC.out]; rfl)
 have q9 : (w1).cell? ⟨w.heap.size, 9, none⟩ = some (.int .i64 x.mo.bl.hd.c) := (k1.cell 9).trans (by rw [HC.out]; rfl)
 have q10 : (w1).cell? ⟨w.heap.size, 10, none⟩ = some (.int .i64 x.mo.bl.hd.h) := (k1.cell 10).trans (by rw [HC.out]; rfl)
 have q11 : (w1).cell? ⟨w.heap.size, 11, none⟩ = some (.int .u64 x.mo.bl.hd.pa) := (k1.cell 11).trans (by rw [HC.out]; rfl)
 have q12 : (w1).cell? ⟨w.heap.size, 12, none⟩ = some (.int .u64 x.mo.bl.hd.tx) := (k1.cell 12).trans (by rw [HC.out]; rfl)
 have q13 : (w1).cell? ⟨w.heap.size, 13, none⟩ = some (.int .u64 x.mo.bl.hd.gu) := (k1.cell 13).trans (by rw [HC.out]; rfl)
 have q14 : (w1).cell? ⟨w.heap.size, 14, none⟩ = some (.int .u64 x.mo.bl.hd.st) := (k1.cell 14).trans (by rw [HC.out]; rfl)
 have q15 : (w1).cell? ⟨w.heap.size, 15, none⟩ = some (.int .u64 x.mo.bl.hd.re) := (k1.cell 15).trans (by rw [HC.out]; rfl)
 have q16 : (w1).cell? ⟨w.heap.size, 16, none⟩ = some (.int .u64 x.mo.bl.hd.be) := (k1.cell 16).trans (by rw [HC.out]; rfl)
 have q17 : (w1).cell? ⟨w.heap.size, 17, none⟩ = some (.int .i64 x.mo.bl.hd.pr) := (k1.cell 17).trans (by rw [HC.out]; rfl)
 have q18 : (w1).cell? ⟨w.heap.size, 18, none⟩ = some (.slice x.mo.bl.tx.la x.mo.bl.tx.xs.length x.mo.bl.tx.lc) := (k1.cell 18).trans (by rw [HC.out]; rfl)
 have q19 : (w1).cell? ⟨w.heap.size, 19, none⟩ = some (.slice x.mo.bl.gu.la x.mo.bl.gu.xs.length x.mo.bl.gu.lc) := (k1.cell 19).trans (by rw [HC.out]; rfl)
 have q20 : (w1).cell? ⟨w.heap.size, 20, none⟩ = some (.slice x.mo.ba.la x.mo.ba.xs.length x.mo.ba.lc) := (k1.cell 20).trans (by rw [HC.out]; rfl)
 have key1 := noMotion_any x.mo w1
 have hz1 := k1.lt
 go_wp2_with fail
 refine key1.mono ?_
 rintro e w2 ⟨rfl, b2'⟩
 have b2 := b1.trans (b2'.mono b1.size)
 have k2 := k1.below b2' k1.lt
 clear key1 q7 q8 q9 q10 q11 q12 q13 q14 q15 q16 q17 q18 q19 q20
 cases h1v : x.mo.no
 ·have HR : Hid (x.may = false) := by show _ = _; rw [HV.out]; simp [H0v.out, h1v]
  clear h1v
  go_wp2
  go_ret
  exact ⟨by rw [HR.out]; rfl, b2⟩
 have H1v := show Hid (_ = _) from h1v
 clear h1v
 have q21 : (w2).cell? ⟨w.heap.size, 21, none⟩ = some (.int .i64 x.kn.ce.h) := (k2.cell 21).trans (by rw [HC.out]; rfl)
 have q22 : (w2).cell? ⟨w.heap.size, 22, none⟩ = some (.int .i64 x.kn.ce.r) := (k2.cell 22).trans (by rw [HC.out]; rfl)
 have q23 : (w2).cell? ⟨w.heap.size, 23, none⟩ = some (.int .i64 x.kn.ce.s) := (k2.cell 23).trans (by rw [HC.out]; rfl)
 have q24 : (w2).cell? ⟨w.heap.size, 24, none⟩ = some (.bool x.kn.ce.has) := (k2.cell 24).trans (by rw [HC.out]; rfl)
 have q25 : (w2).cell? ⟨w.heap.size, 25, none⟩ = some (.int .u64 x.kn.ce.bl) := (k2.cell 25).trans (by rw [HC.out]; rfl)
 have q26 : (w2).cell? ⟨w.heap.size, 26, none⟩ = some (.slice x.kn.ce.fr.la x.kn.ce.fr.xs.length x.kn.ce.fr.lc) := (k2.cell 26).trans (by rw [HC.out]; rfl)
 have q27 : (w2).cell? ⟨w.heap.size, 27, none⟩ = some (.int .i64 x.kn.bl.hd.c) := (k2.cell 27).trans (by rw [HC.out]; rfl)
 have q28 : (w2).cell? ⟨w.heap.size, 28, none⟩ = some (.int .i64 x.kn.bl.hd.h) := (k2.cell 28).trans (by rw [HC.out]; rfl)
 have q29 : (w2).cell? ⟨w.heap.size, 29, none⟩ = some (.int .u64 x.kn.bl.hd.pa) := (k2.cell 29).trans (by rw [HC.out]; rfl)
 have q30 : (w2).cell? ⟨w.heap.size, 30, none⟩ = some (.int .u64 x.kn.bl.hd.tx) := (k2.cell 30).trans (by rw [HC.out]; rfl)
 have q31 : (w2).cell? ⟨w.heap.size, 31, none⟩ = some (.int .u64 x.kn.bl.hd.gu) := (k2.cell 31).trans (by rw [HC.out]; rfl)
 have q32 : (w2).cell? ⟨w.heap.size, 32, none⟩ = some (.int .u64 x.kn.bl.hd.st) := (k2.cell 32).trans (by rw [HC.out]; rfl)
 have q33 : (w2).cell? ⟨w.heap.size, 33, none⟩ = some (.int .u64 x.kn.bl.hd.re) := (k2.cell 33).trans (by rw [HC.out]; rfl)
 have q34 : (w2).cell? ⟨w.heap.size, 34, none⟩ = some (.int .u64 x.kn.bl.hd.be) := (k2.cell 34).trans (by rw [HC.out]; rfl)
 have q35 : (w2).cell? ⟨w.heap.size, 35, none⟩ = some (.int .i64 x.kn.bl.hd.pr) := (k2.cell 35).trans (by rw [HC.out]; rfl)
 have q36 : (w2).cell? ⟨w.heap.size, 36, none⟩ = some (.slice x.kn.bl.tx.la x.kn.bl.tx.xs.length x.kn.bl.tx.lc) := (k2.cell 36).trans (by rw [HC.out]; rfl)
 have q37 : (w2).cell? ⟨w.heap.size, 37, none⟩ = some (.slice x.kn.bl.gu.la x.kn.bl.gu.xs.length x.kn.bl.gu.lc) := (k2.cell 37).trans (by rw [HC.out]; rfl)
 have key2 := noKnown_any x.kn w2
 have hz2 := k2.lt
 go_wp2_with fail
 refine key2.mono ?_
 rintro e w3 ⟨rfl, b3'⟩
 have b3 := b2.trans (b3'.mono b2.size)
 have k3 := k2.below b3' k2.lt
 clear key2 q21 q22 q23 q24 q25 q26 q27 q28 q29 q30 q31 q32 q33 q34 q35 q36 q37
 have HR : Hid (x.may = x.kn.no) := by show _ = _; rw [HV.out, H0v.out, H1v.out]; rfl
 go_wp2
 go_ret
 exact ⟨by rw [HR.out]; rfl, b3⟩
set_option maxRecDepth 4000 in
set_option maxHeartbeats 3200000 in
theorem mayRecord_w2 (x : Record) (k : Int) (hxk : x.k = k) (e1 : k = 2) (w : World) (g : goods w.heap.size w x.flds) (hm : wtL x.mo.atoms ≤ 1099400000000) (hk : wtL x.kn.atoms ≤ 1099400000000) : Calls Tryz.prog 187 #[.agg x.arr] w fun e w' => e = .returned (.bool x.may) ∧ Below w.heap.size w w' := by
 obtain ⟨C, HC⟩ : ∃ C, Hid (C = x.arr) := ⟨_, rfl⟩
 rw [← HC.out]
 have bA : Below w.heap.size w (w.alloc (.cells C 158)) := (Below.refl _ _).alloc (Nat.le_refl _) _
 have kX := Blk.new w C 158
 have gA := g.app.2
 have gv : ∀ y, Below w.heap.size w y → goods y.heap.size y x.vo.flds := fun y hy => (gA.app.1.below hy).mono hy.size
 have gm : ∀ y, Below w.heap.size w y → goods y.heap.size y x.mo.flds := fun y hy => (gA.app.2.app.1.below hy).mono hy.size
 have gk : ∀ y, Below w.heap.size w y → goods y.heap.size y x.kn.flds := fun y hy => (gA.app.2.app.2.below hy).mono hy.size
 have Hk := show Hid (_ = _) from hxk
 clear hxk g gA
 have q0 : (w.alloc (.cells C 158)).cell? ⟨w.heap.size, 0, none⟩ = some (.int .i64 k) := (kX.cell 0).trans (by rw [HC.out, ← Hk.out]; rfl)
 go_enter Tryz.func187, Tryz.ntmps187
 subst e1
 have HV : Hid (x.may = (x.mo.may && x.vo.no && x.kn.no)) := by show _ = _; simp [Record.may, Hk.out]
 have q7 : ((w.alloc (.cells C 158))).cell? ⟨w.heap.size, 7, none⟩ = some (.int .i64 x.mo.ro) := (kX.cell 7).trans (by rw [HC.out]; rfl)
 have q8 : ((w.alloc (.cells C 158))).cell? ⟨w.heap.size, 8, none⟩ = some (.int .i64 x.mo.fr) := (kX.cell 8).trans (by rw [HC.out]; rfl)
 have q9 : ((w.alloc (.cells C 158))).cell? ⟨w.heap.size, 9, none⟩ = some (.int .i64 x.mo.bl.hd.c) := (kX.cell 9).trans (by rw [HC.out]; rfl)
 have q10 : ((w.alloc (.cells C 158))).cell? ⟨w.heap.size, 10, none⟩ = some (.int .i64 x.mo.bl.hd.h) := (kX.cell 10).trans (by rw [HC.out]; rfl)
 have q11 : ((w.alloc (.cells C 158))).cell? ⟨w.heap.size, 11, none⟩ = some (.int .u64 x.mo.bl.hd.pa) := (kX.cell 11).trans (by rw [HC.out]; rfl)
 have q12 : ((w.alloc (.cells C 158))).cell? ⟨w.heap.size, 12, none⟩ = some (.int .u64 x.mo.bl.hd.tx) := (kX.cell 12).trans (by rw [HC.out]; rfl)
 have q13 : ((w.alloc (.cells C 158))).cell? ⟨w.heap.size, 13, none⟩ = some (.int .u64 x.mo.bl.hd.gu) := (kX.cell 13).trans (by rw [HC.out]; rfl)
 have q14 : ((w.alloc (.cells C 158))).cell? ⟨w.heap.size, 14, none⟩ = some (.int .u64 x.mo.bl.hd.st) := (kX.cell 14).trans (by rw [HC.out]; rfl)
 have q15 : ((w.alloc (.cells C 158))).cell? ⟨w.heap.size, 15, none⟩ = some (.int .u64 x.mo.bl.hd.re) := (kX.cell 15).trans (by rw [HC.out]; rfl)
 have q16 : ((w.alloc (.cells C 158))).cell? ⟨w.heap.size, 16, none⟩ = some (.int .u64 x.mo.bl.hd.be) := (kX.cell 16).trans (by rw [HC.out]; rfl)
 have q17 : ((w.alloc (.cells C 158))).cell? ⟨w.heap.size, 17, none⟩ = some (.int .i64 x.mo.bl.hd.pr) := (kX.cell 17).trans (by rw [HC.out]; rfl)
 have q18 : ((w.alloc (.cells C 158))).cell? ⟨w.heap.size, 18, none⟩ = some (.slice x.mo.bl.tx.la x.mo.bl.tx.xs.length x.mo.bl.tx.lc) := (kX.cell 18).trans (by rw [HC.out]; rfl)
 have q19 : ((w.alloc (.cells C 158))).cell? ⟨w.heap.size, 19, none⟩ = some (.slice x.mo.bl.gu.la x.mo.bl.gu.xs.length x.mo.bl.gu.lc) := (kX.cell 19).trans (by rw [HC.out]; rfl)
 have q20 : ((w.alloc (.cells C 158))).cell? ⟨w.heap.size, 20, none⟩ = some (.slice x.mo.ba.la x.mo.ba.xs.length x.mo.ba.lc) := (kX.cell 20).trans (by rw [HC.out]; rfl)
 have key0 := mayMotion_anyX x.mo (w.alloc (.cells C 158)) (gm _ bA) hm
 go_wp2_with fail
 refine key0.mono ?_
 rintro e w1 ⟨rfl, b1'⟩
 have b1 := bA.trans (b1'.mono bA.size)
 have k1 := kX.below b1' kX.lt
 clear key0 q7 q8 q9 q10 q11 q12 q13 q14 q15 q16 q17 q18 q19 q20
 cases h0v : x.mo.may
 ·have HR : Hid (x.may = false) := by show _ = _; rw [HV.out]; simp [h0v]
  clear h0v
  go_wp2
  go_ret
  exact ⟨by rw [HR.out]; rfl, b1⟩
 have H0v := show Hid (_ = _) from h0v
 clear h0v
 have q1 : (w1).cell? ⟨w.heap.size, 1, none⟩ = some (.int .i64 x.vo.h) := (k1.cell 1).trans (by rw [HC.out]; rfl)
 have q2 : (w1).cell? ⟨w.heap.size, 2, none⟩ = some (.int .i64 x.vo.r) := (k1.cell 2).trans (by rw [HC.out]; rfl)
 have q3 : (w1).cell? ⟨w.heap.size, 3, none⟩ = some (.int .i64 x.vo.s) := (k1.cell 3).trans (by rw [HC.out]; rfl)
 have q4 : (w1).cell? ⟨w.heap.size, 4, none⟩ = some (.bool x.vo.has) := (k1.cell 4).trans (by rw [HC.out]; rfl)
 have q5 : (w1).cell? ⟨w.heap.size, 5, none⟩ = some (.int .u64 x.vo.bl) := (k1.cell 5).trans (by rw [HC.out]; rfl)
 have q6 : (w1).cell? ⟨w.heap.size, 6, none⟩ = some (.int .i64 x.vo.f) := (k1.cell 6).trans (by rw [HC.out]; rfl)
 have key1 := noVote_any x.vo w1
 have hz1 := k1.lt
 go_wp2_with fail
 refine key1.mono ?_
 rintro e w2 ⟨rfl, b2'⟩
 have b2 := b1.trans (b2'.mono b1.size)
 have k2 := k1.below b2' k1.lt
 clear key1 q1 q2 q3 q4 q5 q6
 cases h1v : x.vo.no
 ·have HR : Hid (x.may = false) := by show _ = _; rw [HV.out]; simp [H0v.out, h1v]
  clear h1v
  go_wp2
  go_ret
  exact ⟨by rw [HR.out]; rfl, b2⟩
 have H1v := show Hid (_ = _) from h1v
 clear h1v
 have q21 : (w2).cell? ⟨w.heap.size, 21, none⟩ = some (.int .i64 x.kn.ce.h) := (k2.cell 21).trans (by rw [HC.out]; rfl)
 have q22 : (w2).cell? ⟨w.heap.size, 22, none⟩ = some (.int .i64 x.kn.ce.r) := (k2.cell 22).trans (by rw [HC.out]; rfl)
 have q23 : (w2).cell? ⟨w.heap.size, 23, none⟩ = some (.int .i64 x.kn.ce.s) := (k2.cell 23).trans (by rw [HC.out]; rfl)
 have q24 : (w2).cell? ⟨w.heap.size, 24, none⟩ = some (.bool x.kn.ce.has) := (k2.cell 24).trans (by rw [HC.out]; rfl)
 have q25 : (w2).cell? ⟨w.heap.size, 25, none⟩ = some (.int .u64 x.kn.ce.bl) := (k2.cell 25).trans (by rw [HC.out]; rfl)
 have q26 : (w2).cell? ⟨w.heap.size, 26, none⟩ = some (.slice x.kn.ce.fr.la x.kn.ce.fr.xs.length x.kn.ce.fr.lc) := (k2.cell 26).trans (by rw [HC.out]; rfl)
 have q27 : (w2).cell? ⟨w.heap.size, 27, none⟩ = some (.int .i64 x.kn.bl.hd.c) := (k2.cell 27).trans (by rw [HC.out]; rfl)
 have q28 : (w2).cell? ⟨w.heap.size, 28, none⟩ = some (.int .i64 x.kn.bl.hd.h) := (k2.cell 28).trans (by rw [HC.out]; rfl)
 have q29 : (w2).cell? ⟨w.heap.size, 29, none⟩ = some (.int .u64 x.kn.bl.hd.pa) := (k2.cell 29).trans (by rw [HC.out]; rfl)
 have q30 : (w2).cell? ⟨w.heap.size, 30, none⟩ = some (.int .u64 x.kn.bl.hd.tx) := (k2.cell 30).trans (by rw [HC.out]; rfl)
 have q31 : (w2).cell? ⟨w.heap.size, 31, none⟩ = some (.int .u64 x.kn.bl.hd.gu) := (k2.cell 31).trans (by rw [HC.out]; rfl)
 have q32 : (w2).cell? ⟨w.heap.size, 32, none⟩ = some (.int .u64 x.kn.bl.hd.st) := (k2.cell 32).trans (by rw [HC.out]; rfl)
 have q33 : (w2).cell? ⟨w.heap.size, 33, none⟩ = some (.int .u64 x.kn.bl.hd.re) := (k2.cell 33).trans (by rw [HC.out]; rfl)
 have q34 : (w2).cell? ⟨w.heap.size, 34, none⟩ = some (.int .u64 x.kn.bl.hd.be) := (k2.cell 34).trans (by rw [HC.out]; rfl)
 have q35 : (w2).cell? ⟨w.heap.size, 35, none⟩ = some (.int .i64 x.kn.bl.hd.pr) := (k2.cell 35).trans (by rw [HC.out]; rfl)
 have q36 : (w2).cell? ⟨w.heap.size, 36, none⟩ = some (.slice x.kn.bl.tx.la x.kn.bl.tx.xs.length x.kn.bl.tx.lc) := (k2.cell 36).trans (by rw [HC.out]; rfl)
 have q37 : (w2).cell? ⟨w.heap.size, 37, none⟩ = some (.slice x.kn.bl.gu.la x.kn.bl.gu.xs.length x.kn.bl.gu.lc) := (k2.cell 37).trans (by rw [HC.out]; rfl)
 have key2 := noKnown_any x.kn w2
 have hz2 := k2.lt
 go_wp2_with fail
 refine key2.mono ?_
 rintro e w3 ⟨rfl, b3'⟩
 have b3 := b2.trans (b3'.mono b2.size)
 have k3 := k2.below b3' k2.lt
 clear key2 q21 q22 q23 q24 q25 q26 q27 q28 q29 q30 q31 q32 q33 q34 q35 q36 q37
 have HR : Hid (x.may = x.kn.no) := by show _ = _; rw [HV.out, H0v.out, H1v.out]; rfl
 go_wp2
 go_ret
 exact ⟨by rw [HR.out]; rfl, b3⟩
set_option maxRecDepth 4000 in
set_option maxHeartbeats 3200000 in
theorem mayRecord_w3 (x : Record) (k : Int) (hxk : x.k = k) (e1 : k = 3) (w : World) (g : goods w.heap.size w x.flds) (hm : wtL x.mo.atoms ≤ 1099400000000) (hk : wtL x.kn.atoms ≤ 1099400000000) : Calls Tryz.prog 187 #[.agg x.arr] w fun e w' => e = .returned (.bool x.may) ∧ Below w.heap.size w w' := by
 obtain ⟨C, HC⟩ : ∃ C, Hid (C = x.arr) := ⟨_, rfl⟩
 rw [← HC.out]
 have bA : Below w.heap.size w (w.alloc (.cells C 158)) := (Below.refl _ _).alloc (Nat.le_refl _) _
 have kX := Blk.new w C 158
 have gA := g.app.2
 have gv : ∀ y, Below w.heap.size w y → goods y.heap.size y x.vo.flds := fun y hy => (gA.app.1.below hy).mono hy.size
 have gm : ∀ y, Below w.heap.size w y → goods y.heap.size y x.mo.flds := fun y hy => (gA.app.2.app.1.below hy).mono hy.size
 have gk : ∀ y, Below w.heap.size w y → goods y.heap.size y x.kn.flds := fun y hy => (gA.app.2.app.2.below hy).mono hy.size
 have Hk := show Hid (_ = _) from hxk
 clear hxk g gA
 have q0 : (w.alloc (.cells C 158)).cell? ⟨w.heap.size, 0, none⟩ = some (.int .i64 k) := (kX.cell 0).trans (by rw [HC.out, ← Hk.out]; rfl)
 go_enter Tryz.func187, Tryz.ntmps187
 subst e1
 have HV : Hid (x.may = (x.kn.may && x.vo.no && x.mo.no)) := by show _ = _; simp [Record.may, Hk.out]
 have q21 : ((w.alloc (.cells C 158))).cell? ⟨w.heap.size, 21, none⟩ = some (.int .i64 x.kn.ce.h) := (kX.cell 21).trans (by rw [HC.out]; rfl)
 have q22 : ((w.alloc (.cells C 158))).cell? ⟨w.heap.size, 22, none⟩ = some (.int .i64 x.kn.ce.r) := (kX.cell 22).trans (by rw [HC.out]; rfl)
 have q23 : ((w.alloc (.cells C 158))).cell? ⟨w.heap.size, 23, none⟩ = some (.int .i64 x.kn.ce.s) := (kX.cell 23).trans (by rw [HC.out]; rfl)
 have q24 : ((w.alloc (.cells C 158))).cell? ⟨w.heap.size, 24, none⟩ = some (.bool x.kn.ce.has) := (kX.cell 24).trans (by rw [HC.out]; rfl)
 have q25 : ((w.alloc (.cells C 158))).cell? ⟨w.heap.size, 25, none⟩ = some (.int .u64 x.kn.ce.bl) := (kX.cell 25).trans (by rw [HC.out]; rfl)
 have q26 : ((w.alloc (.cells C 158))).cell? ⟨w.heap.size, 26, none⟩ = some (.slice x.kn.ce.fr.la x.kn.ce.fr.xs.length x.kn.ce.fr.lc) := (kX.cell 26).trans (by rw [HC.out]; rfl)
 have q27 : ((w.alloc (.cells C 158))).cell? ⟨w.heap.size, 27, none⟩ = some (.int .i64 x.kn.bl.hd.c) := (kX.cell 27).trans (by rw [HC.out]; rfl)
 have q28 : ((w.alloc (.cells C 158))).cell? ⟨w.heap.size, 28, none⟩ = some (.int .i64 x.kn.bl.hd.h) := (kX.cell 28).trans (by rw [HC.out]; rfl)
 have q29 : ((w.alloc (.cells C 158))).cell? ⟨w.heap.size, 29, none⟩ = some (.int .u64 x.kn.bl.hd.pa) := (kX.cell 29).trans (by rw [HC.out]; rfl)
 have q30 : ((w.alloc (.cells C 158))).cell? ⟨w.heap.size, 30, none⟩ = some (.int .u64 x.kn.bl.hd.tx) := (kX.cell 30).trans (by rw [HC.out]; rfl)
 have q31 : ((w.alloc (.cells C 158))).cell? ⟨w.heap.size, 31, none⟩ = some (.int .u64 x.kn.bl.hd.gu) := (kX.cell 31).trans (by rw [HC.out]; rfl)
 have q32 : ((w.alloc (.cells C 158))).cell? ⟨w.heap.size, 32, none⟩ = some (.int .u64 x.kn.bl.hd.st) := (kX.cell 32).trans (by rw [HC.out]; rfl)
 have q33 : ((w.alloc (.cells C 158))).cell? ⟨w.heap.size, 33, none⟩ = some (.int .u64 x.kn.bl.hd.re) := (kX.cell 33).trans (by rw [HC.out]; rfl)
 have q34 : ((w.alloc (.cells C 158))).cell? ⟨w.heap.size, 34, none⟩ = some (.int .u64 x.kn.bl.hd.be) := (kX.cell 34).trans (by rw [HC.out]; rfl)
 have q35 : ((w.alloc (.cells C 158))).cell? ⟨w.heap.size, 35, none⟩ = some (.int .i64 x.kn.bl.hd.pr) := (kX.cell 35).trans (by rw [HC.out]; rfl)
 have q36 : ((w.alloc (.cells C 158))).cell? ⟨w.heap.size, 36, none⟩ = some (.slice x.kn.bl.tx.la x.kn.bl.tx.xs.length x.kn.bl.tx.lc) := (kX.cell 36).trans (by rw [HC.out]; rfl)
 have q37 : ((w.alloc (.cells C 158))).cell? ⟨w.heap.size, 37, none⟩ = some (.slice x.kn.bl.gu.la x.kn.bl.gu.xs.length x.kn.bl.gu.lc) := (kX.cell 37).trans (by rw [HC.out]; rfl)
 have key0 := mayKnown_anyX x.kn (w.alloc (.cells C 158)) (gk _ bA) hk
 go_wp2_with fail
 refine key0.mono ?_
 rintro e w1 ⟨rfl, b1'⟩
 have b1 := bA.trans (b1'.mono bA.size)
 have k1 := kX.below b1' kX.lt
 clear key0 q21 q22 q23 q24 q25 q26 q27 q28 q29 q30 q31 q32 q33 q34 q35 q36 q37
 cases h0v : x.kn.may
 ·have HR : Hid (x.may = false) := by show _ = _; rw [HV.out]; simp [h0v]
  clear h0v
  go_wp2
  go_ret
  exact ⟨by rw [HR.out]; rfl, b1⟩
 have H0v := show Hid (_ = _) from h0v
 clear h0v
 have q1 : (w1).cell? ⟨w.heap.size, 1, none⟩ = some (.int .i64 x.vo.h) := (k1.cell 1).trans (by rw [HC.out]; rfl)
 have q2 : (w1).cell? ⟨w.heap.size, 2, none⟩ = some (.int .i64 x.vo.r) := (k1.cell 2).trans (by rw [HC.out]; rfl)
 have q3 : (w1).cell? ⟨w.heap.size, 3, none⟩ = some (.int .i64 x.vo.s) := (k1.cell 3).trans (by rw [HC.out]; rfl)
 have q4 : (w1).cell? ⟨w.heap.size, 4, none⟩ = some (.bool x.vo.has) := (k1.cell 4).trans (by rw [HC.out]; rfl)
 have q5 : (w1).cell? ⟨w.heap.size, 5, none⟩ = some (.int .u64 x.vo.bl) := (k1.cell 5).trans (by rw [HC.out]; rfl)
 have q6 : (w1).cell? ⟨w.heap.size, 6, none⟩ = some (.int .i64 x.vo.f) := (k1.cell 6).trans (by rw [HC.out]; rfl)
 have key1 := noVote_any x.vo w1
 have hz1 := k1.lt
 go_wp2_with fail
 refine key1.mono ?_
 rintro e w2 ⟨rfl, b2'⟩
 have b2 := b1.trans (b2'.mono b1.size)
 have k2 := k1.below b2' k1.lt
 clear key1 q1 q2 q3 q4 q5 q6
 cases h1v : x.vo.no
 ·have HR : Hid (x.may = false) := by show _ = _; rw [HV.out]; simp [H0v.out, h1v]
  clear h1v
  go_wp2
  go_ret
  exact ⟨by rw [HR.out]; rfl, b2⟩
 have H1v := show Hid (_ = _) from h1v
 clear h1v
 have q7 : (w2).cell? ⟨w.heap.size, 7, none⟩ = some (.int .i64 x.mo.ro) := (k2.cell 7).trans (by rw [HC.out]; rfl)
 have q8 : (w2).cell? ⟨w.heap.size, 8, none⟩ = some (.int .i64 x.mo.fr) := (k2.cell 8).trans (by rw [HC.out]; rfl)
 have q9 : (w2).cell? ⟨w.heap.size, 9, none⟩ = some (.int .i64 x.mo.bl.hd.c) := (k2.cell 9).trans (by rw [HC.out]; rfl)
 have q10 : (w2).cell? ⟨w.heap.size, 10, none⟩ = some (.int .i64 x.mo.bl.hd.h) := (k2.cell 10).trans (by rw [HC.out]; rfl)
 have q11 : (w2).cell? ⟨w.heap.size, 11, none⟩ = some (.int .u64 x.mo.bl.hd.pa) := (k2.cell 11).trans (by rw [HC.out]; rfl)
 have q12 : (w2).cell? ⟨w.heap.size, 12, none⟩ = some (.int .u64 x.mo.bl.hd.tx) := (k2.cell 12).trans (by rw [HC.out]; rfl)
 have q13 : (w2).cell? ⟨w.heap.size, 13, none⟩ = some (.int .u64 x.mo.bl.hd.gu) := (k2.cell 13).trans (by rw [HC.out]; rfl)
 have q14 : (w2).cell? ⟨w.heap.size, 14, none⟩ = some (.int .u64 x.mo.bl.hd.st) := (k2.cell 14).trans (by rw [HC.out]; rfl)
 have q15 : (w2).cell? ⟨w.heap.size, 15, none⟩ = some (.int .u64 x.mo.bl.hd.re) := (k2.cell 15).trans (by rw [HC.out]; rfl)
 have q16 : (w2).cell? ⟨w.heap.size, 16, none⟩ = some (.int .u64 x.mo.bl.hd.be) := (k2.cell 16).trans (by rw [HC.out]; rfl)
 have q17 : (w2).cell? ⟨w.heap.size, 17, none⟩ = some (.int .i64 x.mo.bl.hd.pr) := (k2.cell 17).trans (by rw [HC.out]; rfl)
 have q18 : (w2).cell? ⟨w.heap.size, 18, none⟩ = some (.slice x.mo.bl.tx.la x.mo.bl.tx.xs.length x.mo.bl.tx.lc) := (k2.cell 18).trans (by rw [HC.out]; rfl)
 have q19 : (w2).cell? ⟨w.heap.size, 19, none⟩ = some (.slice x.mo.bl.gu.la x.mo.bl.gu.xs.length x.mo.bl.gu.lc) := (k2.cell 19).trans (by rw [HC.out]; rfl)
 have q20 : (w2).cell? ⟨w.heap.size, 20, none⟩ = some (.slice x.mo.ba.la x.mo.ba.xs.length x.mo.ba.lc) := (k2.cell 20).trans (by rw [HC.out]; rfl)
 have key2 := noMotion_any x.mo w2
 have hz2 := k2.lt
 go_wp2_with fail
 refine key2.mono ?_
 rintro e w3 ⟨rfl, b3'⟩
 have b3 := b2.trans (b3'.mono b2.size)
 have k3 := k2.below b3' k2.lt
 clear key2 q7 q8 q9 q10 q11 q12 q13 q14 q15 q16 q17 q18 q19 q20
 have HR : Hid (x.may = x.mo.no) := by show _ = _; rw [HV.out, H0v.out, H1v.out]; rfl
 go_wp2
 go_ret
 exact ⟨by rw [HR.out]; rfl, b3⟩
set_option maxRecDepth 4000 in
set_option maxHeartbeats 3200000 in
theorem mayRecord_w4 (x : Record) (k : Int) (hxk : x.k = k) (e1 : k = 4) (w : World) (g : goods w.heap.size w x.flds) (hm : wtL x.mo.atoms ≤ 1099400000000) (hk : wtL x.kn.atoms ≤ 1099400000000) : Calls Tryz.prog 187 #[.agg x.arr] w fun e w' => e = .returned (.bool x.may) ∧ Below w.heap.size w w' := by
 obtain ⟨C, HC⟩ : ∃ C, Hid (C = x.arr) := ⟨_, rfl⟩
 rw [← HC.out]
 have bA : Below w.heap.size w (w.alloc (.cells C 158)) := (Below.refl _ _).alloc (Nat.le_refl _) _
 have kX := Blk.new w C 158
 have gA := g.app.2
 have gv : ∀ y, Below w.heap.size w y → goods y.heap.size y x.vo.flds := fun y hy => (gA.app.1.below hy).mono hy.size
 have gm : ∀ y, Below w.heap.size w y → goods y.heap.size y x.mo.flds := fun y hy => (gA.app.2.app.1.below hy).mono hy.size
 have gk : ∀ y, Below w.heap.size w y → goods y.heap.size y x.kn.flds := fun y hy => (gA.app.2.app.2.below hy).mono hy.size
 have Hk := show Hid (_ = _) from hxk
 clear hxk g gA
 have q0 : (w.alloc (.cells C 158)).cell? ⟨w.heap.size, 0, none⟩ = some (.int .i64 k) := (kX.cell 0).trans (by rw [HC.out, ← Hk.out]; rfl)
 go_enter Tryz.func187, Tryz.ntmps187
 subst e1
 have HV : Hid (x.may = (x.kn.may && x.vo.no && x.mo.no)) := by show _ = _; simp [Record.may, Hk.out]
 have q21 : ((w.alloc (.cells C 158))).cell? ⟨w.heap.size, 21, none⟩ = some (.int .i64 x.kn.ce.h) := (kX.cell 21).trans (by rw [HC.out]; rfl)
 have q22 : ((w.alloc (.cells C 158))).cell? ⟨w.heap.size, 22, none⟩ = some (.int .i64 x.kn.ce.r) := (kX.cell 22).trans (by rw [HC.out]; rfl)
 have q23 : ((w.alloc (.cells C 158))).cell? ⟨w.heap.size, 23, none⟩ = some (.int .i64 x.kn.ce.s) := (kX.cell 23).trans (by rw [HC.out]; rfl)
 have q24 : ((w.alloc (.cells C 158))).cell? ⟨w.heap.size, 24, none⟩ = some (.bool x.kn.ce.has) := (kX.cell 24).trans (by rw [HC.out]; rfl)
 have q25 : ((w.alloc (.cells C 158))).cell? ⟨w.heap.size, 25, none⟩ = some (.int .u64 x.kn.ce.bl) := (kX.cell 25).trans (by rw [HC.out]; rfl)
 have q26 : ((w.alloc (.cells C 158))).cell? ⟨w.heap.size, 26, none⟩ = some (.slice x.kn.ce.fr.la x.kn.ce.fr.xs.length x.kn.ce.fr.lc) := (kX.cell 26).trans (by rw [HC.out]; rfl)
 have q27 : ((w.alloc (.cells C 158))).cell? ⟨w.heap.size, 27, none⟩ = some (.int .i64 x.kn.bl.hd.c) := (kX.cell 27).trans (by rw [HC.out]; rfl)
 have q28 : ((w.alloc (.cells C 158))).cell? ⟨w.heap.size, 28, none⟩ = some (.int .i64 x.kn.bl.hd.h) := (kX.cell 28).trans (by rw [HC.out]; rfl)
 have q29 : ((w.alloc (.cells C 158))).cell? ⟨w.heap.size, 29, none⟩ = some (.int .u64 x.kn.bl.hd.pa) := (kX.cell 29).trans (by rw [HC.out]; rfl)
 have q30 : ((w.alloc (.cells C 158))).cell? ⟨w.heap.size, 30, none⟩ = some (.int .u64 x.kn.bl.hd.tx) := (kX.cell 30).trans (by rw [HC.out]; rfl)
 have q31 : ((w.alloc (.cells C 158))).cell? ⟨w.heap.size, 31, none⟩ = some (.int .u64 x.kn.bl.hd.gu) := (kX.cell 31).trans (by rw [HC.out]; rfl)
 have q32 : ((w.alloc (.cells C 158))).cell? ⟨w.heap.size, 32, none⟩ = some (.int .u64 x.kn.bl.hd.st) := (kX.cell 32).trans (by rw [HC.out]; rfl)
 have q33 : ((w.alloc (.cells C 158))).cell? ⟨w.heap.size, 33, none⟩ = some (.int .u64 x.kn.bl.hd.re) := (kX.cell 33).trans (by rw [HC.out]; rfl)
 have q34 : ((w.alloc (.cells C 158))).cell? ⟨w.heap.size, 34, none⟩ = some (.int .u64 x.kn.bl.hd.be) := (kX.cell 34).trans (by rw [HC.out]; rfl)
 have q35 : ((w.alloc (.cells C 158))).cell? ⟨w.heap.size, 35, none⟩ = some (.int .i64 x.kn.bl.hd.pr) := (kX.cell 35).trans (by rw [HC.out]; rfl)
 have q36 : ((w.alloc (.cells C 158))).cell? ⟨w.heap.size, 36, none⟩ = some (.slice x.kn.bl.tx.la x.kn.bl.tx.xs.length x.kn.bl.tx.lc) := (kX.cell 36).trans (by rw [HC.out]; rfl)
 have q37 : ((w.alloc (.cells C 158))).cell? ⟨w.heap.size, 37, none⟩ = some (.slice x.kn.bl.gu.la x.kn.bl.gu.xs.length x.kn.bl.gu.lc) := (kX.cell 37).trans (by rw [HC.out]; rfl)
 have key0 := mayKnown_anyX x.kn (w.alloc (.cells C 158)) (gk _ bA) hk
 go_wp2_with fail
 refine key0.mono ?_
 rintro e w1 ⟨rfl, b1'⟩
 have b1 := bA.trans (b1'.mono bA.size)
 have k1 := kX.below b1' kX.lt
 clear key0 q21 q22 q23 q24 q25 q26 q27 q28 q29 q30 q31 q32 q33 q34 q35 q36 q37
 cases h0v : x.kn.may
 ·have HR : Hid (x.may = false) := by show _ = _; rw [HV.out]; simp [h0v]
  clear h0v
  go_wp2
  go_ret
  exact ⟨by rw [HR.out]; rfl, b1⟩
 have H0v := show Hid (_ = _) from h0v
 clear h0v
 have q1 : (w1).cell? ⟨w.heap.size, 1, none⟩ = some (.int .i64 x.vo.h) := (k1.cell 1).trans (by rw [HC.out]; rfl)
 have q2 : (w1).cell? ⟨w.heap.size, 2, none⟩ = some (.int .i64 x.vo.r) := (k1.cell 2).trans (by rw [HC.out]; rfl)
 have q3 : (w1).cell? ⟨w.heap.size, 3, none⟩ = some (.int .i64 x.vo.s) := (k1.cell 3).trans (by rw [HC.out]; rfl)
 have q4 : (w1).cell? ⟨w.heap.size, 4, none⟩ = some (.bool x.vo.has) := (k1.cell 4).trans (by rw [HC.out]; rfl)
 have q5 : (w1).cell? ⟨w.heap.size, 5, none⟩ = some (.int .u64 x.vo.bl) := (k1.cell 5).trans (by rw [HC.out]; rfl)
 have q6 : (w1).cell? ⟨w.heap.size, 6, none⟩ = some (.int .i64 x.vo.f) := (k1.cell 6).trans (by rw [HC.out]; rfl)
 have key1 := noVote_any x.vo w1
 have hz1 := k1.lt
 go_wp2_with fail
 refine key1.mono ?_
 rintro e w2 ⟨rfl, b2'⟩
 have b2 := b1.trans (b2'.mono b1.size)
 have k2 := k1.below b2' k1.lt
 clear key1 q1 q2 q3 q4 q5 q6
 cases h1v : x.vo.no
 ·have HR : Hid (x.may = false) := by show _ = _; rw [HV.out]; simp [H0v.out, h1v]
  clear h1v
  go_wp2
  go_ret
  exact ⟨by rw [HR.out]; rfl, b2⟩
 have H1v := show Hid (_ = _) from h1v
 clear h1v
 have q7 : (w2).cell? ⟨w.heap.size, 7, none⟩ = some (.int .i64 x.mo.ro) := (k2.cell 7).trans (by rw [HC.out]; rfl)
 have q8 : (w2).cell? ⟨w.heap.size, 8, none⟩ = some (.int .i64 x.mo.fr) := (k2.cell 8).trans (by rw [HC.out]; rfl)
 have q9 : (w2).cell? ⟨w.heap.size, 9, none⟩ = some (.int .i64 x.mo.bl.hd.c) := (k2.cell 9).trans (by rw [HC.out]; rfl)
 have q10 : (w2).cell? ⟨w.heap.size, 10, none⟩ = some (.int .i64 x.mo.bl.hd.h) := (k2.cell 10).trans (by rw [HC.out]; rfl)
 have q11 : (w2).cell? ⟨w.heap.size, 11, none⟩ = some (.int .u64 x.mo.bl.hd.pa) := (k2.cell 11).trans (by rw [HC.out]; rfl)
 have q12 : (w2).cell? ⟨w.heap.size, 12, none⟩ = some (.int .u64 x.mo.bl.hd.tx) := (k2.cell 12).trans (by rw [HC.out]; rfl)
 have q13 : (w2).cell? ⟨w.heap.size, 13, none⟩ = some (.int .u64 x.mo.bl.hd.gu) := (k2.cell 13).trans (by rw [HC.out]; rfl)
 have q14 : (w2).cell? ⟨w.heap.size, 14, none⟩ = some (.int .u64 x.mo.bl.hd.st) := (k2.cell 14).trans (by rw [HC.out]; rfl)
 have q15 : (w2).cell? ⟨w.heap.size, 15, none⟩ = some (.int .u64 x.mo.bl.hd.re) := (k2.cell 15).trans (by rw [HC.out]; rfl)
 have q16 : (w2).cell? ⟨w.heap.size, 16, none⟩ = some (.int .u64 x.mo.bl.hd.be) := (k2.cell 16).trans (by rw [HC.out]; rfl)
 have q17 : (w2).cell? ⟨w.heap.size, 17, none⟩ = some (.int .i64 x.mo.bl.hd.pr) := (k2.cell 17).trans (by rw [HC.out]; rfl)
 have q18 : (w2).cell? ⟨w.heap.size, 18, none⟩ = some (.slice x.mo.bl.tx.la x.mo.bl.tx.xs.length x.mo.bl.tx.lc) := (k2.cell 18).trans (by rw [HC.out]; rfl)
 have q19 : (w2).cell? ⟨w.heap.size, 19, none⟩ = some (.slice x.mo.bl.gu.la x.mo.bl.gu.xs.length x.mo.bl.gu.lc) := (k2.cell 19).trans (by rw [HC.out]; rfl)
 have q20 : (w2).cell? ⟨w.heap.size, 20, none⟩ = some (.slice x.mo.ba.la x.mo.ba.xs.length x.mo.ba.lc) := (k2.cell 20).trans (by rw [HC.out]; rfl)
 have key2 := noMotion_any x.mo w2
 have hz2 := k2.lt
 go_wp2_with fail
 refine key2.mono ?_
 rintro e w3 ⟨rfl, b3'⟩
 have b3 := b2.trans (b3'.mono b2.size)
 have k3 := k2.below b3' k2.lt
 clear key2 q7 q8 q9 q10 q11 q12 q13 q14 q15 q16 q17 q18 q19 q20
 have HR : Hid (x.may = x.mo.no) := by show _ = _; rw [HV.out, H0v.out, H1v.out]; rfl
 go_wp2
 go_ret
 exact ⟨by rw [HR.out]; rfl, b3⟩
set_option maxRecDepth 4000 in
set_option maxHeartbeats 3200000 in
theorem mayRecord_w0 (x : Record) (k : Int) (hxk : x.k = k) (e1 : ¬ k = 1) (e2 : ¬ k = 2) (e3 : ¬ k = 3) (e4 : ¬ k = 4) (w : World) (g : goods w.heap.size w x.flds) (hm : wtL x.mo.atoms ≤ 1099400000000) (hk : wtL x.kn.atoms ≤ 1099400000000) : Calls Tryz.prog 187 #[.agg x.arr] w fun e w' => e = .returned (.bool x.may) ∧ Below w.heap.size w w' := by
 obtain ⟨C, HC⟩ : ∃ C, Hid (C = x.arr) := ⟨_, rfl⟩
 rw [← HC.out]
 have bA : Below w.heap.size w (w.alloc (.cells C 158)) := (Below.refl _ _).alloc (Nat.le_refl _) _
 have kX := Blk.new w C 158
 have gA := g.app.2
 have gv : ∀ y, Below w.heap.size w y → goods y.heap.size y x.vo.flds := fun y hy => (gA.app.1.below hy).mono hy.size
 have gm : ∀ y, Below w.heap.size w y → goods y.heap.size y x.mo.flds := fun y hy => (gA.app.2.app.1.below hy).mono hy.size
 have gk : ∀ y, Below w.heap.size w y → goods y.heap.size y x.kn.flds := fun y hy => (gA.app.2.app.2.below hy).mono hy.size
 have Hk := show Hid (_ = _) from hxk
 clear hxk g gA
 have q0 : (w.alloc (.cells C 158)).cell? ⟨w.heap.size, 0, none⟩ = some (.int .i64 k) := (kX.cell 0).trans (by rw [HC.out, ← Hk.out]; rfl)
 go_enter Tryz.func187, Tryz.ntmps187
 have HR : Hid (x.may = false) := by show _ = _; simp [Record.may, Hk.out, e1, e2, e3, e4]
 have f1 : (k == 1) = false := by simp [e1]
 have f2 : (k == 2) = false := by simp [e2]
 have f3 : (k == 3) = false := by simp [e3]
 have f4 : (k == 4) = false := by simp [e4]
 go_wp2
 go_ret
 exact ⟨by rw [HR.out]; rfl, bA⟩
theorem mayRecord_anyX (x : Record) (w : World) (g : goods w.heap.size w x.flds) (hm : wtL x.mo.atoms ≤ 1099400000000) (hk : wtL x.kn.atoms ≤ 1099400000000) : Calls Tryz.prog 187 #[.agg x.arr] w fun e w' => e = .returned (.bool x.may) ∧ Below w.heap.size w w' := by
 by_cases e1 : x.k = 1
 ·exact mayRecord_w1 x _ rfl e1 w g hm hk
 by_cases e2 : x.k = 2
 ·exact mayRecord_w2 x _ rfl e2 w g hm hk
 by_cases e3 : x.k = 3
 ·exact mayRecord_w3 x _ rfl e3 w g hm hk
 by_cases e4 : x.k = 4
 ·exact mayRecord_w4 x _ rfl e4 w g hm hk
 exact mayRecord_w0 x _ rfl e1 e2 e3 e4 w g hm hk
end Go.Proofs.YtackcbpabjhmpaaGreat
