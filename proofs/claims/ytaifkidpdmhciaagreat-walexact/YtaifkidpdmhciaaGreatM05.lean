/- What is nothing: a vote, a cert, a block, a motion, what is known. -/
import Derived.Test.YtaifkidpdmhciaaGreatXThings
import Derived.Test.YtaifkidpdmhciaaGreatM03
import Derived.Test.YtaifkidpdmhciaaGreatM02

namespace Go.Proofs.YtaifkidpdmhciaaGreat
open Go.RowKit
set_option linter.unusedVariables false
set_option linter.unusedSimpArgs false

def Vote.no (x : Vote) : Bool := x.h == 0 && x.r == 0 && x.s == 0 && x.has == false && x.bl == 0 && x.f == 0
def Cert.no (x : Cert) : Bool := x.h == 0 && x.r == 0 && x.s == 0 && !x.has && x.bl == 0 && ((x.fr.xs.length : Int) == 0)
def Header.no (x : Header) : Bool := x.c == 0 && x.h == 0 && x.pa == 0 && x.tx == 0 && x.gu == 0 && x.st == 0 && x.re == 0 && x.be == 0 && x.pr == 0
def Block.no (x : Block) : Bool := x.hd.no && ((x.tx.xs.length : Int) == 0) && ((x.gu.xs.length : Int) == 0)
def Motion.no (x : Motion) : Bool := x.ro == 0 && x.fr == 0 && x.bl.no && ((x.ba.xs.length : Int) == 0)
def Known.no (x : Known) : Bool := x.ce.no && x.bl.no

set_option maxHeartbeats 1600000 in
theorem noVote_any (x : Vote) (w : World) : Calls Tryz.prog 65 #[.agg #[.int .i64 x.h, .int .i64 x.r, .int .i64 x.s, .bool x.has, .int .u64 x.bl, .int .i64 x.f]] w fun e w' => e = .returned (.bool x.no) ∧ Below w.heap.size w w' := by
  go_enter Tryz.func65, Tryz.ntmps65
  go_wp2
  all_goals (go_ret; exact ⟨by simp [Vote.no, *], (Below.refl _ _).alloc (Nat.le_refl _) _⟩)

set_option maxHeartbeats 1600000 in
theorem noCert_any (x : Cert) (w : World) : Calls Tryz.prog 92 #[.agg #[.int .i64 x.h, .int .i64 x.r, .int .i64 x.s, .bool x.has, .int .u64 x.bl, .slice x.fr.la x.fr.xs.length x.fr.lc]] w fun e w' => e = .returned (.bool x.no) ∧ Below w.heap.size w w' := by
  go_enter Tryz.func92, Tryz.ntmps92
  go_wp2
  all_goals (go_ret; exact ⟨by simp [Cert.no, *], (Below.refl _ _).alloc (Nat.le_refl _) _⟩)

set_option maxHeartbeats 1600000 in
theorem remptyCert_any (x : Cert) (w : World) : Calls Tryz.prog 51 #[.agg #[.int .i64 x.h, .int .i64 x.r, .int .i64 x.s, .bool x.has, .int .u64 x.bl, .slice x.fr.la x.fr.xs.length x.fr.lc]] w fun e w' => e = .returned (.bool x.no) ∧ Below w.heap.size w w' := by
  go_enter Tryz.func51, Tryz.ntmps51
  go_wp2
  all_goals (go_ret; exact ⟨by simp [Cert.no, *], (Below.refl _ _).alloc (Nat.le_refl _) _⟩)

set_option maxHeartbeats 1600000 in
theorem noBlock_any (x : Block) (w : World) : Calls Tryz.prog 91 #[.agg #[.int .i64 x.hd.c, .int .i64 x.hd.h, .int .u64 x.hd.pa, .int .u64 x.hd.tx, .int .u64 x.hd.gu, .int .u64 x.hd.st, .int .u64 x.hd.re, .int .u64 x.hd.be, .int .i64 x.hd.pr, .slice x.tx.la x.tx.xs.length x.tx.lc, .slice x.gu.la x.gu.xs.length x.gu.lc]] w fun e w' => e = .returned (.bool x.no) ∧ Below w.heap.size w w' := by
  go_enter Tryz.func91, Tryz.ntmps91
  go_wp2
  all_goals (go_ret; exact ⟨by simp [Block.no, Header.no, *], (Below.refl _ _).alloc (Nat.le_refl _) _⟩)

set_option maxHeartbeats 1600000 in
theorem remptyBlock_any (x : Block) (w : World) : Calls Tryz.prog 50 #[.agg #[.int .i64 x.hd.c, .int .i64 x.hd.h, .int .u64 x.hd.pa, .int .u64 x.hd.tx, .int .u64 x.hd.gu, .int .u64 x.hd.st, .int .u64 x.hd.re, .int .u64 x.hd.be, .int .i64 x.hd.pr, .slice x.tx.la x.tx.xs.length x.tx.lc, .slice x.gu.la x.gu.xs.length x.gu.lc]] w fun e w' => e = .returned (.bool x.no) ∧ Below w.heap.size w w' := by
  go_enter Tryz.func50, Tryz.ntmps50
  go_wp2
  all_goals (go_ret; exact ⟨by simp [Block.no, Header.no, *], (Below.refl _ _).alloc (Nat.le_refl _) _⟩)

set_option maxHeartbeats 1600000 in
theorem noMotion_any (x : Motion) (w : World) : Calls Tryz.prog 62 #[.agg #[.int .i64 x.ro, .int .i64 x.fr, .int .i64 x.bl.hd.c, .int .i64 x.bl.hd.h, .int .u64 x.bl.hd.pa, .int .u64 x.bl.hd.tx, .int .u64 x.bl.hd.gu, .int .u64 x.bl.hd.st, .int .u64 x.bl.hd.re, .int .u64 x.bl.hd.be, .int .i64 x.bl.hd.pr, .slice x.bl.tx.la x.bl.tx.xs.length x.bl.tx.lc, .slice x.bl.gu.la x.bl.gu.xs.length x.bl.gu.lc, .slice x.ba.la x.ba.xs.length x.ba.lc]] w fun e w' => e = .returned (.bool x.no) ∧ Below w.heap.size w w' := by
  have bA : Below w.heap.size w (w.alloc (.cells #[.int .i64 x.ro, .int .i64 x.fr, .int .i64 x.bl.hd.c, .int .i64 x.bl.hd.h, .int .u64 x.bl.hd.pa, .int .u64 x.bl.hd.tx, .int .u64 x.bl.hd.gu, .int .u64 x.bl.hd.st, .int .u64 x.bl.hd.re, .int .u64 x.bl.hd.be, .int .i64 x.bl.hd.pr, .slice x.bl.tx.la x.bl.tx.xs.length x.bl.tx.lc, .slice x.bl.gu.la x.bl.gu.xs.length x.bl.gu.lc, .slice x.ba.la x.ba.xs.length x.ba.lc] 50)) := (Below.refl _ _).alloc (Nat.le_refl _) _
  have kA := Blk.new w #[.int .i64 x.ro, .int .i64 x.fr, .int .i64 x.bl.hd.c, .int .i64 x.bl.hd.h, .int .u64 x.bl.hd.pa, .int .u64 x.bl.hd.tx, .int .u64 x.bl.hd.gu, .int .u64 x.bl.hd.st, .int .u64 x.bl.hd.re, .int .u64 x.bl.hd.be, .int .i64 x.bl.hd.pr, .slice x.bl.tx.la x.bl.tx.xs.length x.bl.tx.lc, .slice x.bl.gu.la x.bl.gu.xs.length x.bl.gu.lc, .slice x.ba.la x.ba.xs.length x.ba.lc] 50
  have key := noBlock_any x.bl (w.alloc (.cells #[.int .i64 x.ro, .int .i64 x.fr, .int .i64 x.bl.hd.c, .int .i64 x.bl.hd.h, .int .u64 x.bl.hd.pa, .int .u64 x.bl.hd.tx, .int .u64 x.bl.hd.gu, .int .u64 x.bl.hd.st, .int .u64 x.bl.hd.re, .int .u64 x.bl.hd.be, .int .i64 x.bl.hd.pr, .slice x.bl.tx.la x.bl.tx.xs.length x.bl.tx.lc, .slice x.bl.gu.la x.bl.gu.xs.length x.bl.gu.lc, .slice x.ba.la x.ba.xs.length x.ba.lc] 50))
  go_enter Tryz.func62, Tryz.ntmps62
  by_cases h1 : x.ro = 0
  rotate_left
  · have d1 : (x.ro == 0) = false := by simp [h1]
    clear key kA
    go_wp2
    go_ret
    exact ⟨by simp [Motion.no, h1], bA⟩
  have d1 : (x.ro == 0) = true := by simp [h1]
  by_cases h2 : x.fr = 0
  rotate_left
  · have d2 : (x.fr == 0) = false := by simp [h2]
    have HN : Hid (x.no = false) := by show _ = _; simp [Motion.no, h2]
    have H1 := show Hid (_ = _) from h1
    clear key kA h1
    go_wp2
    go_ret
    exact ⟨by rw [HN.out]; rfl, bA⟩
  have d2 : (x.fr == 0) = true := by simp [h2]
  have HN : Hid (x.no = (x.bl.no && ((x.ba.xs.length : Int) == 0))) := by show _ = _; simp [Motion.no, h1, h2]
  clear h1 h2
  go_wp2_with fail
  refine key.mono ?_
  rintro e w1 ⟨rfl, b1⟩
  have B1 := bA.trans (b1.mono bA.size)
  have k1 := kA.below b1 kA.lt
  have q13 := k1.cell 13
  simp only [List.getElem?_toArray, List.getElem?_cons_succ, List.getElem?_cons_zero] at q13
  have hz := k1.lt
  clear key kA
  cases hb : x.bl.no
  · have HB := show Hid (_ = _) from hb
    clear hb
    go_wp2
    go_ret
    exact ⟨by rw [HN.out, HB.out]; rfl, B1⟩
  · have HB := show Hid (_ = _) from hb
    clear hb
    go_wp2
    go_ret
    exact ⟨by rw [HN.out, HB.out]; simp, B1⟩

set_option maxHeartbeats 1600000 in
theorem noKnown_any (x : Known) (w : World) : Calls Tryz.prog 63 #[.agg #[.int .i64 x.ce.h, .int .i64 x.ce.r, .int .i64 x.ce.s, .bool x.ce.has, .int .u64 x.ce.bl, .slice x.ce.fr.la x.ce.fr.xs.length x.ce.fr.lc, .int .i64 x.bl.hd.c, .int .i64 x.bl.hd.h, .int .u64 x.bl.hd.pa, .int .u64 x.bl.hd.tx, .int .u64 x.bl.hd.gu, .int .u64 x.bl.hd.st, .int .u64 x.bl.hd.re, .int .u64 x.bl.hd.be, .int .i64 x.bl.hd.pr, .slice x.bl.tx.la x.bl.tx.xs.length x.bl.tx.lc, .slice x.bl.gu.la x.bl.gu.xs.length x.bl.gu.lc]] w fun e w' => e = .returned (.bool x.no) ∧ Below w.heap.size w w' := by
  have bA : Below w.heap.size w (w.alloc (.cells #[.int .i64 x.ce.h, .int .i64 x.ce.r, .int .i64 x.ce.s, .bool x.ce.has, .int .u64 x.ce.bl, .slice x.ce.fr.la x.ce.fr.xs.length x.ce.fr.lc, .int .i64 x.bl.hd.c, .int .i64 x.bl.hd.h, .int .u64 x.bl.hd.pa, .int .u64 x.bl.hd.tx, .int .u64 x.bl.hd.gu, .int .u64 x.bl.hd.st, .int .u64 x.bl.hd.re, .int .u64 x.bl.hd.be, .int .i64 x.bl.hd.pr, .slice x.bl.tx.la x.bl.tx.xs.length x.bl.tx.lc, .slice x.bl.gu.la x.bl.gu.xs.length x.bl.gu.lc] 55)) := (Below.refl _ _).alloc (Nat.le_refl _) _
  have kA := Blk.new w #[.int .i64 x.ce.h, .int .i64 x.ce.r, .int .i64 x.ce.s, .bool x.ce.has, .int .u64 x.ce.bl, .slice x.ce.fr.la x.ce.fr.xs.length x.ce.fr.lc, .int .i64 x.bl.hd.c, .int .i64 x.bl.hd.h, .int .u64 x.bl.hd.pa, .int .u64 x.bl.hd.tx, .int .u64 x.bl.hd.gu, .int .u64 x.bl.hd.st, .int .u64 x.bl.hd.re, .int .u64 x.bl.hd.be, .int .i64 x.bl.hd.pr, .slice x.bl.tx.la x.bl.tx.xs.length x.bl.tx.lc, .slice x.bl.gu.la x.bl.gu.xs.length x.bl.gu.lc] 55
  have key := noCert_any x.ce (w.alloc (.cells #[.int .i64 x.ce.h, .int .i64 x.ce.r, .int .i64 x.ce.s, .bool x.ce.has, .int .u64 x.ce.bl, .slice x.ce.fr.la x.ce.fr.xs.length x.ce.fr.lc, .int .i64 x.bl.hd.c, .int .i64 x.bl.hd.h, .int .u64 x.bl.hd.pa, .int .u64 x.bl.hd.tx, .int .u64 x.bl.hd.gu, .int .u64 x.bl.hd.st, .int .u64 x.bl.hd.re, .int .u64 x.bl.hd.be, .int .i64 x.bl.hd.pr, .slice x.bl.tx.la x.bl.tx.xs.length x.bl.tx.lc, .slice x.bl.gu.la x.bl.gu.xs.length x.bl.gu.lc] 55))
  go_enter Tryz.func63, Tryz.ntmps63
  go_wp2_with fail
  refine key.mono ?_
  rintro e w1 ⟨rfl, b1⟩
  have B1 := bA.trans (b1.mono bA.size)
  have k1 := kA.below b1 kA.lt
  clear key kA
  cases hc : x.ce.no
  · have HN : Hid (x.no = false) := by show _ = _; simp [Known.no, hc]
    clear hc
    go_wp2
    go_ret
    exact ⟨by rw [HN.out]; rfl, B1⟩
  have HN : Hid (x.no = x.bl.no) := by show _ = _; simp [Known.no, hc]
  clear hc
  have q6 := k1.cell 6
  have q7 := k1.cell 7
  have q8 := k1.cell 8
  have q9 := k1.cell 9
  have q10 := k1.cell 10
  have q11 := k1.cell 11
  have q12 := k1.cell 12
  have q13 := k1.cell 13
  have q14 := k1.cell 14
  have q15 := k1.cell 15
  have q16 := k1.cell 16
  simp only [List.getElem?_toArray, List.getElem?_cons_succ, List.getElem?_cons_zero] at q6 q7 q8 q9 q10 q11 q12 q13 q14 q15 q16
  have hz := k1.lt
  have key := noBlock_any x.bl w1
  clear k1
  go_wp2_with fail
  refine key.mono ?_
  rintro e w2 ⟨rfl, b2⟩
  have B2 := B1.trans (b2.mono B1.size)
  clear key
  go_wp2
  go_ret
  exact ⟨by rw [HN.out]; rfl, B2⟩
end Go.Proofs.YtaifkidpdmhciaaGreat

namespace Go.Proofs.YtaifkidpdmhciaaGreat
open Go.RowKit
set_option linter.unusedVariables false
set_option linter.unusedSimpArgs false

/-- The cells of a record of a vote. -/
def RC (h rd sg : Int) (has : Bool) (bl f : Int) : Array Value := #[.int .i64 1, .int .i64 h, .int .i64 rd, .int .i64 sg, .bool has, .int .u64 bl, .int .i64 f, .int .i64 0, .int .i64 0, .int .i64 0, .int .i64 0, .int .u64 0, .int .u64 0, .int .u64 0, .int .u64 0, .int .u64 0, .int .u64 0, .int .i64 0, .slice none 0 0, .slice none 0 0, .slice none 0 0, .int .i64 0, .int .i64 0, .int .i64 0, .bool false, .int .u64 0, .slice none 0 0, .int .i64 0, .int .i64 0, .int .u64 0, .int .u64 0, .int .u64 0, .int .u64 0, .int .u64 0, .int .u64 0, .int .i64 0, .slice none 0 0, .slice none 0 0]
/-- The cells of a record that is nothing. -/
def RZ : Array Value := #[.int .i64 0, .int .i64 0, .int .i64 0, .int .i64 0, .bool false, .int .u64 0, .int .i64 0, .int .i64 0, .int .i64 0, .int .i64 0, .int .i64 0, .int .u64 0, .int .u64 0, .int .u64 0, .int .u64 0, .int .u64 0, .int .u64 0, .int .i64 0, .slice none 0 0, .slice none 0 0, .slice none 0 0, .int .i64 0, .int .i64 0, .int .i64 0, .bool false, .int .u64 0, .slice none 0 0, .int .i64 0, .int .i64 0, .int .u64 0, .int .u64 0, .int .u64 0, .int .u64 0, .int .u64 0, .int .u64 0, .int .i64 0, .slice none 0 0, .slice none 0 0]
set_option maxRecDepth 4000 in
set_option maxHeartbeats 3200000 in
theorem mayRecord_v (h rd sg : Int) (has : Bool) (bl f : Int) (hm : mayVoteP sg has bl f = true) (w : World) : Calls Tryz.prog 36 #[.agg (RC h rd sg has bl f)] w fun e w' => e = .returned (.bool true) ∧ Below w.heap.size w w' := by
  obtain ⟨C, HC⟩ : ∃ C, Hid (C = RC h rd sg has bl f) := ⟨_, rfl⟩
  rw [← HC.out]
  have bA : Below w.heap.size w (w.alloc (.cells C 57)) := (Below.refl _ _).alloc (Nat.le_refl _) _
  have kX := Blk.new w C 57
  have q0 : (w.alloc (.cells C 57)).cell? ⟨w.heap.size, 0, none⟩ = some (.int .i64 1) := (kX.cell 0).trans (by rw [HC.out]; rfl)
  have q1 : (w.alloc (.cells C 57)).cell? ⟨w.heap.size, 1, none⟩ = some (.int .i64 h) := (kX.cell 1).trans (by rw [HC.out]; rfl)
  have q2 : (w.alloc (.cells C 57)).cell? ⟨w.heap.size, 2, none⟩ = some (.int .i64 rd) := (kX.cell 2).trans (by rw [HC.out]; rfl)
  have q3 : (w.alloc (.cells C 57)).cell? ⟨w.heap.size, 3, none⟩ = some (.int .i64 sg) := (kX.cell 3).trans (by rw [HC.out]; rfl)
  have q4 : (w.alloc (.cells C 57)).cell? ⟨w.heap.size, 4, none⟩ = some (.bool has) := (kX.cell 4).trans (by rw [HC.out]; rfl)
  have q5 : (w.alloc (.cells C 57)).cell? ⟨w.heap.size, 5, none⟩ = some (.int .u64 bl) := (kX.cell 5).trans (by rw [HC.out]; rfl)
  have q6 : (w.alloc (.cells C 57)).cell? ⟨w.heap.size, 6, none⟩ = some (.int .i64 f) := (kX.cell 6).trans (by rw [HC.out]; rfl)
  have key0 := mayVote_any h rd sg has bl f (w.alloc (.cells C 57))
  rw [hm] at key0
  go_enter Tryz.func36, Tryz.ntmps36
  go_wp2_with fail
  refine key0.mono ?_
  rintro e w1 ⟨rfl, b1'⟩
  have b1 := bA.trans (b1'.mono bA.size)
  have k1 := kX.below b1' kX.lt
  clear key0 q0 q1 q2 q3 q4 q5 q6
  have q7 : w1.cell? ⟨w.heap.size, 7, none⟩ = some (.int .i64 0) := (k1.cell 7).trans (by rw [HC.out]; rfl)
  have q8 : w1.cell? ⟨w.heap.size, 8, none⟩ = some (.int .i64 0) := (k1.cell 8).trans (by rw [HC.out]; rfl)
  have q9 : w1.cell? ⟨w.heap.size, 9, none⟩ = some (.int .i64 0) := (k1.cell 9).trans (by rw [HC.out]; rfl)
  have q10 : w1.cell? ⟨w.heap.size, 10, none⟩ = some (.int .i64 0) := (k1.cell 10).trans (by rw [HC.out]; rfl)
  have q11 : w1.cell? ⟨w.heap.size, 11, none⟩ = some (.int .u64 0) := (k1.cell 11).trans (by rw [HC.out]; rfl)
  have q12 : w1.cell? ⟨w.heap.size, 12, none⟩ = some (.int .u64 0) := (k1.cell 12).trans (by rw [HC.out]; rfl)
  have q13 : w1.cell? ⟨w.heap.size, 13, none⟩ = some (.int .u64 0) := (k1.cell 13).trans (by rw [HC.out]; rfl)
  have q14 : w1.cell? ⟨w.heap.size, 14, none⟩ = some (.int .u64 0) := (k1.cell 14).trans (by rw [HC.out]; rfl)
  have q15 : w1.cell? ⟨w.heap.size, 15, none⟩ = some (.int .u64 0) := (k1.cell 15).trans (by rw [HC.out]; rfl)
  have q16 : w1.cell? ⟨w.heap.size, 16, none⟩ = some (.int .u64 0) := (k1.cell 16).trans (by rw [HC.out]; rfl)
  have q17 : w1.cell? ⟨w.heap.size, 17, none⟩ = some (.int .i64 0) := (k1.cell 17).trans (by rw [HC.out]; rfl)
  have q18 : w1.cell? ⟨w.heap.size, 18, none⟩ = some (.slice none 0 0) := (k1.cell 18).trans (by rw [HC.out]; rfl)
  have q19 : w1.cell? ⟨w.heap.size, 19, none⟩ = some (.slice none 0 0) := (k1.cell 19).trans (by rw [HC.out]; rfl)
  have q20 : w1.cell? ⟨w.heap.size, 20, none⟩ = some (.slice none 0 0) := (k1.cell 20).trans (by rw [HC.out]; rfl)
  have key1 := noMotion_any (⟨0, 0, ⟨⟨0, 0, 0, 0, 0, 0, 0, 0, 0⟩, ⟨none, 0, []⟩, ⟨none, 0, []⟩⟩, ⟨none, 0, []⟩⟩ : Motion) w1
  have hz1 := k1.lt
  go_wp2_with fail
  refine key1.mono ?_
  rintro e w2 ⟨rfl, b2'⟩
  have b2 := b1.trans (b2'.mono b1.size)
  have k2 := k1.below b2' k1.lt
  clear key1 q7 q8 q9 q10 q11 q12 q13 q14 q15 q16 q17 q18 q19 q20
  have q21 : w2.cell? ⟨w.heap.size, 21, none⟩ = some (.int .i64 0) := (k2.cell 21).trans (by rw [HC.out]; rfl)
  have q22 : w2.cell? ⟨w.heap.size, 22, none⟩ = some (.int .i64 0) := (k2.cell 22).trans (by rw [HC.out]; rfl)
  have q23 : w2.cell? ⟨w.heap.size, 23, none⟩ = some (.int .i64 0) := (k2.cell 23).trans (by rw [HC.out]; rfl)
  have q24 : w2.cell? ⟨w.heap.size, 24, none⟩ = some (.bool false) := (k2.cell 24).trans (by rw [HC.out]; rfl)
  have q25 : w2.cell? ⟨w.heap.size, 25, none⟩ = some (.int .u64 0) := (k2.cell 25).trans (by rw [HC.out]; rfl)
  have q26 : w2.cell? ⟨w.heap.size, 26, none⟩ = some (.slice none 0 0) := (k2.cell 26).trans (by rw [HC.out]; rfl)
  have q27 : w2.cell? ⟨w.heap.size, 27, none⟩ = some (.int .i64 0) := (k2.cell 27).trans (by rw [HC.out]; rfl)
  have q28 : w2.cell? ⟨w.heap.size, 28, none⟩ = some (.int .i64 0) := (k2.cell 28).trans (by rw [HC.out]; rfl)
  have q29 : w2.cell? ⟨w.heap.size, 29, none⟩ = some (.int .u64 0) := (k2.cell 29).trans (by rw [HC.out]; rfl)
  have q30 : w2.cell? ⟨w.heap.size, 30, none⟩ = some (.int .u64 0) := (k2.cell 30).trans (by rw [HC.out]; rfl)
  have q31 : w2.cell? ⟨w.heap.size, 31, none⟩ = some (.int .u64 0) := (k2.cell 31).trans (by rw [HC.out]; rfl)
  have q32 : w2.cell? ⟨w.heap.size, 32, none⟩ = some (.int .u64 0) := (k2.cell 32).trans (by rw [HC.out]; rfl)
  have q33 : w2.cell? ⟨w.heap.size, 33, none⟩ = some (.int .u64 0) := (k2.cell 33).trans (by rw [HC.out]; rfl)
  have q34 : w2.cell? ⟨w.heap.size, 34, none⟩ = some (.int .u64 0) := (k2.cell 34).trans (by rw [HC.out]; rfl)
  have q35 : w2.cell? ⟨w.heap.size, 35, none⟩ = some (.int .i64 0) := (k2.cell 35).trans (by rw [HC.out]; rfl)
  have q36 : w2.cell? ⟨w.heap.size, 36, none⟩ = some (.slice none 0 0) := (k2.cell 36).trans (by rw [HC.out]; rfl)
  have q37 : w2.cell? ⟨w.heap.size, 37, none⟩ = some (.slice none 0 0) := (k2.cell 37).trans (by rw [HC.out]; rfl)
  have key2 := noKnown_any (⟨⟨0, 0, 0, false, 0, ⟨none, 0, []⟩⟩, ⟨⟨0, 0, 0, 0, 0, 0, 0, 0, 0⟩, ⟨none, 0, []⟩, ⟨none, 0, []⟩⟩⟩ : Known) w2
  have hz2 := k2.lt
  have e1 : Motion.no (⟨0, 0, ⟨⟨0, 0, 0, 0, 0, 0, 0, 0, 0⟩, ⟨none, 0, []⟩, ⟨none, 0, []⟩⟩, ⟨none, 0, []⟩⟩ : Motion) = true := rfl
  rw [e1]
  go_wp2_with fail
  refine key2.mono ?_
  rintro e w3 ⟨rfl, b3'⟩
  have b3 := b2.trans (b3'.mono b2.size)
  clear key2 q21 q22 q23 q24 q25 q26 q27 q28 q29 q30 q31 q32 q33 q34 q35 q36 q37
  have e2 : Known.no (⟨⟨0, 0, 0, false, 0, ⟨none, 0, []⟩⟩, ⟨⟨0, 0, 0, 0, 0, 0, 0, 0, 0⟩, ⟨none, 0, []⟩, ⟨none, 0, []⟩⟩⟩ : Known) = true := rfl
  rw [e2]
  go_wp2
  go_ret
  exact ⟨rfl, b3⟩
end Go.Proofs.YtaifkidpdmhciaaGreat

namespace Go.Proofs.YtaifkidpdmhciaaGreat
open Go.RowKit
set_option linter.unusedVariables false
set_option linter.unusedSimpArgs false

structure But (S : Nat → Prop) (w w' : World) : Prop where
  os : w'.os = w.os
  tape : w'.tape = w.tape
  output : w'.output = w.output
  size : w.heap.size ≤ w'.heap.size
  block : ∀ k, k < w.heap.size → ¬ S k → w'.heap[k]? = w.heap[k]?
theorem But.of_below {S : Nat → Prop} {w w' : World} (h : Below w.heap.size w w') : But S w w' := ⟨h.os, h.tape, h.output, h.size, fun k hk _ => h.block k hk⟩
theorem But.refl (S : Nat → Prop) (w : World) : But S w w := ⟨rfl, rfl, rfl, Nat.le_refl _, fun _ _ _ => rfl⟩
theorem But.trans {S : Nat → Prop} {a b c : World} (h : But S a b) (k : But S b c) : But S a c :=
  ⟨k.os.trans h.os, k.tape.trans h.tape, k.output.trans h.output, Nat.le_trans h.size k.size, fun i hi hn => (k.block i (Nat.lt_of_lt_of_le hi h.size) hn).trans (h.block i hi hn)⟩
theorem But.trans_new {S T : Nat → Prop} {a b c : World} (h : But S a b) (k : But T b c) (hs : ∀ k, k < a.heap.size → T k → S k) : But S a c :=
  ⟨k.os.trans h.os, k.tape.trans h.tape, k.output.trans h.output, Nat.le_trans h.size k.size, fun i hi hn => (k.block i (Nat.lt_of_lt_of_le hi h.size) (fun q => hn (hs i hi q))).trans (h.block i hi hn)⟩
theorem But.set {S : Nat → Prop} (w : World) {p : Addr} (hp : S p.block) (v : Value) : But S w (w.setCell p v) :=
  ⟨rfl, rfl, rfl, by rw [World.size_setCell]; exact Nat.le_refl _, fun k hk hn => Below.heap_setCell _ _ _ _ (fun e => hn (by rw [e]; exact hp))⟩
theorem But.of_grown {S : Nat → Prop} {w w' : World} {row : Option Nat} (h : w.grownBy w' row) (hr : ∀ k, row = some k → S k) : But S w w' :=
  ⟨h.os, h.tape, h.output, h.size, fun k hk hn => h.block k hk (fun e => hn (hr k e.symm))⟩
theorem But.mono {S T : Nat → Prop} {w w' : World} (h : But S w w') (hs : ∀ k, S k → T k) : But T w w' := ⟨h.os, h.tape, h.output, h.size, fun k hk hn => h.block k hk (fun q => hn (hs k q))⟩
theorem But.below {S : Nat → Prop} {w w' : World} (h : But S w w') {B : Nat} (hB : B ≤ w.heap.size) (hs : ∀ k, S k → B ≤ k) : Below B w w' :=
  ⟨h.os, h.tape, h.output, h.size, fun k hk => h.block k (by omega) (fun q => by have := hs k q; omega)⟩
theorem But.blk {S : Nat → Prop} {w w' : World} (h : But S w w') {b : Nat} {cs : Array Value} {t : TypeId} (k : Blk w b cs t) (hb : ¬ S b) : Blk w' b cs t := by
  have := h.block b k.lt hb
  unfold Blk at *
  rw [this]; exact k
theorem But.cell {S : Nat → Prop} {w w' : World} (h : But S w w') {p : Addr} (hp : p.block < w.heap.size) (hb : ¬ S p.block) : w'.cell? p = w.cell? p := by
  have := h.block _ hp hb
  unfold World.cell?
  rw [this]
theorem But.owns {S : Nat → Prop} {w w' : World} (h : But S w w') {base : Nat} {e : TypeId} {size : Nat} {v : Value} {n : Nat} {xs : List Value} (k : w.ownsRow base e size v n xs) (hb : ∀ g, v.ownBlock = some g → ¬ S g) : w'.ownsRow base e size v n xs := by
  refine ⟨k.1, ?_⟩
  rcases k.2 with k2 | ⟨g, cap, cur, e1, h1, h2, h3⟩
  · exact .inl k2
  · exact .inr ⟨g, cap, cur, e1, h1, by rw [h.block g (Array.getElem?_eq_some_iff.1 h2).1 (hb g (by rw [e1]; rfl))]; exact h2, h3⟩

/-- What bytes are worth, the highest first. -/
def val (l : List UInt8) : Nat := l.foldl (fun n b => n * 256 + b.toNat) 0
theorem val_snoc (l : List UInt8) (b : UInt8) : val (l ++ [b]) = val l * 256 + b.toNat := by simp [val, List.foldl_append]
theorem val_lt_aux (l : List UInt8) : ∀ n : Nat, l.foldl (fun n b => n * 256 + b.toNat) n < (n + 1) * 256 ^ l.length := by
  induction l with
  | nil => intro n; simp
  | cons b r ih =>
    intro n
    have h := ih (n * 256 + b.toNat)
    have hb : b.toNat < 256 := b.toNat_lt
    simp only [List.foldl_cons, List.length_cons]
    refine Nat.lt_of_lt_of_le h ?_
    rw [Nat.pow_succ, Nat.mul_comm (256 ^ r.length) 256, ← Nat.mul_assoc]
    exact Nat.mul_le_mul_right _ (by omega)
theorem val_lt (l : List UInt8) : val l < 256 ^ l.length := by have := val_lt_aux l 0; simpa [val] using this
theorem be_snocL (n : Int) (k : Nat) : be n (k + 1) = be (n / 256) k ++ [byteAt n] := by
  induction k with
  | zero => simp [be]
  | succ k ih =>
    rw [be, ih]
    rw [show be (n / 256) (k + 1) = byteAt (n / 256 / 256 ^ k) :: be (n / 256) k from rfl]
    rw [List.cons_append]
    congr 2
    rw [Int.ediv_ediv_of_nonneg (by omega), Int.pow_succ, Int.mul_comm]
theorem byteAt_nat (n : Int) : ((byteAt n).toNat : Int) = n % 256 := by
  unfold byteAt
  have h1 : 0 ≤ n % 256 := by omega
  have h2 : n % 256 < 256 := by omega
  have : (UInt8.ofNat (n % 256).toNat).toNat = (n % 256).toNat := by
    rw [UInt8.toNat_ofNat']
    omega
  rw [this]; omega
theorem val_be : ∀ (k : Nat) (n : Int), 0 ≤ n → n < 256 ^ k → (val (be n k) : Int) = n
  | 0, n, h0, h1 => by simp at h1; simp [be, val]; omega
  | k + 1, n, h0, h1 => by
    rw [be_snocL, val_snoc]
    have hd : n / 256 < 256 ^ k := by
      rw [Int.pow_succ] at h1
      exact Int.ediv_lt_of_lt_mul (by omega) h1
    have ih := val_be k (n / 256) (by omega) hd
    have hb := byteAt_nat n
    omega
end Go.Proofs.YtaifkidpdmhciaaGreat
