/- What is nothing: a vote, a cert, a block, a motion, what is known. -/
import Derived.Test.YtaidiomaaldphaaXThings
namespace Go.Proofs.Ytaidiomaaldphaa
open Go.RowKit
set_option linter.unusedVariables false
set_option linter.unusedSimpArgs false

def Vote.no (x : Vote) : Bool := x.h == 0 && x.r == 0 && x.s == 0 && x.has == false && x.bl == 0 && x.f == 0
def Cert.no (x : Cert) : Bool := x.h == 0 && x.r == 0 && x.s == 0 && !x.has && x.bl == 0 && ((x.fr.xs.length : Int) == 0)
def Header.no (x : Header) : Bool := x.c == 0 && x.h == 0 && x.pa == 0 && x.tx == 0 && x.gu == 0 && x.st == 0 && x.re == 0 && x.be == 0 && x.pr == 0
def Block.no (x : Block) : Bool := x.hd.no && ((x.tx.xs.length : Int) == 0) && ((x.gu.xs.length : Int) == 0)
def Motion.no (x : Motion) : Bool := x.ro == 0 && x.fr == 0 && x.bl.no && ((x.ba.xs.length : Int) == 0)
def Known.no (x : Known) : Bool := x.ce.no && x.bl.no

set_option maxHeartbeats 1600000 in
theorem noVote_any (x : Vote) (w : World) : Calls Try.prog 35 #[.agg #[.int .i64 x.h, .int .i64 x.r, .int .i64 x.s, .bool x.has, .int .u64 x.bl, .int .i64 x.f]] w fun e w' => e = .returned (.bool x.no) ∧ Below w.heap.size w w' := by
  go_enter Try.func35, Try.ntmps35
  go_wp2
  all_goals (go_ret; exact ⟨by simp [Vote.no, *], (Below.refl _ _).alloc (Nat.le_refl _) _⟩)

set_option maxHeartbeats 1600000 in
theorem noCert_any (x : Cert) (w : World) : Calls Try.prog 52 #[.agg #[.int .i64 x.h, .int .i64 x.r, .int .i64 x.s, .bool x.has, .int .u64 x.bl, .slice x.fr.la x.fr.xs.length x.fr.lc]] w fun e w' => e = .returned (.bool x.no) ∧ Below w.heap.size w w' := by
  go_enter Try.func52, Try.ntmps52
  go_wp2
  all_goals (go_ret; exact ⟨by simp [Cert.no, *], (Below.refl _ _).alloc (Nat.le_refl _) _⟩)



set_option maxHeartbeats 1600000 in
theorem noBlock_any (x : Block) (w : World) : Calls Try.prog 51 #[.agg #[.int .i64 x.hd.c, .int .i64 x.hd.h, .int .u64 x.hd.pa, .int .u64 x.hd.tx, .int .u64 x.hd.gu, .int .u64 x.hd.st, .int .u64 x.hd.re, .int .u64 x.hd.be, .int .i64 x.hd.pr, .slice x.tx.la x.tx.xs.length x.tx.lc, .slice x.gu.la x.gu.xs.length x.gu.lc]] w fun e w' => e = .returned (.bool x.no) ∧ Below w.heap.size w w' := by
  go_enter Try.func51, Try.ntmps51
  go_wp2
  all_goals (go_ret; exact ⟨by simp [Block.no, Header.no, *], (Below.refl _ _).alloc (Nat.le_refl _) _⟩)



set_option maxHeartbeats 1600000 in
theorem noMotion_any (x : Motion) (w : World) : Calls Try.prog 32 #[.agg #[.int .i64 x.ro, .int .i64 x.fr, .int .i64 x.bl.hd.c, .int .i64 x.bl.hd.h, .int .u64 x.bl.hd.pa, .int .u64 x.bl.hd.tx, .int .u64 x.bl.hd.gu, .int .u64 x.bl.hd.st, .int .u64 x.bl.hd.re, .int .u64 x.bl.hd.be, .int .i64 x.bl.hd.pr, .slice x.bl.tx.la x.bl.tx.xs.length x.bl.tx.lc, .slice x.bl.gu.la x.bl.gu.xs.length x.bl.gu.lc, .slice x.ba.la x.ba.xs.length x.ba.lc]] w fun e w' => e = .returned (.bool x.no) ∧ Below w.heap.size w w' := by
  have bA : Below w.heap.size w (w.alloc (.cells #[.int .i64 x.ro, .int .i64 x.fr, .int .i64 x.bl.hd.c, .int .i64 x.bl.hd.h, .int .u64 x.bl.hd.pa, .int .u64 x.bl.hd.tx, .int .u64 x.bl.hd.gu, .int .u64 x.bl.hd.st, .int .u64 x.bl.hd.re, .int .u64 x.bl.hd.be, .int .i64 x.bl.hd.pr, .slice x.bl.tx.la x.bl.tx.xs.length x.bl.tx.lc, .slice x.bl.gu.la x.bl.gu.xs.length x.bl.gu.lc, .slice x.ba.la x.ba.xs.length x.ba.lc] 47)) := (Below.refl _ _).alloc (Nat.le_refl _) _
  have kA := Blk.new w #[.int .i64 x.ro, .int .i64 x.fr, .int .i64 x.bl.hd.c, .int .i64 x.bl.hd.h, .int .u64 x.bl.hd.pa, .int .u64 x.bl.hd.tx, .int .u64 x.bl.hd.gu, .int .u64 x.bl.hd.st, .int .u64 x.bl.hd.re, .int .u64 x.bl.hd.be, .int .i64 x.bl.hd.pr, .slice x.bl.tx.la x.bl.tx.xs.length x.bl.tx.lc, .slice x.bl.gu.la x.bl.gu.xs.length x.bl.gu.lc, .slice x.ba.la x.ba.xs.length x.ba.lc] 47
  have key := noBlock_any x.bl (w.alloc (.cells #[.int .i64 x.ro, .int .i64 x.fr, .int .i64 x.bl.hd.c, .int .i64 x.bl.hd.h, .int .u64 x.bl.hd.pa, .int .u64 x.bl.hd.tx, .int .u64 x.bl.hd.gu, .int .u64 x.bl.hd.st, .int .u64 x.bl.hd.re, .int .u64 x.bl.hd.be, .int .i64 x.bl.hd.pr, .slice x.bl.tx.la x.bl.tx.xs.length x.bl.tx.lc, .slice x.bl.gu.la x.bl.gu.xs.length x.bl.gu.lc, .slice x.ba.la x.ba.xs.length x.ba.lc] 47))
  go_enter Try.func32, Try.ntmps32
  by_cases h1 : x.ro = 0
  rotate_left
  · have d1 : (x.ro == 0) = false := by simp [h1]
    clear key kA
    go_wp2
    go_ret
    exact ⟨by simp [Motion.no, h1], bA⟩
  have d1 : (x.ro == 0) = true := by simp [h1]
  by_cases h2 : x.fr = 0
  rotate_left
  · have d2 : (x.fr == 0) = false := by simp [h2]
    have HN : Hid (x.no = false) := by show _ = _; simp [Motion.no, h2]
    have H1 := show Hid (_ = _) from h1
    clear key kA h1
    go_wp2
    go_ret
    exact ⟨by rw [HN.out]; rfl, bA⟩
  have d2 : (x.fr == 0) = true := by simp [h2]
  have HN : Hid (x.no = (x.bl.no && ((x.ba.xs.length : Int) == 0))) := by show _ = _; simp [Motion.no, h1, h2]
  clear h1 h2
  go_wp2_with fail
  refine key.mono ?_
  rintro e w1 ⟨rfl, b1⟩
  have B1 := bA.trans (b1.mono bA.size)
  have k1 := kA.below b1 kA.lt
  have q13 := k1.cell 13
  simp only [List.getElem?_toArray, List.getElem?_cons_succ, List.getElem?_cons_zero] at q13
  have hz := k1.lt
  clear key kA
  cases hb : x.bl.no
  · have HB := show Hid (_ = _) from hb
    clear hb
    go_wp2
    go_ret
    exact ⟨by rw [HN.out, HB.out]; rfl, B1⟩
  · have HB := show Hid (_ = _) from hb
    clear hb
    go_wp2
    go_ret
    exact ⟨by rw [HN.out, HB.out]; simp, B1⟩

set_option maxHeartbeats 1600000 in
theorem noKnown_any (x : Known) (w : World) : Calls Try.prog 33 #[.agg #[.int .i64 x.ce.h, .int .i64 x.ce.r, .int .i64 x.ce.s, .bool x.ce.has, .int .u64 x.ce.bl, .slice x.ce.fr.la x.ce.fr.xs.length x.ce.fr.lc, .int .i64 x.bl.hd.c, .int .i64 x.bl.hd.h, .int .u64 x.bl.hd.pa, .int .u64 x.bl.hd.tx, .int .u64 x.bl.hd.gu, .int .u64 x.bl.hd.st, .int .u64 x.bl.hd.re, .int .u64 x.bl.hd.be, .int .i64 x.bl.hd.pr, .slice x.bl.tx.la x.bl.tx.xs.length x.bl.tx.lc, .slice x.bl.gu.la x.bl.gu.xs.length x.bl.gu.lc]] w fun e w' => e = .returned (.bool x.no) ∧ Below w.heap.size w w' := by
  have bA : Below w.heap.size w (w.alloc (.cells #[.int .i64 x.ce.h, .int .i64 x.ce.r, .int .i64 x.ce.s, .bool x.ce.has, .int .u64 x.ce.bl, .slice x.ce.fr.la x.ce.fr.xs.length x.ce.fr.lc, .int .i64 x.bl.hd.c, .int .i64 x.bl.hd.h, .int .u64 x.bl.hd.pa, .int .u64 x.bl.hd.tx, .int .u64 x.bl.hd.gu, .int .u64 x.bl.hd.st, .int .u64 x.bl.hd.re, .int .u64 x.bl.hd.be, .int .i64 x.bl.hd.pr, .slice x.bl.tx.la x.bl.tx.xs.length x.bl.tx.lc, .slice x.bl.gu.la x.bl.gu.xs.length x.bl.gu.lc] 52)) := (Below.refl _ _).alloc (Nat.le_refl _) _
  have kA := Blk.new w #[.int .i64 x.ce.h, .int .i64 x.ce.r, .int .i64 x.ce.s, .bool x.ce.has, .int .u64 x.ce.bl, .slice x.ce.fr.la x.ce.fr.xs.length x.ce.fr.lc, .int .i64 x.bl.hd.c, .int .i64 x.bl.hd.h, .int .u64 x.bl.hd.pa, .int .u64 x.bl.hd.tx, .int .u64 x.bl.hd.gu, .int .u64 x.bl.hd.st, .int .u64 x.bl.hd.re, .int .u64 x.bl.hd.be, .int .i64 x.bl.hd.pr, .slice x.bl.tx.la x.bl.tx.xs.length x.bl.tx.lc, .slice x.bl.gu.la x.bl.gu.xs.length x.bl.gu.lc] 52
  have key := noCert_any x.ce (w.alloc (.cells #[.int .i64 x.ce.h, .int .i64 x.ce.r, .int .i64 x.ce.s, .bool x.ce.has, .int .u64 x.ce.bl, .slice x.ce.fr.la x.ce.fr.xs.length x.ce.fr.lc, .int .i64 x.bl.hd.c, .int .i64 x.bl.hd.h, .int .u64 x.bl.hd.pa, .int .u64 x.bl.hd.tx, .int .u64 x.bl.hd.gu, .int .u64 x.bl.hd.st, .int .u64 x.bl.hd.re, .int .u64 x.bl.hd.be, .int .i64 x.bl.hd.pr, .slice x.bl.tx.la x.bl.tx.xs.length x.bl.tx.lc, .slice x.bl.gu.la x.bl.gu.xs.length x.bl.gu.lc] 52))
  go_enter Try.func33, Try.ntmps33
  go_wp2_with fail
  refine key.mono ?_
  rintro e w1 ⟨rfl, b1⟩
  have B1 := bA.trans (b1.mono bA.size)
  have k1 := kA.below b1 kA.lt
  clear key kA
  cases hc : x.ce.no
  · have HN : Hid (x.no = false) := by show _ = _; simp [Known.no, hc]
    clear hc
    go_wp2
    go_ret
    exact ⟨by rw [HN.out]; rfl, B1⟩
  have HN : Hid (x.no = x.bl.no) := by show _ = _; simp [Known.no, hc]
  clear hc
  have q6 := k1.cell 6
  have q7 := k1.cell 7
  have q8 := k1.cell 8
  have q9 := k1.cell 9
  have q10 := k1.cell 10
  have q11 := k1.cell 11
  have q12 := k1.cell 12
  have q13 := k1.cell 13
  have q14 := k1.cell 14
  have q15 := k1.cell 15
  have q16 := k1.cell 16
  simp only [List.getElem?_toArray, List.getElem?_cons_succ, List.getElem?_cons_zero] at q6 q7 q8 q9 q10 q11 q12 q13 q14 q15 q16
  have hz := k1.lt
  have key := noBlock_any x.bl w1
  clear k1
  go_wp2_with fail
  refine key.mono ?_
  rintro e w2 ⟨rfl, b2⟩
  have B2 := B1.trans (b2.mono B1.size)
  clear key
  go_wp2
  go_ret
  exact ⟨by rw [HN.out]; rfl, B2⟩
end Go.Proofs.Ytaidiomaaldphaa
