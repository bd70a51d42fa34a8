import Derived.Test.YtemjajljpoaioaaDoorM20
namespace Go.Proofs.YtemjajljpoaioaaDoor
open Go.RowKit
set_option linter.unusedVariables false
set_option linter.unusedSimpArgs false
set_option maxRecDepth 20000
set_option maxHeartbeats 8000000
def mostP (np nb : Nat) (lo : Int) (op : Nat) (a : Int) : Int := if ka op = 4 then (if 0 ≤ a ∧ a < np then a else -1) else endA np nb lo (ka op) - 1
def TblOk (c : Cd) (nb : Nat) (lo : Int) (op : Nat) (a b : Int) (e : Ending) : Prop :=
 ∃ t l : Int, e = .returned (.tuple #[.int .i64 t, .int .i64 l, .int .i64 (mostP c.ps.xs.length nb lo op a)]) ∧ (0 ≤ a → a < endA c.ps.xs.length nb lo (ka op) → t = takesP c.ps.xs ⟨op, a, b⟩ ∧ l = leavesP ⟨op, a, b⟩)
theorem wrap64_small {n : Int} (h0 : -9223372036854775808 ≤ n) (h1 : n ≤ 9223372036854775807) : wrap64 n = n := by unfold wrap64; omega
set_option maxHeartbeats 1600000 in
theorem table1 (c : Cd) (bla : Option Addr) (nb blc : Nat) (nm : ByteArray) (ob : Bool) (pa lo a b : Int) (w : World) (hl : 0 ≤ lo ∧ lo ≤ 32) (hn : nb ≤ 2048) : Calls Tryd.prog 14 #[.agg #[.slice c.ps.la c.ps.xs.length c.ps.lc, .slice c.ns.la c.ns.xs.length c.ns.lc], .agg #[.string nm, .bool ob, .int .i64 pa, .int .i64 lo, .slice bla nb blc], .agg #[.int .i64 1, .int .i64 a, .int .i64 b]] w fun e w' => TblOk c nb lo 1 a b e ∧ Below w.heap.size w w' := by
 have bA : Below w.heap.size w (w.alloc (.cells #[.slice c.ps.la c.ps.xs.length c.ps.lc, .slice c.ns.la c.ns.xs.length c.ns.lc] 25)) := (Below.refl _ _).alloc (Nat.le_refl _) _
 have bB := bA.alloc (o := .cells #[.string nm, .bool ob, .int .i64 pa, .int .i64 lo, .slice bla nb blc] 34) bA.size
 have bC := bB.alloc (o := .cells #[.int .i64 1, .int .i64 a, .int .i64 b] 31) bB.size
 clear bA bB
 go_enter Tryd.func14, Tryd.ntmps14
 go_wp2
 go_ret3
 exact ⟨⟨_, _, rfl, fun _ _ => ⟨rfl, rfl⟩⟩, bC⟩
set_option maxHeartbeats 1600000 in
theorem table2 (c : Cd) (bla : Option Addr) (nb blc : Nat) (nm : ByteArray) (ob : Bool) (pa lo a b : Int) (w : World) (hl : 0 ≤ lo ∧ lo ≤ 32) (hn : nb ≤ 2048) : Calls Tryd.prog 14 #[.agg #[.slice c.ps.la c.ps.xs.length c.ps.lc, .slice c.ns.la c.ns.xs.length c.ns.lc], .agg #[.string nm, .bool ob, .int .i64 pa, .int .i64 lo, .slice bla nb blc], .agg #[.int .i64 2, .int .i64 a, .int .i64 b]] w fun e w' => TblOk c nb lo 2 a b e ∧ Below w.heap.size w w' := by
 have bA : Below w.heap.size w (w.alloc (.cells #[.slice c.ps.la c.ps.xs.length c.ps.lc, .slice c.ns.la c.ns.xs.length c.ns.lc] 25)) := (Below.refl _ _).alloc (Nat.le_refl _) _
 have bB := bA.alloc (o := .cells #[.string nm, .bool ob, .int .i64 pa, .int .i64 lo, .slice bla nb blc] 34) bA.size
 have bC := bB.alloc (o := .cells #[.int .i64 2, .int .i64 a, .int .i64 b] 31) bB.size
 clear bA bB
 go_enter Tryd.func14, Tryd.ntmps14
 go_wp2
 go_ret3
 exact ⟨⟨_, _, rfl, fun _ _ => ⟨rfl, rfl⟩⟩, bC⟩
set_option maxHeartbeats 1600000 in
theorem table3 (c : Cd) (bla : Option Addr) (nb blc : Nat) (nm : ByteArray) (ob : Bool) (pa lo a b : Int) (w : World) (hl : 0 ≤ lo ∧ lo ≤ 32) (hn : nb ≤ 2048) : Calls Tryd.prog 14 #[.agg #[.slice c.ps.la c.ps.xs.length c.ps.lc, .slice c.ns.la c.ns.xs.length c.ns.lc], .agg #[.string nm, .bool ob, .int .i64 pa, .int .i64 lo, .slice bla nb blc], .agg #[.int .i64 3, .int .i64 a, .int .i64 b]] w fun e w' => TblOk c nb lo 3 a b e ∧ Below w.heap.size w w' := by
 have bA : Below w.heap.size w (w.alloc (.cells #[.slice c.ps.la c.ps.xs.length c.ps.lc, .slice c.ns.la c.ns.xs.length c.ns.lc] 25)) := (Below.refl _ _).alloc (Nat.le_refl _) _
 have bB := bA.alloc (o := .cells #[.string nm, .bool ob, .int .i64 pa, .int .i64 lo, .slice bla nb blc] 34) bA.size
 have bC := bB.alloc (o := .cells #[.int .i64 3, .int .i64 a, .int .i64 b] 31) bB.size
 clear bA bB
 go_enter Tryd.func14, Tryd.ntmps14
 go_wp2
 go_ret3
 exact ⟨⟨_, _, rfl, fun _ _ => ⟨rfl, rfl⟩⟩, bC⟩
set_option maxHeartbeats 1600000 in
theorem table4 (c : Cd) (bla : Option Addr) (nb blc : Nat) (nm : ByteArray) (ob : Bool) (pa lo a b : Int) (w : World) (hl : 0 ≤ lo ∧ lo ≤ 32) (hn : nb ≤ 2048) : Calls Tryd.prog 14 #[.agg #[.slice c.ps.la c.ps.xs.length c.ps.lc, .slice c.ns.la c.ns.xs.length c.ns.lc], .agg #[.string nm, .bool ob, .int .i64 pa, .int .i64 lo, .slice bla nb blc], .agg #[.int .i64 4, .int .i64 a, .int .i64 b]] w fun e w' => TblOk c nb lo 4 a b e ∧ Below w.heap.size w w' := by
 have bA : Below w.heap.size w (w.alloc (.cells #[.slice c.ps.la c.ps.xs.length c.ps.lc, .slice c.ns.la c.ns.xs.length c.ns.lc] 25)) := (Below.refl _ _).alloc (Nat.le_refl _) _
 have bB := bA.alloc (o := .cells #[.string nm, .bool ob, .int .i64 pa, .int .i64 lo, .slice bla nb blc] 34) bA.size
 have bC := bB.alloc (o := .cells #[.int .i64 4, .int .i64 a, .int .i64 b] 31) bB.size
 clear bA bB
 go_enter Tryd.func14, Tryd.ntmps14
 go_wp2
 go_ret3
 exact ⟨⟨_, _, rfl, fun _ _ => ⟨rfl, rfl⟩⟩, bC⟩
set_option maxHeartbeats 1600000 in
theorem table5 (c : Cd) (bla : Option Addr) (nb blc : Nat) (nm : ByteArray) (ob : Bool) (pa lo a b : Int) (w : World) (hl : 0 ≤ lo ∧ lo ≤ 32) (hn : nb ≤ 2048) : Calls Tryd.prog 14 #[.agg #[.slice c.ps.la c.ps.xs.length c.ps.lc, .slice c.ns.la c.ns.xs.length c.ns.lc], .agg #[.string nm, .bool ob, .int .i64 pa, .int .i64 lo, .slice bla nb blc], .agg #[.int .i64 5, .int .i64 a, .int .i64 b]] w fun e w' => TblOk c nb lo 5 a b e ∧ Below w.heap.size w w' := by
 have bA : Below w.heap.size w (w.alloc (.cells #[.slice c.ps.la c.ps.xs.length c.ps.lc, .slice c.ns.la c.ns.xs.length c.ns.lc] 25)) := (Below.refl _ _).alloc (Nat.le_refl _) _
 have bB := bA.alloc (o := .cells #[.string nm, .bool ob, .int .i64 pa, .int .i64 lo, .slice bla nb blc] 34) bA.size
 have bC := bB.alloc (o := .cells #[.int .i64 5, .int .i64 a, .int .i64 b] 31) bB.size
 clear bA bB
 go_enter Tryd.func14, Tryd.ntmps14
 go_wp2
 go_ret3
 exact ⟨⟨_, _, rfl, fun _ _ => ⟨rfl, rfl⟩⟩, bC⟩
set_option maxHeartbeats 1600000 in
theorem table6 (c : Cd) (bla : Option Addr) (nb blc : Nat) (nm : ByteArray) (ob : Bool) (pa lo a b : Int) (w : World) (hl : 0 ≤ lo ∧ lo ≤ 32) (hn : nb ≤ 2048) : Calls Tryd.prog 14 #[.agg #[.slice c.ps.la c.ps.xs.length c.ps.lc, .slice c.ns.la c.ns.xs.length c.ns.lc], .agg #[.string nm, .bool ob, .int .i64 pa, .int .i64 lo, .slice bla nb blc], .agg #[.int .i64 6, .int .i64 a, .int .i64 b]] w fun e w' => TblOk c nb lo 6 a b e ∧ Below w.heap.size w w' := by
 have bA : Below w.heap.size w (w.alloc (.cells #[.slice c.ps.la c.ps.xs.length c.ps.lc, .slice c.ns.la c.ns.xs.length c.ns.lc] 25)) := (Below.refl _ _).alloc (Nat.le_refl _) _
 have bB := bA.alloc (o := .cells #[.string nm, .bool ob, .int .i64 pa, .int .i64 lo, .slice bla nb blc] 34) bA.size
 have bC := bB.alloc (o := .cells #[.int .i64 6, .int .i64 a, .int .i64 b] 31) bB.size
 clear bA bB
 go_enter Tryd.func14, Tryd.ntmps14
 go_wp2
 go_ret3
 exact ⟨⟨_, _, rfl, fun _ _ => ⟨rfl, rfl⟩⟩, bC⟩
set_option maxHeartbeats 1600000 in
theorem table7 (c : Cd) (bla : Option Addr) (nb blc : Nat) (nm : ByteArray) (ob : Bool) (pa lo a b : Int) (w : World) (hl : 0 ≤ lo ∧ lo ≤ 32) (hn : nb ≤ 2048) : Calls Tryd.prog 14 #[.agg #[.slice c.ps.la c.ps.xs.length c.ps.lc, .slice c.ns.la c.ns.xs.length c.ns.lc], .agg #[.string nm, .bool ob, .int .i64 pa, .int .i64 lo, .slice bla nb blc], .agg #[.int .i64 7, .int .i64 a, .int .i64 b]] w fun e w' => TblOk c nb lo 7 a b e ∧ Below w.heap.size w w' := by
 have bA : Below w.heap.size w (w.alloc (.cells #[.slice c.ps.la c.ps.xs.length c.ps.lc, .slice c.ns.la c.ns.xs.length c.ns.lc] 25)) := (Below.refl _ _).alloc (Nat.le_refl _) _
 have bB := bA.alloc (o := .cells #[.string nm, .bool ob, .int .i64 pa, .int .i64 lo, .slice bla nb blc] 34) bA.size
 have bC := bB.alloc (o := .cells #[.int .i64 7, .int .i64 a, .int .i64 b] 31) bB.size
 clear bA bB
 go_enter Tryd.func14, Tryd.ntmps14
 go_wp2
 go_ret3
 exact ⟨⟨_, _, rfl, fun _ _ => ⟨rfl, rfl⟩⟩, bC⟩
set_option maxHeartbeats 1600000 in
theorem table8 (c : Cd) (bla : Option Addr) (nb blc : Nat) (nm : ByteArray) (ob : Bool) (pa lo a b : Int) (w : World) (hl : 0 ≤ lo ∧ lo ≤ 32) (hn : nb ≤ 2048) : Calls Tryd.prog 14 #[.agg #[.slice c.ps.la c.ps.xs.length c.ps.lc, .slice c.ns.la c.ns.xs.length c.ns.lc], .agg #[.string nm, .bool ob, .int .i64 pa, .int .i64 lo, .slice bla nb blc], .agg #[.int .i64 8, .int .i64 a, .int .i64 b]] w fun e w' => TblOk c nb lo 8 a b e ∧ Below w.heap.size w w' := by
 have bA : Below w.heap.size w (w.alloc (.cells #[.slice c.ps.la c.ps.xs.length c.ps.lc, .slice c.ns.la c.ns.xs.length c.ns.lc] 25)) := (Below.refl _ _).alloc (Nat.le_refl _) _
 have bB := bA.alloc (o := .cells #[.string nm, .bool ob, .int .i64 pa, .int .i64 lo, .slice bla nb blc] 34) bA.size
 have bC := bB.alloc (o := .cells #[.int .i64 8, .int .i64 a, .int .i64 b] 31) bB.size
 clear bA bB
 go_enter Tryd.func14, Tryd.ntmps14
 go_wp2
 go_ret3
 exact ⟨⟨_, _, rfl, fun _ _ => ⟨rfl, rfl⟩⟩, bC⟩
set_option maxHeartbeats 1600000 in
theorem table9 (c : Cd) (bla : Option Addr) (nb blc : Nat) (nm : ByteArray) (ob : Bool) (pa lo a b : Int) (w : World) (hl : 0 ≤ lo ∧ lo ≤ 32) (hn : nb ≤ 2048) : Calls Tryd.prog 14 #[.agg #[.slice c.ps.la c.ps.xs.length c.ps.lc, .slice c.ns.la c.ns.xs.length c.ns.lc], .agg #[.string nm, .bool ob, .int .i64 pa, .int .i64 lo, .slice bla nb blc], .agg #[.int .i64 9, .int .i64 a, .int .i64 b]] w fun e w' => TblOk c nb lo 9 a b e ∧ Below w.heap.size w w' := by
 have bA : Below w.heap.size w (w.alloc (.cells #[.slice c.ps.la c.ps.xs.length c.ps.lc, .slice c.ns.la c.ns.xs.length c.ns.lc] 25)) := (Below.refl _ _).alloc (Nat.le_refl _) _
 have bB := bA.alloc (o := .cells #[.string nm, .bool ob, .int .i64 pa, .int .i64 lo, .slice bla nb blc] 34) bA.size
 have bC := bB.alloc (o := .cells #[.int .i64 9, .int .i64 a, .int .i64 b] 31) bB.size
 clear bA bB
 go_enter Tryd.func14, Tryd.ntmps14
 go_wp2
 go_ret3
 exact ⟨⟨_, _, rfl, fun _ _ => ⟨rfl, rfl⟩⟩, bC⟩
set_option maxHeartbeats 1600000 in
theorem table10 (c : Cd) (bla : Option Addr) (nb blc : Nat) (nm : ByteArray) (ob : Bool) (pa lo a b : Int) (w : World) (hl : 0 ≤ lo ∧ lo ≤ 32) (hn : nb ≤ 2048) : Calls Tryd.prog 14 #[.agg #[.slice c.ps.la c.ps.xs.length c.ps.lc, .slice c.ns.la c.ns.xs.length c.ns.lc], .agg #[.string nm, .bool ob, .int .i64 pa, .int .i64 lo, .slice bla nb blc], .agg #[.int .i64 10, .int .i64 a, .int .i64 b]] w fun e w' => TblOk c nb lo 10 a b e ∧ Below w.heap.size w w' := by
 have bA : Below w.heap.size w (w.alloc (.cells #[.slice c.ps.la c.ps.xs.length c.ps.lc, .slice c.ns.la c.ns.xs.length c.ns.lc] 25)) := (Below.refl _ _).alloc (Nat.le_refl _) _
 have bB := bA.alloc (o := .cells #[.string nm, .bool ob, .int .i64 pa, .int .i64 lo, .slice bla nb blc] 34) bA.size
 have bC := bB.alloc (o := .cells #[.int .i64 10, .int .i64 a, .int .i64 b] 31) bB.size
 clear bA bB
 go_enter Tryd.func14, Tryd.ntmps14
 go_wp2
 go_ret3
 exact ⟨⟨_, _, rfl, fun _ _ => ⟨rfl, rfl⟩⟩, bC⟩
set_option maxHeartbeats 1600000 in
theorem table11 (c : Cd) (bla : Option Addr) (nb blc : Nat) (nm : ByteArray) (ob : Bool) (pa lo a b : Int) (w : World) (hl : 0 ≤ lo ∧ lo ≤ 32) (hn : nb ≤ 2048) : Calls Tryd.prog 14 #[.agg #[.slice c.ps.la c.ps.xs.length c.ps.lc, .slice c.ns.la c.ns.xs.length c.ns.lc], .agg #[.string nm, .bool ob, .int .i64 pa, .int .i64 lo, .slice bla nb blc], .agg #[.int .i64 11, .int .i64 a, .int .i64 b]] w fun e w' => TblOk c nb lo 11 a b e ∧ Below w.heap.size w w' := by
 have bA : Below w.heap.size w (w.alloc (.cells #[.slice c.ps.la c.ps.xs.length c.ps.lc, .slice c.ns.la c.ns.xs.length c.ns.lc] 25)) := (Below.refl _ _).alloc (Nat.le_refl _) _
 have bB := bA.alloc (o := .cells #[.string nm, .bool ob, .int .i64 pa, .int .i64 lo, .slice bla nb blc] 34) bA.size
 have bC := bB.alloc (o := .cells #[.int .i64 11, .int .i64 a, .int .i64 b] 31) bB.size
 clear bA bB
 go_enter Tryd.func14, Tryd.ntmps14
 go_wp2
 go_ret3
 exact ⟨⟨_, _, rfl, fun _ _ => ⟨rfl, rfl⟩⟩, bC⟩
set_option maxHeartbeats 1600000 in
theorem table12 (c : Cd) (bla : Option Addr) (nb blc : Nat) (nm : ByteArray) (ob : Bool) (pa lo a b : Int) (w : World) (hl : 0 ≤ lo ∧ lo ≤ 32) (hn : nb ≤ 2048) : Calls Tryd.prog 14 #[.agg #[.slice c.ps.la c.ps.xs.length c.ps.lc, .slice c.ns.la c.ns.xs.length c.ns.lc], .agg #[.string nm, .bool ob, .int .i64 pa, .int .i64 lo, .slice bla nb blc], .agg #[.int .i64 12, .int .i64 a, .int .i64 b]] w fun e w' => TblOk c nb lo 12 a b e ∧ Below w.heap.size w w' := by
 have bA : Below w.heap.size w (w.alloc (.cells #[.slice c.ps.la c.ps.xs.length c.ps.lc, .slice c.ns.la c.ns.xs.length c.ns.lc] 25)) := (Below.refl _ _).alloc (Nat.le_refl _) _
 have bB := bA.alloc (o := .cells #[.string nm, .bool ob, .int .i64 pa, .int .i64 lo, .slice bla nb blc] 34) bA.size
 have bC := bB.alloc (o := .cells #[.int .i64 12, .int .i64 a, .int .i64 b] 31) bB.size
 clear bA bB
 go_enter Tryd.func14, Tryd.ntmps14
 go_wp2
 go_ret3
 exact ⟨⟨_, _, rfl, fun _ _ => ⟨rfl, rfl⟩⟩, bC⟩
set_option maxHeartbeats 1600000 in
theorem table13 (c : Cd) (bla : Option Addr) (nb blc : Nat) (nm : ByteArray) (ob : Bool) (pa lo a b : Int) (w : World) (hl : 0 ≤ lo ∧ lo ≤ 32) (hn : nb ≤ 2048) : Calls Tryd.prog 14 #[.agg #[.slice c.ps.la c.ps.xs.length c.ps.lc, .slice c.ns.la c.ns.xs.length c.ns.lc], .agg #[.string nm, .bool ob, .int .i64 pa, .int .i64 lo, .slice bla nb blc], .agg #[.int .i64 13, .int .i64 a, .int .i64 b]] w fun e w' => TblOk c nb lo 13 a b e ∧ Below w.heap.size w w' := by
 have bA : Below w.heap.size w (w.alloc (.cells #[.slice c.ps.la c.ps.xs.length c.ps.lc, .slice c.ns.la c.ns.xs.length c.ns.lc] 25)) := (Below.refl _ _).alloc (Nat.le_refl _) _
 have bB := bA.alloc (o := .cells #[.string nm, .bool ob, .int .i64 pa, .int .i64 lo, .slice bla nb blc] 34) bA.size
 have bC := bB.alloc (o := .cells #[.int .i64 13, .int .i64 a, .int .i64 b] 31) bB.size
 clear bA bB
 go_enter Tryd.func14, Tryd.ntmps14
 go_wp2
 go_ret3
 exact ⟨⟨_, _, rfl, fun _ _ => ⟨rfl, rfl⟩⟩, bC⟩
set_option maxHeartbeats 1600000 in
theorem table14 (c : Cd) (bla : Option Addr) (nb blc : Nat) (nm : ByteArray) (ob : Bool) (pa lo a b : Int) (w : World) (hl : 0 ≤ lo ∧ lo ≤ 32) (hn : nb ≤ 2048) : Calls Tryd.prog 14 #[.agg #[.slice c.ps.la c.ps.xs.length c.ps.lc, .slice c.ns.la c.ns.xs.length c.ns.lc], .agg #[.string nm, .bool ob, .int .i64 pa, .int .i64 lo, .slice bla nb blc], .agg #[.int .i64 14, .int .i64 a, .int .i64 b]] w fun e w' => TblOk c nb lo 14 a b e ∧ Below w.heap.size w w' := by
 have bA : Below w.heap.size w (w.alloc (.cells #[.slice c.ps.la c.ps.xs.length c.ps.lc, .slice c.ns.la c.ns.xs.length c.ns.lc] 25)) := (Below.refl _ _).alloc (Nat.le_refl _) _
 have bB := bA.alloc (o := .cells #[.string nm, .bool ob, .int .i64 pa, .int .i64 lo, .slice bla nb blc] 34) bA.size
 have bC := bB.alloc (o := .cells #[.int .i64 14, .int .i64 a, .int .i64 b] 31) bB.size
 clear bA bB
 go_enter Tryd.func14, Tryd.ntmps14
 go_wp2
 go_ret3
 exact ⟨⟨_, _, rfl, fun _ _ => ⟨rfl, rfl⟩⟩, bC⟩
set_option maxHeartbeats 1600000 in
theorem table15 (c : Cd) (bla : Option Addr) (nb blc : Nat) (nm : ByteArray) (ob : Bool) (pa lo a b : Int) (w : World) (hl : 0 ≤ lo ∧ lo ≤ 32) (hn : nb ≤ 2048) : Calls Tryd.prog 14 #[.agg #[.slice c.ps.la c.ps.xs.length c.ps.lc, .slice c.ns.la c.ns.xs.length c.ns.lc], .agg #[.string nm, .bool ob, .int .i64 pa, .int .i64 lo, .slice bla nb blc], .agg #[.int .i64 15, .int .i64 a, .int .i64 b]] w fun e w' => TblOk c nb lo 15 a b e ∧ Below w.heap.size w w' := by
 have bA : Below w.heap.size w (w.alloc (.cells #[.slice c.ps.la c.ps.xs.length c.ps.lc, .slice c.ns.la c.ns.xs.length c.ns.lc] 25)) := (Below.refl _ _).alloc (Nat.le_refl _) _
 have bB := bA.alloc (o := .cells #[.string nm, .bool ob, .int .i64 pa, .int .i64 lo, .slice bla nb blc] 34) bA.size
 have bC := bB.alloc (o := .cells #[.int .i64 15, .int .i64 a, .int .i64 b] 31) bB.size
 clear bA bB
 go_enter Tryd.func14, Tryd.ntmps14
 go_wp2
 go_ret3
 exact ⟨⟨_, _, rfl, fun _ _ => ⟨rfl, rfl⟩⟩, bC⟩
set_option maxHeartbeats 1600000 in
theorem table17 (c : Cd) (bla : Option Addr) (nb blc : Nat) (nm : ByteArray) (ob : Bool) (pa lo a b : Int) (w : World) (hl : 0 ≤ lo ∧ lo ≤ 32) (hn : nb ≤ 2048) : Calls Tryd.prog 14 #[.agg #[.slice c.ps.la c.ps.xs.length c.ps.lc, .slice c.ns.la c.ns.xs.length c.ns.lc], .agg #[.string nm, .bool ob, .int .i64 pa, .int .i64 lo, .slice bla nb blc], .agg #[.int .i64 17, .int .i64 a, .int .i64 b]] w fun e w' => TblOk c nb lo 17 a b e ∧ Below w.heap.size w w' := by
 have bA : Below w.heap.size w (w.alloc (.cells #[.slice c.ps.la c.ps.xs.length c.ps.lc, .slice c.ns.la c.ns.xs.length c.ns.lc] 25)) := (Below.refl _ _).alloc (Nat.le_refl _) _
 have bB := bA.alloc (o := .cells #[.string nm, .bool ob, .int .i64 pa, .int .i64 lo, .slice bla nb blc] 34) bA.size
 have bC := bB.alloc (o := .cells #[.int .i64 17, .int .i64 a, .int .i64 b] 31) bB.size
 clear bA bB
 go_enter Tryd.func14, Tryd.ntmps14
 go_wp2
 go_ret3
 exact ⟨⟨_, _, rfl, fun _ _ => ⟨rfl, rfl⟩⟩, bC⟩
set_option maxHeartbeats 1600000 in
theorem table18 (c : Cd) (bla : Option Addr) (nb blc : Nat) (nm : ByteArray) (ob : Bool) (pa lo a b : Int) (w : World) (hl : 0 ≤ lo ∧ lo ≤ 32) (hn : nb ≤ 2048) : Calls Tryd.prog 14 #[.agg #[.slice c.ps.la c.ps.xs.length c.ps.lc, .slice c.ns.la c.ns.xs.length c.ns.lc], .agg #[.string nm, .bool ob, .int .i64 pa, .int .i64 lo, .slice bla nb blc], .agg #[.int .i64 18, .int .i64 a, .int .i64 b]] w fun e w' => TblOk c nb lo 18 a b e ∧ Below w.heap.size w w' := by
 have bA : Below w.heap.size w (w.alloc (.cells #[.slice c.ps.la c.ps.xs.length c.ps.lc, .slice c.ns.la c.ns.xs.length c.ns.lc] 25)) := (Below.refl _ _).alloc (Nat.le_refl _) _
 have bB := bA.alloc (o := .cells #[.string nm, .bool ob, .int .i64 pa, .int .i64 lo, .slice bla nb blc] 34) bA.size
 have bC := bB.alloc (o := .cells #[.int .i64 18, .int .i64 a, .int .i64 b] 31) bB.size
 clear bA bB
 go_enter Tryd.func14, Tryd.ntmps14
 go_wp2
 go_ret3
 exact ⟨⟨_, _, rfl, fun _ _ => ⟨rfl, rfl⟩⟩, bC⟩
set_option maxHeartbeats 1600000 in
theorem table19 (c : Cd) (bla : Option Addr) (nb blc : Nat) (nm : ByteArray) (ob : Bool) (pa lo a b : Int) (w : World) (hl : 0 ≤ lo ∧ lo ≤ 32) (hn : nb ≤ 2048) : Calls Tryd.prog 14 #[.agg #[.slice c.ps.la c.ps.xs.length c.ps.lc, .slice c.ns.la c.ns.xs.length c.ns.lc], .agg #[.string nm, .bool ob, .int .i64 pa, .int .i64 lo, .slice bla nb blc], .agg #[.int .i64 19, .int .i64 a, .int .i64 b]] w fun e w' => TblOk c nb lo 19 a b e ∧ Below w.heap.size w w' := by
 have bA : Below w.heap.size w (w.alloc (.cells #[.slice c.ps.la c.ps.xs.length c.ps.lc, .slice c.ns.la c.ns.xs.length c.ns.lc] 25)) := (Below.refl _ _).alloc (Nat.le_refl _) _
 have bB := bA.alloc (o := .cells #[.string nm, .bool ob, .int .i64 pa, .int .i64 lo, .slice bla nb blc] 34) bA.size
 have bC := bB.alloc (o := .cells #[.int .i64 19, .int .i64 a, .int .i64 b] 31) bB.size
 clear bA bB
 go_enter Tryd.func14, Tryd.ntmps14
 go_wp2
 go_ret3
 exact ⟨⟨_, _, rfl, fun _ _ => ⟨rfl, rfl⟩⟩, bC⟩
set_option maxHeartbeats 1600000 in
theorem table20 (c : Cd) (bla : Option Addr) (nb blc : Nat) (nm : ByteArray) (ob : Bool) (pa lo a b : Int) (w : World) (hl : 0 ≤ lo ∧ lo ≤ 32) (hn : nb ≤ 2048) : Calls Tryd.prog 14 #[.agg #[.slice c.ps.la c.ps.xs.length c.ps.lc, .slice c.ns.la c.ns.xs.length c.ns.lc], .agg #[.string nm, .bool ob, .int .i64 pa, .int .i64 lo, .slice bla nb blc], .agg #[.int .i64 20, .int .i64 a, .int .i64 b]] w fun e w' => TblOk c nb lo 20 a b e ∧ Below w.heap.size w w' := by
 have bA : Below w.heap.size w (w.alloc (.cells #[.slice c.ps.la c.ps.xs.length c.ps.lc, .slice c.ns.la c.ns.xs.length c.ns.lc] 25)) := (Below.refl _ _).alloc (Nat.le_refl _) _
 have bB := bA.alloc (o := .cells #[.string nm, .bool ob, .int .i64 pa, .int .i64 lo, .slice bla nb blc] 34) bA.size
 have bC := bB.alloc (o := .cells #[.int .i64 20, .int .i64 a, .int .i64 b] 31) bB.size
 clear bA bB
 go_enter Tryd.func14, Tryd.ntmps14
 go_wp2
 go_ret3
 exact ⟨⟨_, _, rfl, fun _ _ => ⟨rfl, rfl⟩⟩, bC⟩
set_option maxHeartbeats 1600000 in
theorem table21 (c : Cd) (bla : Option Addr) (nb blc : Nat) (nm : ByteArray) (ob : Bool) (pa lo a b : Int) (w : World) (hl : 0 ≤ lo ∧ lo ≤ 32) (hn : nb ≤ 2048) : Calls Tryd.prog 14 #[.agg #[.slice c.ps.la c.ps.xs.length c.ps.lc, .slice c.ns.la c.ns.xs.length c.ns.lc], .agg #[.string nm, .bool ob, .int .i64 pa, .int .i64 lo, .slice bla nb blc], .agg #[.int .i64 21, .int .i64 a, .int .i64 b]] w fun e w' => TblOk c nb lo 21 a b e ∧ Below w.heap.size w w' := by
 have bA : Below w.heap.size w (w.alloc (.cells #[.slice c.ps.la c.ps.xs.length c.ps.lc, .slice c.ns.la c.ns.xs.length c.ns.lc] 25)) := (Below.refl _ _).alloc (Nat.le_refl _) _
 have bB := bA.alloc (o := .cells #[.string nm, .bool ob, .int .i64 pa, .int .i64 lo, .slice bla nb blc] 34) bA.size
 have bC := bB.alloc (o := .cells #[.int .i64 21, .int .i64 a, .int .i64 b] 31) bB.size
 clear bA bB
 go_enter Tryd.func14, Tryd.ntmps14
 go_wp2
 go_ret3
 exact ⟨⟨_, _, rfl, fun _ _ => ⟨rfl, rfl⟩⟩, bC⟩
set_option maxHeartbeats 1600000 in
theorem table22 (c : Cd) (bla : Option Addr) (nb blc : Nat) (nm : ByteArray) (ob : Bool) (pa lo a b : Int) (w : World) (hl : 0 ≤ lo ∧ lo ≤ 32) (hn : nb ≤ 2048) : Calls Tryd.prog 14 #[.agg #[.slice c.ps.la c.ps.xs.length c.ps.lc, .slice c.ns.la c.ns.xs.length c.ns.lc], .agg #[.string nm, .bool ob, .int .i64 pa, .int .i64 lo, .slice bla nb blc], .agg #[.int .i64 22, .int .i64 a, .int .i64 b]] w fun e w' => TblOk c nb lo 22 a b e ∧ Below w.heap.size w w' := by
 have bA : Below w.heap.size w (w.alloc (.cells #[.slice c.ps.la c.ps.xs.length c.ps.lc, .slice c.ns.la c.ns.xs.length c.ns.lc] 25)) := (Below.refl _ _).alloc (Nat.le_refl _) _
 have bB := bA.alloc (o := .cells #[.string nm, .bool ob, .int .i64 pa, .int .i64 lo, .slice bla nb blc] 34) bA.size
 have bC := bB.alloc (o := .cells #[.int .i64 22, .int .i64 a, .int .i64 b] 31) bB.size
 clear bA bB
 go_enter Tryd.func14, Tryd.ntmps14
 go_wp2
 go_ret3
 exact ⟨⟨_, _, rfl, fun _ _ => ⟨rfl, rfl⟩⟩, bC⟩
set_option maxHeartbeats 1600000 in
theorem table23 (c : Cd) (bla : Option Addr) (nb blc : Nat) (nm : ByteArray) (ob : Bool) (pa lo a b : Int) (w : World) (hl : 0 ≤ lo ∧ lo ≤ 32) (hn : nb ≤ 2048) : Calls Tryd.prog 14 #[.agg #[.slice c.ps.la c.ps.xs.length c.ps.lc, .slice c.ns.la c.ns.xs.length c.ns.lc], .agg #[.string nm, .bool ob, .int .i64 pa, .int .i64 lo, .slice bla nb blc], .agg #[.int .i64 23, .int .i64 a, .int .i64 b]] w fun e w' => TblOk c nb lo 23 a b e ∧ Below w.heap.size w w' := by
 have bA : Below w.heap.size w (w.alloc (.cells #[.slice c.ps.la c.ps.xs.length c.ps.lc, .slice c.ns.la c.ns.xs.length c.ns.lc] 25)) := (Below.refl _ _).alloc (Nat.le_refl _) _
 have bB := bA.alloc (o := .cells #[.string nm, .bool ob, .int .i64 pa, .int .i64 lo, .slice bla nb blc] 34) bA.size
 have bC := bB.alloc (o := .cells #[.int .i64 23, .int .i64 a, .int .i64 b] 31) bB.size
 clear bA bB
 go_enter Tryd.func14, Tryd.ntmps14
 go_wp2
 go_ret3
 exact ⟨⟨_, _, rfl, fun _ _ => ⟨rfl, rfl⟩⟩, bC⟩
set_option maxHeartbeats 1600000 in
theorem table24 (c : Cd) (bla : Option Addr) (nb blc : Nat) (nm : ByteArray) (ob : Bool) (pa lo a b : Int) (w : World) (hl : 0 ≤ lo ∧ lo ≤ 32) (hn : nb ≤ 2048) : Calls Tryd.prog 14 #[.agg #[.slice c.ps.la c.ps.xs.length c.ps.lc, .slice c.ns.la c.ns.xs.length c.ns.lc], .agg #[.string nm, .bool ob, .int .i64 pa, .int .i64 lo, .slice bla nb blc], .agg #[.int .i64 24, .int .i64 a, .int .i64 b]] w fun e w' => TblOk c nb lo 24 a b e ∧ Below w.heap.size w w' := by
 have bA : Below w.heap.size w (w.alloc (.cells #[.slice c.ps.la c.ps.xs.length c.ps.lc, .slice c.ns.la c.ns.xs.length c.ns.lc] 25)) := (Below.refl _ _).alloc (Nat.le_refl _) _
 have bB := bA.alloc (o := .cells #[.string nm, .bool ob, .int .i64 pa, .int .i64 lo, .slice bla nb blc] 34) bA.size
 have bC := bB.alloc (o := .cells #[.int .i64 24, .int .i64 a, .int .i64 b] 31) bB.size
 clear bA bB
 go_enter Tryd.func14, Tryd.ntmps14
 go_wp2
 go_ret3
 exact ⟨⟨_, _, rfl, fun _ _ => ⟨rfl, rfl⟩⟩, bC⟩
set_option maxHeartbeats 1600000 in
theorem table25 (c : Cd) (bla : Option Addr) (nb blc : Nat) (nm : ByteArray) (ob : Bool) (pa lo a b : Int) (w : World) (hl : 0 ≤ lo ∧ lo ≤ 32) (hn : nb ≤ 2048) : Calls Tryd.prog 14 #[.agg #[.slice c.ps.la c.ps.xs.length c.ps.lc, .slice c.ns.la c.ns.xs.length c.ns.lc], .agg #[.string nm, .bool ob, .int .i64 pa, .int .i64 lo, .slice bla nb blc], .agg #[.int .i64 25, .int .i64 a, .int .i64 b]] w fun e w' => TblOk c nb lo 25 a b e ∧ Below w.heap.size w w' := by
 have bA : Below w.heap.size w (w.alloc (.cells #[.slice c.ps.la c.ps.xs.length c.ps.lc, .slice c.ns.la c.ns.xs.length c.ns.lc] 25)) := (Below.refl _ _).alloc (Nat.le_refl _) _
 have bB := bA.alloc (o := .cells #[.string nm, .bool ob, .int .i64 pa, .int .i64 lo, .slice bla nb blc] 34) bA.size
 have bC := bB.alloc (o := .cells #[.int .i64 25, .int .i64 a, .int .i64 b] 31) bB.size
 clear bA bB
 go_enter Tryd.func14, Tryd.ntmps14
 go_wp2
 go_ret3
 exact ⟨⟨_, _, rfl, fun _ _ => ⟨rfl, rfl⟩⟩, bC⟩
set_option maxHeartbeats 1600000 in
theorem table26 (c : Cd) (bla : Option Addr) (nb blc : Nat) (nm : ByteArray) (ob : Bool) (pa lo a b : Int) (w : World) (hl : 0 ≤ lo ∧ lo ≤ 32) (hn : nb ≤ 2048) : Calls Tryd.prog 14 #[.agg #[.slice c.ps.la c.ps.xs.length c.ps.lc, .slice c.ns.la c.ns.xs.length c.ns.lc], .agg #[.string nm, .bool ob, .int .i64 pa, .int .i64 lo, .slice bla nb blc], .agg #[.int .i64 26, .int .i64 a, .int .i64 b]] w fun e w' => TblOk c nb lo 26 a b e ∧ Below w.heap.size w w' := by
 have bA : Below w.heap.size w (w.alloc (.cells #[.slice c.ps.la c.ps.xs.length c.ps.lc, .slice c.ns.la c.ns.xs.length c.ns.lc] 25)) := (Below.refl _ _).alloc (Nat.le_refl _) _
 have bB := bA.alloc (o := .cells #[.string nm, .bool ob, .int .i64 pa, .int .i64 lo, .slice bla nb blc] 34) bA.size
 have bC := bB.alloc (o := .cells #[.int .i64 26, .int .i64 a, .int .i64 b] 31) bB.size
 clear bA bB
 go_enter Tryd.func14, Tryd.ntmps14
 go_wp2
 go_ret3
 exact ⟨⟨_, _, rfl, fun _ _ => ⟨rfl, rfl⟩⟩, bC⟩
set_option maxHeartbeats 1600000 in
theorem table27 (c : Cd) (bla : Option Addr) (nb blc : Nat) (nm : ByteArray) (ob : Bool) (pa lo a b : Int) (w : World) (hl : 0 ≤ lo ∧ lo ≤ 32) (hn : nb ≤ 2048) : Calls Tryd.prog 14 #[.agg #[.slice c.ps.la c.ps.xs.length c.ps.lc, .slice c.ns.la c.ns.xs.length c.ns.lc], .agg #[.string nm, .bool ob, .int .i64 pa, .int .i64 lo, .slice bla nb blc], .agg #[.int .i64 27, .int .i64 a, .int .i64 b]] w fun e w' => TblOk c nb lo 27 a b e ∧ Below w.heap.size w w' := by
 have bA : Below w.heap.size w (w.alloc (.cells #[.slice c.ps.la c.ps.xs.length c.ps.lc, .slice c.ns.la c.ns.xs.length c.ns.lc] 25)) := (Below.refl _ _).alloc (Nat.le_refl _) _
 have bB := bA.alloc (o := .cells #[.string nm, .bool ob, .int .i64 pa, .int .i64 lo, .slice bla nb blc] 34) bA.size
 have bC := bB.alloc (o := .cells #[.int .i64 27, .int .i64 a, .int .i64 b] 31) bB.size
 clear bA bB
 go_enter Tryd.func14, Tryd.ntmps14
 go_wp2
 go_ret3
 exact ⟨⟨_, _, rfl, fun _ _ => ⟨rfl, rfl⟩⟩, bC⟩
set_option maxHeartbeats 1600000 in
theorem table28 (c : Cd) (bla : Option Addr) (nb blc : Nat) (nm : ByteArray) (ob : Bool) (pa lo a b : Int) (w : World) (hl : 0 ≤ lo ∧ lo ≤ 32) (hn : nb ≤ 2048) : Calls Tryd.prog 14 #[.agg #[.slice c.ps.la c.ps.xs.length c.ps.lc, .slice c.ns.la c.ns.xs.length c.ns.lc], .agg #[.string nm, .bool ob, .int .i64 pa, .int .i64 lo, .slice bla nb blc], .agg #[.int .i64 28, .int .i64 a, .int .i64 b]] w fun e w' => TblOk c nb lo 28 a b e ∧ Below w.heap.size w w' := by
 have bA : Below w.heap.size w (w.alloc (.cells #[.slice c.ps.la c.ps.xs.length c.ps.lc, .slice c.ns.la c.ns.xs.length c.ns.lc] 25)) := (Below.refl _ _).alloc (Nat.le_refl _) _
 have bB := bA.alloc (o := .cells #[.string nm, .bool ob, .int .i64 pa, .int .i64 lo, .slice bla nb blc] 34) bA.size
 have bC := bB.alloc (o := .cells #[.int .i64 28, .int .i64 a, .int .i64 b] 31) bB.size
 clear bA bB
 go_enter Tryd.func14, Tryd.ntmps14
 go_wp2
 go_ret3
 exact ⟨⟨_, _, rfl, fun _ _ => ⟨rfl, rfl⟩⟩, bC⟩
set_option maxHeartbeats 1600000 in
theorem table29 (c : Cd) (bla : Option Addr) (nb blc : Nat) (nm : ByteArray) (ob : Bool) (pa lo a b : Int) (w : World) (hl : 0 ≤ lo ∧ lo ≤ 32) (hn : nb ≤ 2048) : Calls Tryd.prog 14 #[.agg #[.slice c.ps.la c.ps.xs.length c.ps.lc, .slice c.ns.la c.ns.xs.length c.ns.lc], .agg #[.string nm, .bool ob, .int .i64 pa, .int .i64 lo, .slice bla nb blc], .agg #[.int .i64 29, .int .i64 a, .int .i64 b]] w fun e w' => TblOk c nb lo 29 a b e ∧ Below w.heap.size w w' := by
 have bA : Below w.heap.size w (w.alloc (.cells #[.slice c.ps.la c.ps.xs.length c.ps.lc, .slice c.ns.la c.ns.xs.length c.ns.lc] 25)) := (Below.refl _ _).alloc (Nat.le_refl _) _
 have bB := bA.alloc (o := .cells #[.string nm, .bool ob, .int .i64 pa, .int .i64 lo, .slice bla nb blc] 34) bA.size
 have bC := bB.alloc (o := .cells #[.int .i64 29, .int .i64 a, .int .i64 b] 31) bB.size
 clear bA bB
 go_enter Tryd.func14, Tryd.ntmps14
 go_wp2
 go_ret3
 exact ⟨⟨_, _, rfl, fun _ _ => ⟨rfl, rfl⟩⟩, bC⟩
set_option maxHeartbeats 1600000 in
theorem table30 (c : Cd) (bla : Option Addr) (nb blc : Nat) (nm : ByteArray) (ob : Bool) (pa lo a b : Int) (w : World) (hl : 0 ≤ lo ∧ lo ≤ 32) (hn : nb ≤ 2048) : Calls Tryd.prog 14 #[.agg #[.slice c.ps.la c.ps.xs.length c.ps.lc, .slice c.ns.la c.ns.xs.length c.ns.lc], .agg #[.string nm, .bool ob, .int .i64 pa, .int .i64 lo, .slice bla nb blc], .agg #[.int .i64 30, .int .i64 a, .int .i64 b]] w fun e w' => TblOk c nb lo 30 a b e ∧ Below w.heap.size w w' := by
 have bA : Below w.heap.size w (w.alloc (.cells #[.slice c.ps.la c.ps.xs.length c.ps.lc, .slice c.ns.la c.ns.xs.length c.ns.lc] 25)) := (Below.refl _ _).alloc (Nat.le_refl _) _
 have bB := bA.alloc (o := .cells #[.string nm, .bool ob, .int .i64 pa, .int .i64 lo, .slice bla nb blc] 34) bA.size
 have bC := bB.alloc (o := .cells #[.int .i64 30, .int .i64 a, .int .i64 b] 31) bB.size
 clear bA bB
 go_enter Tryd.func14, Tryd.ntmps14
 go_wp2
 go_ret3
 exact ⟨⟨_, _, rfl, fun h0 h1 => ⟨by simp [takesP, ka, tkC, shp, endA] at h1 ⊢; rw [wrap64_small (by omega) (by omega)]; omega, rfl⟩⟩, bC⟩
set_option maxHeartbeats 1600000 in
theorem table16 (base : Nat) (c : Cd) (bla : Option Addr) (nb blc : Nat) (nm : ByteArray) (ob : Bool) (pa lo a b : Int) (w : World) (hl : 0 ≤ lo ∧ lo ≤ 32) (hn : nb ≤ 2048) (hp32 : c.ps.xs.length ≤ 32) (hB : base ≤ w.heap.size) (P : PsAt base w c) : Calls Tryd.prog 14 #[.agg #[.slice c.ps.la c.ps.xs.length c.ps.lc, .slice c.ns.la c.ns.xs.length c.ns.lc], .agg #[.string nm, .bool ob, .int .i64 pa, .int .i64 lo, .slice bla nb blc], .agg #[.int .i64 16, .int .i64 a, .int .i64 b]] w fun e w' => TblOk c nb lo 16 a b e ∧ Below w.heap.size w w' := by
 have bA : Below w.heap.size w (w.alloc (.cells #[.slice c.ps.la c.ps.xs.length c.ps.lc, .slice c.ns.la c.ns.xs.length c.ns.lc] 25)) := (Below.refl _ _).alloc (Nat.le_refl _) _
 have bB := bA.alloc (o := .cells #[.string nm, .bool ob, .int .i64 pa, .int .i64 lo, .slice bla nb blc] 34) bA.size
 have bC := bB.alloc (o := .cells #[.int .i64 16, .int .i64 a, .int .i64 b] 31) bB.size
 clear bA bB
 by_cases h0 : 0 ≤ a
 rotate_left
 ·have d0 : decide (a < 0) = true := by simp; omega
  have hm : mostP c.ps.xs.length nb lo 16 a = -1 := by simp [mostP, ka, shp, h0]
  have HM := show Hid (_ = _) from hm
  clear P hm
  go_enter Tryd.func14, Tryd.ntmps14
  go_wp2
  go_ret3
  exact ⟨⟨0, 0, by rw [HM.out]; rfl, fun h => absurd h (by omega)⟩, bC⟩
 have d0 : decide (a < 0) = false := by simp; omega
 obtain ⟨n, rfl⟩ := Int.eq_ofNat_of_zero_le h0
 by_cases h1 : n < c.ps.xs.length
 rotate_left
 ·have d1 : (c.ps.xs.length : Int) ≤ (n : Int) := by omega
  have hm : mostP c.ps.xs.length nb lo 16 n = -1 := by simp [mostP, ka, shp]; omega
  have HM := show Hid (_ = _) from hm
  clear P hm
  go_enter Tryd.func14, Tryd.ntmps14
  go_wp2
  go_ret3
  exact ⟨⟨0, 0, by rw [HM.out]; rfl, fun _ h => absurd h (by simp [endA, ka, shp]; omega)⟩, bC⟩
 have d1 : ¬ (c.ps.xs.length : Int) ≤ (n : Int) := by omega
 have hm : mostP c.ps.xs.length nb lo 16 n = n := by simp [mostP, ka, shp]; omega
 have HM := show Hid (_ = _) from hm
 obtain ⟨rb, ro, e, hb, hz, hc⟩ := P.param n h1
 have hc2 := (bC.cell (p := ⟨rb, ro + n * 5 + 2, none⟩) hz).trans hc
 rw [e] at bC hc2
 rw [e]
 clear P hc hm
 go_enter Tryd.func14, Tryd.ntmps14
 go_wp2_with fail
 go_quiet (fail)
 go_wp2
 go_ret3
 exact ⟨⟨paramsAt c.ps.xs n, 1, by rw [HM.out]; rfl, fun _ _ => ⟨by simp [takesP, ka, tkC, shp], rfl⟩⟩, below_drewN bC _⟩
theorem table_any (base : Nat) (c : Cd) (op : Nat) (bla : Option Addr) (nb blc : Nat) (nm : ByteArray) (ob : Bool) (pa lo a b : Int) (w : World) (ho1 : 1 ≤ op) (ho : op < 31) (hl : 0 ≤ lo ∧ lo ≤ 32) (hn : nb ≤ 2048) (hp32 : c.ps.xs.length ≤ 32) (hB : base ≤ w.heap.size) (P : PsAt base w c) : Calls Tryd.prog 14 #[.agg #[.slice c.ps.la c.ps.xs.length c.ps.lc, .slice c.ns.la c.ns.xs.length c.ns.lc], .agg #[.string nm, .bool ob, .int .i64 pa, .int .i64 lo, .slice bla nb blc], .agg #[.int .i64 op, .int .i64 a, .int .i64 b]] w fun e w' => TblOk c nb lo op a b e ∧ Below w.heap.size w w' := by
 have hop : op = 1 ∨ op = 2 ∨ op = 3 ∨ op = 4 ∨ op = 5 ∨ op = 6 ∨ op = 7 ∨ op = 8 ∨ op = 9 ∨ op = 10 ∨ op = 11 ∨ op = 12 ∨ op = 13 ∨ op = 14 ∨ op = 15 ∨ op = 16 ∨ op = 17 ∨ op = 18 ∨ op = 19 ∨ op = 20 ∨ op = 21 ∨ op = 22 ∨ op = 23 ∨ op = 24 ∨ op = 25 ∨ op = 26 ∨ op = 27 ∨ op = 28 ∨ op = 29 ∨ op = 30 := by omega
 rcases hop with rfl | rfl | rfl | rfl | rfl | rfl | rfl | rfl | rfl | rfl | rfl | rfl | rfl | rfl | rfl | rfl | rfl | rfl | rfl | rfl | rfl | rfl | rfl | rfl | rfl | rfl | rfl | rfl | rfl | rfl
 ·exact table1 c bla nb blc nm ob pa lo a b w hl hn
 ·exact table2 c bla nb blc nm ob pa lo a b w hl hn
 ·exact table3 c bla nb blc nm ob pa lo a b w hl hn
 ·exact table4 c bla nb blc nm ob pa lo a b w hl hn
 ·exact table5 c bla nb blc nm ob pa lo a b w hl hn
 ·exact table6 c bla nb blc nm ob pa lo a b w hl hn
 ·exact table7 c bla nb blc nm ob pa lo a b w hl hn
 ·exact table8 c bla nb blc nm ob pa lo a b w hl hn
 ·exact table9 c bla nb blc nm ob pa lo a b w hl hn
 ·exact table10 c bla nb blc nm ob pa lo a b w hl hn
 ·exact table11 c bla nb blc nm ob pa lo a b w hl hn
 ·exact table12 c bla nb blc nm ob pa lo a b w hl hn
 ·exact table13 c bla nb blc nm ob pa lo a b w hl hn
 ·exact table14 c bla nb blc nm ob pa lo a b w hl hn
 ·exact table15 c bla nb blc nm ob pa lo a b w hl hn
 ·exact table16 base c bla nb blc nm ob pa lo a b w hl hn hp32 hB P
 ·exact table17 c bla nb blc nm ob pa lo a b w hl hn
 ·exact table18 c bla nb blc nm ob pa lo a b w hl hn
 ·exact table19 c bla nb blc nm ob pa lo a b w hl hn
 ·exact table20 c bla nb blc nm ob pa lo a b w hl hn
 ·exact table21 c bla nb blc nm ob pa lo a b w hl hn
 ·exact table22 c bla nb blc nm ob pa lo a b w hl hn
 ·exact table23 c bla nb blc nm ob pa lo a b w hl hn
 ·exact table24 c bla nb blc nm ob pa lo a b w hl hn
 ·exact table25 c bla nb blc nm ob pa lo a b w hl hn
 ·exact table26 c bla nb blc nm ob pa lo a b w hl hn
 ·exact table27 c bla nb blc nm ob pa lo a b w hl hn
 ·exact table28 c bla nb blc nm ob pa lo a b w hl hn
 ·exact table29 c bla nb blc nm ob pa lo a b w hl hn
 ·exact table30 c bla nb blc nm ob pa lo a b w hl hn
end Go.Proofs.YtemjajljpoaioaaDoor
