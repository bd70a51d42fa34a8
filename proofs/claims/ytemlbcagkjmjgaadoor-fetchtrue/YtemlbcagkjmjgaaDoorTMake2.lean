/- Leaves and forks are made. -/
import Derived.Test.YtemlbcagkjmjgaaDoorM09
namespace Go.Proofs.YtemlbcagkjmjgaaDoor
open Go.RowKit
set_option linter.unusedVariables false

def okW (wd : Int) : Prop := -9223372036854775808 ≤ wd ∧ wd ≤ 9223372036854775807
theorem str_max (k : Key) (h : k.length ≤ 4096) : (str k).size ≤ maxLen := by rw [str_size]; unfold maxLen; omega

set_option maxHeartbeats 1600000 in
theorem leafOf_any (wd : Int) (k v : Key) (w : World) (hw : okW wd) (hk : k.length ≤ 4096) (hv : v.length ≤ 4096) :
    Calls Tryd.prog 38 #[.int .i64 wd, .string (str k), .string (str v)] w fun e w' => ∃ b, e = .returned (.pointer (some ⟨b, 0, none⟩)) ∧ NodeAt wd w' b (.leaf k v) ∧ Below w.heap.size w w' := by
  have kB := Blk.new w #[.int .u64 0, .string (str k), .string (str v), .int .i64 0, .pointer none, .pointer none] 75
  have bA : Below w.heap.size w (w.alloc (.cells #[.int .u64 0, .string (str k), .string (str v), .int .i64 0, .pointer none, .pointer none] 75)) := (Below.refl _ _).alloc (Nat.le_refl _) _
  have k1 := told_leaf _ _ _ _ _ kB
  go_enter Tryd.func38, Tryd.ntmps38
  go_wp2_with fail
  refine k1.mono ?_
  rintro e w1 ⟨rfl, b1⟩
  have kB1 := kB.below b1 kB.lt
  have B1 := bA.trans (b1.mono bA.size)
  go_wp2_with fail
  refine (over_any wd 1 (str k) (str v) 0 0 0 _ hw (str_max k hk) (str_max v hv) (by omega) (by omega)).mono ?_
  rintro e w2 ⟨rfl, b2⟩
  have kB2 := kB1.below b2 kB1.lt
  have B2 := B1.trans (b2.mono B1.size)
  have c0 := kB2.cell 0
  have f0 := kB2.frozen 0
  have hz := kB2.lt
  simp only [List.getElem?_toArray, List.getElem?_cons_zero] at c0
  go_wp2
  go_ret
  refine ⟨w.heap.size, rfl, ?_, B2.setCell (p := ⟨w.heap.size, 0, none⟩) (Nat.le_refl _) _⟩
  exact kB2.set 0 (.int .u64 (overP wd 1 (str k) (str v) 0 0 0))

/-- A node whose tree lay in an elder world, and a store into a block that is younger. -/
theorem NodeAt.setNew {wd : Int} {w w2 : World} {b : Nat} {t : Tr} (h : NodeAt wd w b t) (hb : Below w.heap.size w w2) (c : Nat) (hc : w.heap.size ≤ c) (i : Nat) (v : Value) : NodeAt wd (w2.setCell ⟨c, i, none⟩ v) b t :=
  NodeAt.below (hb.setCell (p := ⟨c, i, none⟩) hc v) h

set_option maxHeartbeats 3200000 in
theorem forkOf_any (wd : Int) (p at_ x y : Nat) (X Y : Tr) (w : World) (hw : okW wd) (hp : p ≤ 100000000) (ha : at_ = 0 ∨ at_ = 1) (hx : NodeAt wd w x X) (hy : NodeAt wd w y Y) :
    Calls Tryd.prog 61 #[.int .i64 wd, .int .i64 p, .int .i64 at_, .pointer (some ⟨x, 0, none⟩), .pointer (some ⟨y, 0, none⟩)] w fun e w' => ∃ b, e = .returned (.pointer (some ⟨b, 0, none⟩)) ∧ NodeAt wd w' b (mkFork p at_ X Y) ∧ Below w.heap.size w w' := by
  have bA : Below w.heap.size w (w.alloc (.cells #[.int .u64 0, .string ⟨#[]⟩, .string ⟨#[]⟩, .int .i64 p, .pointer none, .pointer none] 75)) := (Below.refl _ _).alloc (Nat.le_refl _) _
  have xl := hx.lt
  have yl := hy.lt
  have kN := Blk.new w #[.int .u64 0, .string ⟨#[]⟩, .string ⟨#[]⟩, .int .i64 p, .pointer none, .pointer none] 75
  rcases ha with rfl | rfl
  · have kB : Blk (w.alloc (.cells #[.int .u64 0, .string ⟨#[]⟩, .string ⟨#[]⟩, .int .i64 p, .pointer (some ⟨x, 0, none⟩), .pointer (some ⟨y, 0, none⟩)] 75)).drew w.heap.size _ 75 := (Blk.new w #[.int .u64 0, .string ⟨#[]⟩, .string ⟨#[]⟩, .int .i64 p, .pointer (some ⟨x, 0, none⟩), .pointer (some ⟨y, 0, none⟩)] 75).drew
    have bA : Below w.heap.size w (w.alloc (.cells #[.int .u64 0, .string ⟨#[]⟩, .string ⟨#[]⟩, .int .i64 p, .pointer (some ⟨x, 0, none⟩), .pointer (some ⟨y, 0, none⟩)] 75)).drew := ((Below.refl _ _).alloc (Nat.le_refl _) _).drew
    have nl := NodeAt.below bA hx
    have nr := NodeAt.below bA hy
    have k1 := told_fork w.heap.size x y 0 p (X.dig wd) (Y.dig wd) _ _ _ kB nl.lt nr.lt nl.dig nr.dig
    go_enter Tryd.func61, Tryd.ntmps61
    go_wp2
    go_region
    go_wp2_with fail
    generalize (w.alloc (.cells #[.int .u64 0, .string ⟨#[]⟩, .string ⟨#[]⟩, .int .i64 p, .pointer (some ⟨x, 0, none⟩), .pointer (some ⟨y, 0, none⟩)] 75)).drew = wA at *
    refine k1.mono ?_
    rintro e w1 ⟨rfl, b1⟩
    have kB1 := kB.below b1 kB.lt
    have nl1 := NodeAt.below b1 nl
    have nr1 := NodeAt.below b1 nr
    have B1 := bA.trans (b1.mono bA.size)
    go_wp2_with fail
    refine (over_any wd 2 ⟨#[]⟩ ⟨#[]⟩ p (X.dig wd) (Y.dig wd) _ hw (str_max [] (by simp)) (str_max [] (by simp)) (X.dig_bd wd) (Y.dig_bd wd)).mono ?_
    rintro e w2 ⟨rfl, b2⟩
    have kB2 := kB1.below b2 kB1.lt
    have nl2 := NodeAt.below b2 nl1
    have nr2 := NodeAt.below b2 nr1
    have B2 := B1.trans (b2.mono B1.size)
    have c0 := kB2.cell 0
    have f0 := kB2.frozen 0
    have hz := kB2.lt
    simp only [List.getElem?_toArray, List.getElem?_cons_zero] at c0
    have hne1 : w.heap.size ≠ x := by omega
    have hne2 : w.heap.size ≠ y := by omega
    go_wp2
    go_ret
    exact ⟨w.heap.size, rfl, ⟨x, y, kB2.set 0 (.int .u64 (overP wd 2 ⟨#[]⟩ ⟨#[]⟩ p (X.dig wd) (Y.dig wd))), hx.setNew B2 _ (Nat.le_refl _) _ _, hy.setNew B2 _ (Nat.le_refl _) _ _⟩, B2.setCell (p := ⟨w.heap.size, 0, none⟩) (Nat.le_refl _) _⟩
  · have kB : Blk (w.alloc (.cells #[.int .u64 0, .string ⟨#[]⟩, .string ⟨#[]⟩, .int .i64 p, .pointer (some ⟨y, 0, none⟩), .pointer (some ⟨x, 0, none⟩)] 75)).drew w.heap.size _ 75 := (Blk.new w #[.int .u64 0, .string ⟨#[]⟩, .string ⟨#[]⟩, .int .i64 p, .pointer (some ⟨y, 0, none⟩), .pointer (some ⟨x, 0, none⟩)] 75).drew
    have bA : Below w.heap.size w (w.alloc (.cells #[.int .u64 0, .string ⟨#[]⟩, .string ⟨#[]⟩, .int .i64 p, .pointer (some ⟨y, 0, none⟩), .pointer (some ⟨x, 0, none⟩)] 75)).drew := ((Below.refl _ _).alloc (Nat.le_refl _) _).drew
    have nl := NodeAt.below bA hy
    have nr := NodeAt.below bA hx
    have k1 := told_fork w.heap.size y x 0 p (Y.dig wd) (X.dig wd) _ _ _ kB nl.lt nr.lt nl.dig nr.dig
    go_enter Tryd.func61, Tryd.ntmps61
    go_wp2
    go_region
    go_wp2_with fail
    generalize (w.alloc (.cells #[.int .u64 0, .string ⟨#[]⟩, .string ⟨#[]⟩, .int .i64 p, .pointer (some ⟨y, 0, none⟩), .pointer (some ⟨x, 0, none⟩)] 75)).drew = wA at *
    refine k1.mono ?_
    rintro e w1 ⟨rfl, b1⟩
    have kB1 := kB.below b1 kB.lt
    have nl1 := NodeAt.below b1 nl
    have nr1 := NodeAt.below b1 nr
    have B1 := bA.trans (b1.mono bA.size)
    go_wp2_with fail
    refine (over_any wd 2 ⟨#[]⟩ ⟨#[]⟩ p (Y.dig wd) (X.dig wd) _ hw (str_max [] (by simp)) (str_max [] (by simp)) (Y.dig_bd wd) (X.dig_bd wd)).mono ?_
    rintro e w2 ⟨rfl, b2⟩
    have kB2 := kB1.below b2 kB1.lt
    have nl2 := NodeAt.below b2 nl1
    have nr2 := NodeAt.below b2 nr1
    have B2 := B1.trans (b2.mono B1.size)
    have c0 := kB2.cell 0
    have f0 := kB2.frozen 0
    have hz := kB2.lt
    simp only [List.getElem?_toArray, List.getElem?_cons_zero] at c0
    have hne1 : w.heap.size ≠ y := by omega
    have hne2 : w.heap.size ≠ x := by omega
    go_wp2
    go_ret
    exact ⟨w.heap.size, rfl, ⟨y, x, kB2.set 0 (.int .u64 (overP wd 2 ⟨#[]⟩ ⟨#[]⟩ p (Y.dig wd) (X.dig wd))), hy.setNew B2 _ (Nat.le_refl _) _ _, hx.setNew B2 _ (Nat.le_refl _) _ _⟩, B2.setCell (p := ⟨w.heap.size, 0, none⟩) (Nat.le_refl _) _⟩
end Go.Proofs.YtemlbcagkjmjgaaDoor
