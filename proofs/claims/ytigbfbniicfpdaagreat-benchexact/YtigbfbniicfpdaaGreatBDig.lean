/- Digests of benches. -/
import Derived.Test.YtigbfbniicfpdaaGreatBFits
import Derived.Test.YtigbfbniicfpdaaGreatDigOf
import Derived.Test.YtigbfbniicfpdaaGreatWTop4
namespace Go.Proofs.YtigbfbniicfpdaaGreat
open Go.RowKit
set_option linter.unusedVariables false
set_option linter.unusedSimpArgs false

theorem strs_of_blk {w : World} {b : Nat} {s : ByteArray} (h : Blk w b #[.string s] 9) (hs : s.size ≤ maxLen) : Strs w (some ⟨b, 0, none⟩) [s] := by
  refine ⟨by simpa using hs, .inr ⟨b, 0, rfl, h.lt, fun i hi => ?_⟩⟩
  obtain rfl : i = 0 := by simp at hi; omega
  exact (h.cell 0).trans rfl

theorem bdig_any (wd : Int) (la : Option Addr) (n cap : Nat) (w : World) (S : ByteArray) (E : Int) (hw : -9223372036854775808 ≤ wd ∧ wd ≤ 9223372036854775807) (hS : S.size ≤ maxLen)
    (K : Calls Tryz.prog 32 #[.slice la n cap] w fun e w' => e = .returned (.tuple #[.string S, .int .i64 E]) ∧ Below w.heap.size w w') :
    Calls Tryz.prog 12 #[.int .i64 wd, .slice la n cap] w fun e w' => e = .returned (.int .u64 (ofP wd 7 [S])) ∧ Below w.heap.size w w' := by
  go_enter Tryz.func12, Tryz.ntmps12
  go_wp2_with fail
  refine K.mono ?_
  rintro e w1 ⟨rfl, b1⟩
  have B1 := b1
  have bS : Below w1.heap.size w1 (w1.alloc (.cells #[.string S] 9)) := (Below.refl _ _).alloc (Nat.le_refl _) _
  go_wp2_with fail
  refine (of_any wd 7 _ 1 1 [S] _ hw rfl (by decide) (strs_of_blk (Blk.new _ _ _) hS)).mono ?_
  rintro e w2 ⟨rfl, b2⟩
  have B2 := B1.trans ((bS.trans (b2.mono bS.size)).mono B1.size)
  go_wp2
  go_ret
  exact ⟨rfl, B2⟩

theorem rbdig_any (wd : Int) (la : Option Addr) (n cap : Nat) (w : World) (S : ByteArray) (E : Int) (hw : -9223372036854775808 ≤ wd ∧ wd ≤ 9223372036854775807) (hS : S.size ≤ maxLen)
    (K : Calls Tryz.prog 34 #[.slice la n cap] w fun e w' => e = .returned (.tuple #[.string S, .int .i64 E]) ∧ Below w.heap.size w w') :
    Calls Tryz.prog 13 #[.int .i64 wd, .slice la n cap] w fun e w' => e = .returned (.int .u64 (ofP wd 7 [S])) ∧ Below w.heap.size w w' := by
  go_enter Tryz.func13, Tryz.ntmps13
  go_wp2_with fail
  refine K.mono ?_
  rintro e w1 ⟨rfl, b1⟩
  have B1 := b1
  have bS : Below w1.heap.size w1 (w1.alloc (.cells #[.string S] 9)) := (Below.refl _ _).alloc (Nat.le_refl _) _
  go_wp2_with fail
  refine (rof_any wd 7 _ 1 1 [S] _ hw rfl (by decide) (strs_of_blk (Blk.new _ _ _) hS)).mono ?_
  rintro e w2 ⟨rfl, b2⟩
  have B2 := B1.trans ((bS.trans (b2.mono bS.size)).mono B1.size)
  go_wp2
  go_ret
  exact ⟨rfl, B2⟩

end Go.Proofs.YtigbfbniicfpdaaGreat
