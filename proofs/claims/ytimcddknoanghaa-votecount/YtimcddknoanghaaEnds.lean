/- The contracts of Five and Eight, of the program and of the answer: each gives the lowest bytes of its number, the highest first. -/
import Derived.Test.YtimcddknoanghaaProg
import Derived.Test.YtimcddknoanghaaBe
import Derived.WalkKit
import Derived.WalkSpells
import Derived.WalkLawsBesides
import Derived.KernelRfl
import Derived.RowKit3
namespace Go.Proofs.Ytimcddknoanghaa
open Go.RowKit
set_option linter.unusedVariables false



set_option maxHeartbeats 400000 in
theorem reight (n : Int) (w : World) (h : 0 ≤ n ∧ n ≤ 18446744073709551615) :
    Calls Try.prog 78 #[.int .u64 n] w fun e w' => e = .returned (.string ⟨(be n 8).toArray⟩) ∧ Below w.heap.size w w' := by
  have hc := conv_one (P := Try.prog) 103 9 5 Try.underlying103 Try.underlying5 Try.underlying9
  go_enter Try.func78, Try.ntmps78
  go_wp2
  go_loopw [0, 3, 4] (fun nv sv iv wv => ∃ (k : Nat) (m : Int) (l : List UInt8), k ≤ 8 ∧ 0 ≤ m ∧ m ≤ 18446744073709551615 ∧ Hid (m = n / 256 ^ k) ∧ Hid (l = be n k) ∧ l.length ≤ 8 ∧ iv = .int .i64 k ∧ nv = .int .u64 m ∧ sv = .string ⟨l.toArray⟩ ∧ Below w.heap.size w wv) (fun _ _ iv _ => 8 - (intOf iv).toNat)
  case atStart => exact ⟨0, n, [], by omega, h.1, h.2, by show _ = _; simp, rfl, by simp, rfl, rfl, rfl, Below.refl _ _⟩
  case round =>
    obtain ⟨k, m, l, hk, hm1, hm2, Hm, Hl, hl8, rfl, rfl, rfl, hg⟩ := hrel
    have hlk : l.length = k := by rw [Hl.out, be_len]
    by_cases hlt : k < 8
    · go_wp2
      refine ⟨⟨k + 1, m / 256, byteAt m :: l, by omega, by omega, by omega, ?_, be_snoc n m k l Hm.out Hl.out, by simp; omega, by go_num, rfl, ?_, hg.alloc hg.size _⟩, by simp [intOf]; omega⟩
      · show _ = _; rw [Hm.out, div_step]
      · exact congrArg Value.string (str_cons _ _)
    · obtain rfl : k = 8 := by omega
      go_wp2
      go_ret
      exact ⟨by rw [← Hl.out]; rfl, hg⟩

set_option maxHeartbeats 400000 in
theorem high5 (n : Int) (w : World) (h : 0 ≤ n ∧ n ≤ 18446744073709551615) :
    Calls Try.prog 86 #[.int .u64 n, .int .i64 5] w fun e w' => e = .returned (.string ⟨(be n 5).toArray⟩) ∧ Below w.heap.size w w' := by
  have hmk : ∀ w, (Instr.makeSlice 103 (.int .i64 5) (.int .i64 5)).run Try.prog w = .ok (.slice (some ⟨w.heap.size, 0, none⟩) 5 5) (w.alloc (.cells #[.int .u8 0, .int .u8 0, .int .u8 0, .int .u8 0, .int .u8 0] 5)) := fun _ => by kernel_rfl
  have hc := conv_five (P := Try.prog) 103 9 5 Try.underlying103 Try.underlying5 Try.underlying9
  go_enter Try.func86, Try.ntmps86
  go_wp2
  refine wp_loop_rounds 6 ?_
  iterate 6 (rw [rounds_succ]; go_wp2)
  go_ret
  exact ⟨by rw [← five_str]; rfl, (Below.refl _ _).alloc (Nat.le_refl _) _⟩

set_option maxHeartbeats 800000 in
theorem high8 (n : Int) (w : World) (h : 0 ≤ n ∧ n ≤ 18446744073709551615) :
    Calls Try.prog 86 #[.int .u64 n, .int .i64 8] w fun e w' => e = .returned (.string ⟨(be n 8).toArray⟩) ∧ Below w.heap.size w w' := by
  have hmk : ∀ w, (Instr.makeSlice 103 (.int .i64 8) (.int .i64 8)).run Try.prog w = .ok (.slice (some ⟨w.heap.size, 0, none⟩) 8 8) (w.alloc (.cells #[.int .u8 0, .int .u8 0, .int .u8 0, .int .u8 0, .int .u8 0, .int .u8 0, .int .u8 0, .int .u8 0] 5)) := fun _ => by kernel_rfl
  have hc := conv_eight (P := Try.prog) 103 9 5 Try.underlying103 Try.underlying5 Try.underlying9
  go_enter Try.func86, Try.ntmps86
  go_wp2
  refine wp_loop_rounds 9 ?_
  iterate 9 (rw [rounds_succ]; go_wp2)
  go_ret
  exact ⟨by rw [← eight_str n h]; rfl, (Below.refl _ _).alloc (Nat.le_refl _) _⟩

theorem u64_bounds (n : Int) : 0 ≤ n % 18446744073709551616 ∧ n % 18446744073709551616 ≤ 18446744073709551615 := by omega

set_option maxHeartbeats 400000 in
theorem wfive (n : Int) (w : World) :
    Calls Try.prog 90 #[.int .i64 n] w fun e w' => e = .returned (.string ⟨(be n 5).toArray⟩) ∧ Below w.heap.size w w' := by
  go_enter Try.func90, Try.ntmps90
  go_wp2_with fail
  refine (high5 _ _ (u64_bounds n)).mono ?_
  rintro e w' ⟨rfl, hg⟩
  rw [be_wrap n _ 5 (by omega) rfl]
  go_wp2
  go_ret
  exact ⟨rfl, hg⟩

set_option maxHeartbeats 400000 in
theorem weight (n : Int) (w : World) (h : 0 ≤ n ∧ n ≤ 18446744073709551615) :
    Calls Try.prog 83 #[.int .u64 n] w fun e w' => e = .returned (.string ⟨(be n 8).toArray⟩) ∧ Below w.heap.size w w' := by
  go_enter Try.func83, Try.ntmps83
  go_wp2_with fail
  refine (high8 _ _ h).mono ?_
  rintro e w' ⟨rfl, hg⟩
  go_wp2
  go_ret
  exact ⟨rfl, hg⟩
end Go.Proofs.Ytimcddknoanghaa
