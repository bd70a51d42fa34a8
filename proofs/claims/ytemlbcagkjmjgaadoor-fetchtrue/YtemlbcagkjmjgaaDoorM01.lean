/- The contracts of Five and Eight, of the program and of the answer: each gives the lowest bytes of its number, the highest first. -/
import Derived.Test.YtemlbcagkjmjgaaDoorProg
import Derived.Test.YtemlbcagkjmjgaaDoorBe
import Derived.WalkKit
import Derived.WalkSpells
import Derived.WalkLawsBesides
import Derived.KernelRfl
import Derived.RowKit3
import Derived.OpenShut
import Derived.Laws.Bits64

namespace Go.Proofs.YtemlbcagkjmjgaaDoor
open Go.RowKit
set_option linter.unusedVariables false





set_option maxHeartbeats 400000 in
theorem high5 (n : Int) (w : World) (h : 0 ≤ n ∧ n ≤ 18446744073709551615) :
    Calls Tryd.prog 66 #[.int .u64 n, .int .i64 5] w fun e w' => e = .returned (.string ⟨(be n 5).toArray⟩) ∧ Below w.heap.size w w' := by
  have hmk : ∀ w, (Instr.makeSlice 123 (.int .i64 5) (.int .i64 5)).run Tryd.prog w = .ok (.slice (some ⟨w.heap.size, 0, none⟩) 5 5) (w.alloc (.cells #[.int .u8 0, .int .u8 0, .int .u8 0, .int .u8 0, .int .u8 0] 5)) := fun _ => by kernel_rfl
  have hc := conv_five (P := Tryd.prog) 123 9 5 Tryd.underlying123 Tryd.underlying5 Tryd.underlying9
  go_enter Tryd.func66, Tryd.ntmps66
  go_wp2
  refine wp_loop_rounds 6 ?_
  iterate 6 (rw [rounds_succ]; go_wp2)
  go_ret
  exact ⟨by rw [← five_str]; rfl, (Below.refl _ _).alloc (Nat.le_refl _) _⟩

set_option maxHeartbeats 800000 in
theorem high8 (n : Int) (w : World) (h : 0 ≤ n ∧ n ≤ 18446744073709551615) :
    Calls Tryd.prog 66 #[.int .u64 n, .int .i64 8] w fun e w' => e = .returned (.string ⟨(be n 8).toArray⟩) ∧ Below w.heap.size w w' := by
  have hmk : ∀ w, (Instr.makeSlice 123 (.int .i64 8) (.int .i64 8)).run Tryd.prog w = .ok (.slice (some ⟨w.heap.size, 0, none⟩) 8 8) (w.alloc (.cells #[.int .u8 0, .int .u8 0, .int .u8 0, .int .u8 0, .int .u8 0, .int .u8 0, .int .u8 0, .int .u8 0] 5)) := fun _ => by kernel_rfl
  have hc := conv_eight (P := Tryd.prog) 123 9 5 Tryd.underlying123 Tryd.underlying5 Tryd.underlying9
  go_enter Tryd.func66, Tryd.ntmps66
  go_wp2
  refine wp_loop_rounds 9 ?_
  iterate 9 (rw [rounds_succ]; go_wp2)
  go_ret
  exact ⟨by rw [← eight_str n h]; rfl, (Below.refl _ _).alloc (Nat.le_refl _) _⟩

theorem u64_bounds (n : Int) : 0 ≤ n % 18446744073709551616 ∧ n % 18446744073709551616 ≤ 18446744073709551615 := by omega

set_option maxHeartbeats 400000 in
theorem wfive (n : Int) (w : World) :
    Calls Tryd.prog 72 #[.int .i64 n] w fun e w' => e = .returned (.string ⟨(be n 5).toArray⟩) ∧ Below w.heap.size w w' := by
  go_enter Tryd.func72, Tryd.ntmps72
  go_wp2_with fail
  refine (high5 _ _ (u64_bounds n)).mono ?_
  rintro e w' ⟨rfl, hg⟩
  rw [be_wrap n _ 5 (by omega) rfl]
  go_wp2
  go_ret
  exact ⟨rfl, hg⟩

set_option maxHeartbeats 400000 in
theorem weight (n : Int) (w : World) (h : 0 ≤ n ∧ n ≤ 18446744073709551615) :
    Calls Tryd.prog 43 #[.int .u64 n] w fun e w' => e = .returned (.string ⟨(be n 8).toArray⟩) ∧ Below w.heap.size w w' := by
  go_enter Tryd.func43, Tryd.ntmps43
  go_wp2_with fail
  refine (high8 _ _ h).mono ?_
  rintro e w' ⟨rfl, hg⟩
  go_wp2
  go_ret
  exact ⟨rfl, hg⟩
end Go.Proofs.YtemlbcagkjmjgaaDoor

namespace Go.Proofs.YtemlbcagkjmjgaaDoor
open Go.RowKit

theorem xor_bd (x y : Int) : 0 ≤ bits .xor .u64 x y ∧ bits .xor .u64 x y ≤ 18446744073709551615 := bounds_u64 (wf_bits .xor .u64 x y)
theorem wrap_bd (x : Int) : 0 ≤ IntKind.u64.wrap x ∧ IntKind.u64.wrap x ≤ 18446744073709551615 := bounds_u64 (wf_wrap .u64 x)

/-- One byte more. -/
def mulP (x : Int) : Int := IntKind.u64.wrap (x * 11400714819323198485)
def stirP (h b : Int) : Int := bits .xor .u64 (mulP (bits .xor .u64 h b)) (mulP (bits .xor .u64 h b) / 4294967296)
theorem stirP_bd (h b : Int) : 0 ≤ stirP h b ∧ stirP h b ≤ 18446744073709551615 := xor_bd _ _

/-- The bytes of a text, one behind the other. -/
def stirs (h : Int) (l : List UInt8) : Int := l.foldl (fun h b => stirP h (b.toNat : Int)) h
theorem stirs_snoc (h : Int) (l : List UInt8) (b : UInt8) : stirs h (l ++ [b]) = stirP (stirs h l) (b.toNat : Int) := by
  simp [stirs, List.foldl_append]
theorem stirs_bd (h : Int) (l : List UInt8) (hh : 0 ≤ h ∧ h ≤ 18446744073709551615) : 0 ≤ stirs h l ∧ stirs h l ≤ 18446744073709551615 := by
  induction l generalizing h with
  | nil => exact hh
  | cons b l ih => exact ih _ (stirP_bd _ _)
theorem take_snoc (s : ByteArray) (k : Nat) (h : k < s.size) : s.data.toList.take (k + 1) = s.data.toList.take k ++ [s[k]] := by
  rw [List.take_succ_eq_append_getElem (by simpa using h)]; rfl
theorem take_all (s : ByteArray) (k : Nat) (h : s.size ≤ k) : s.data.toList.take k = s.data.toList := List.take_of_length_le (by simpa using h)
theorem stirs_take (h H : Int) (s : ByteArray) (k : Nat) (hk : k < s.size) (e : H = stirs h (s.data.toList.take k)) : stirP H (s[k].toNat : Int) = stirs h (s.data.toList.take (k + 1)) := by
  rw [take_snoc s k hk, stirs_snoc, e]

/-- A part of an image: its length, and its bytes. -/
def partP (h : Int) (s : ByteArray) : Int := stirs (stirs h (be (s.size : Int) 8)) s.data.toList
def partsP (h : Int) (ss : List ByteArray) : Int := ss.foldl partP h
theorem partsP_snoc (h : Int) (ss : List ByteArray) (s : ByteArray) : partsP h (ss ++ [s]) = partP (partsP h ss) s := by
  simp [partsP, List.foldl_append]
theorem partP_bd (h : Int) (s : ByteArray) (hh : 0 ≤ h ∧ h ≤ 18446744073709551615) : 0 ≤ partP h s ∧ partP h s ≤ 18446744073709551615 := stirs_bd _ _ (stirs_bd _ _ hh)
theorem partsP_bd (h : Int) (ss : List ByteArray) (hh : 0 ≤ h ∧ h ≤ 18446744073709551615) : 0 ≤ partsP h ss ∧ partsP h ss ≤ 18446744073709551615 := by
  induction ss generalizing h with
  | nil => exact hh
  | cons s ss ih => exact ih _ (partP_bd _ _ hh)
theorem partsP_take (h H : Int) (ss : List ByteArray) (k : Nat) (hk : k < ss.length) (e : H = partsP h (ss.take k)) : partP H ss[k] = partsP h (ss.take (k + 1)) := by
  rw [List.take_succ_eq_append_getElem hk, partsP_snoc, e]

/-- How many bytes a digest has. -/
def widthP (w : Int) : Int := if w < 1 then 1 else if 8 < w then 8 else w
theorem widthP_bd (w : Int) : 1 ≤ widthP w ∧ widthP w ≤ 8 := by unfold widthP; split <;> (try split) <;> omega

def turnP (h : Int) : Int := mulP (bits .xor .u64 h (h / 536870912))
def lastP (h : Int) : Int := bits .xor .u64 (turnP (turnP h)) (turnP (turnP h) / 4294967296)
theorem mulP_bd (x : Int) : 0 ≤ mulP x ∧ mulP x ≤ 18446744073709551615 := wrap_bd _
theorem turnP_bd (h : Int) : 0 ≤ turnP h ∧ turnP h ≤ 18446744073709551615 := mulP_bd _
theorem lastP_bd (h : Int) : 0 ≤ lastP h ∧ lastP h ≤ 18446744073709551615 := xor_bd _ _

/-- D1. -/
def ofP (w tag : Int) (ss : List ByteArray) : Int := lastP (partsP (stirP 11400714819323198485 (tag % 256)) ss) / 256 ^ (8 - widthP w).toNat

theorem ofP_bd (w tag : Int) (ss : List ByteArray) : 0 ≤ ofP w tag ss ∧ ofP w tag ss ≤ 18446744073709551615 := by
  have h := lastP_bd (partsP (stirP 11400714819323198485 (tag % 256)) ss)
  have hp : (0 : Int) < 256 ^ (8 - widthP w).toNat := Int.pow_pos (by omega)
  unfold ofP
  refine ⟨Int.ediv_nonneg h.1 (Int.le_of_lt hp), ?_⟩
  exact Int.le_trans (Int.ediv_le_self _ h.1) h.2

theorem shift_pow (w : Int) : (256 : Int) ^ (8 - widthP w).toNat = 2 ^ (64 - 8 * widthP w).toNat := by
  have h := widthP_bd w
  have e : (64 - 8 * widthP w).toNat = 8 * (8 - widthP w).toNat := by omega
  rw [e, Int.pow_mul, show ((2 : Int) ^ 8) = 256 from by decide]
end Go.Proofs.YtemlbcagkjmjgaaDoor
