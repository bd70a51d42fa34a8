/- Helpers for this seat: what a number is in bytes, the highest first; a slice of bytes turned into a string. -/
import Derived.Laws.BytesArg
import Derived.WalkKit
import Derived.RowKit3
import Derived.Test.YtmhllihedejehaaGreatProg
import Derived.WalkSpells
import Derived.WalkLawsBesides
import Derived.KernelRfl
import Derived.OpenShut
import Derived.Laws.Bits64

namespace Go.Proofs.YtmhllihedejehaaGreat
open Go.RowKit

/-- The lowest byte of n. -/
def byteAt (n : Int) : UInt8 := UInt8.ofNat (n % 256).toNat

/-- The lowest k bytes of n, the highest first. -/
def be (n : Int) : Nat → List UInt8
  | 0 => []
  | k + 1 => byteAt (n / 256 ^ k) :: be n k

theorem be_len (n : Int) (k : Nat) : (be n k).length = k := by
  induction k with
  | zero => rfl
  | succ k ih => simp [be, ih]

theorem div_step (n : Int) (k : Nat) : n / 256 ^ k / 256 = n / 256 ^ (k + 1) := by
  rw [Int.pow_succ, Int.ediv_ediv_of_nonneg (by exact Int.le_of_lt (Int.pow_pos (by omega)))]

theorem be_snoc (n m : Int) (k : Nat) (l : List UInt8) (hm : m = n / 256 ^ k) (hl : l = be n k) : byteAt m :: l = be n (k + 1) := by
  subst hm; subst hl; rfl

theorem str_cons (x : UInt8) (l : List UInt8) : (⟨#[x]⟩ : ByteArray) ++ ⟨l.toArray⟩ = ⟨(x :: l).toArray⟩ := by
  apply ByteArray.ext
  simp [ByteArray.data_append]

/-- 'string(b)' of a new row of bytes. -/
theorem conv_row {P : Program} (src dst e : TypeId) (hs : P.underlying src = some (.slice e)) (he : P.underlying e = some (.int .u8)) (hd : P.underlying dst = some .string)
    (w : World) (xs : List Int) (len : Nat) (hl : xs.length = len) : (convert src dst (.slice (some ⟨w.heap.size, 0, none⟩) len len)).run P (w.alloc (.cells (xs.map (Value.int .u8)).toArray e)) = .ok (.string (strOfNums xs)) (w.alloc (.cells (xs.map (Value.int .u8)).toArray e)) := by
  refine run_convert_bytes_arg (P := P) (w.alloc (.cells (xs.map (Value.int .u8)).toArray e)) src e hs he w.heap.size 0 len len xs hl (fun i hi => ?_) dst hd
  simp [List.getD, hl, hi]

theorem conv_one {P : Program} (src dst e : TypeId) (hs : P.underlying src = some (.slice e)) (he : P.underlying e = some (.int .u8)) (hd : P.underlying dst = some .string)
    (w : World) (x : Int) : (convert src dst (.slice (some ⟨w.heap.size, 0, none⟩) 1 1)).run P (w.alloc (.cells #[.int .u8 x] e)) = .ok (.string ⟨#[UInt8.ofNat x.toNat]⟩) (w.alloc (.cells #[.int .u8 x] e)) :=
  conv_row src dst e hs he hd w [x] 1 rfl

theorem conv_five {P : Program} (src dst e : TypeId) (hs : P.underlying src = some (.slice e)) (he : P.underlying e = some (.int .u8)) (hd : P.underlying dst = some .string)
    (w : World) (a b c d f : Int) : (convert src dst (.slice (some ⟨w.heap.size, 0, none⟩) 5 5)).run P (w.alloc (.cells #[.int .u8 a, .int .u8 b, .int .u8 c, .int .u8 d, .int .u8 f] e)) = .ok (.string (strOfNums [a, b, c, d, f])) (w.alloc (.cells #[.int .u8 a, .int .u8 b, .int .u8 c, .int .u8 d, .int .u8 f] e)) :=
  conv_row src dst e hs he hd w [a, b, c, d, f] 5 rfl

theorem conv_eight {P : Program} (src dst e : TypeId) (hs : P.underlying src = some (.slice e)) (he : P.underlying e = some (.int .u8)) (hd : P.underlying dst = some .string)
    (w : World) (a b c d f g i j : Int) : (convert src dst (.slice (some ⟨w.heap.size, 0, none⟩) 8 8)).run P (w.alloc (.cells #[.int .u8 a, .int .u8 b, .int .u8 c, .int .u8 d, .int .u8 f, .int .u8 g, .int .u8 i, .int .u8 j] e)) = .ok (.string (strOfNums [a, b, c, d, f, g, i, j])) (w.alloc (.cells #[.int .u8 a, .int .u8 b, .int .u8 c, .int .u8 d, .int .u8 f, .int .u8 g, .int .u8 i, .int .u8 j] e)) :=
  conv_row src dst e hs he hd w [a, b, c, d, f, g, i, j] 8 rfl

theorem five_str (n : Int) : strOfNums [n / 4294967296 % 256, n / 16777216 % 256, n / 65536 % 256, n / 256 % 256, n % 256] = ⟨(be n 5).toArray⟩ := by
  simp [strOfNums, be, byteAt]

theorem eight_str (n : Int) (h : 0 ≤ n ∧ n ≤ 18446744073709551615) : strOfNums [n / 72057594037927936, n / 281474976710656 % 256, n / 1099511627776 % 256, n / 4294967296 % 256, n / 16777216 % 256, n / 65536 % 256, n / 256 % 256, n % 256] = ⟨(be n 8).toArray⟩ := by
  have e : n / 72057594037927936 % 256 = n / 72057594037927936 := by omega
  simp [strOfNums, be, byteAt, e]

/-- A number and what is the same modulo 2^64 have the same bytes. -/
theorem byteAt_wrap (n m : Int) (k : Nat) (hk : k < 8) (h : m = n % 18446744073709551616) : byteAt (m / 256 ^ k) = byteAt (n / 256 ^ k) := by
  have e : k = 0 ∨ k = 1 ∨ k = 2 ∨ k = 3 ∨ k = 4 ∨ k = 5 ∨ k = 6 ∨ k = 7 := by omega
  unfold byteAt
  congr 2
  rcases e with rfl | rfl | rfl | rfl | rfl | rfl | rfl | rfl <;> simp <;> omega

theorem be_wrap (n m : Int) (k : Nat) (hk : k ≤ 8) (h : m = n % 18446744073709551616) : be m k = be n k := by
  induction k with
  | zero => rfl
  | succ k ih => simp only [be]; rw [byteAt_wrap n m k (by omega) h, ih (by omega)]
end Go.Proofs.YtmhllihedejehaaGreat

namespace Go.Proofs.YtmhllihedejehaaGreat
open Go.RowKit
set_option linter.unusedVariables false

set_option maxHeartbeats 400000 in
theorem rfive (n : Int) (w : World) (h : -9223372036854775808 ≤ n ∧ n ≤ 9223372036854775807) :
    Calls Tryz.prog 61 #[.int .i64 n] w fun e w' => e = .returned (.string ⟨(be n 5).toArray⟩) ∧ Below w.heap.size w w' := by
  have hc := conv_one (P := Tryz.prog) 131 9 5 Tryz.underlying131 Tryz.underlying5 Tryz.underlying9
  go_enter Tryz.func61, Tryz.ntmps61
  go_wp2
  go_loopw [0, 3, 4] (fun nv sv iv wv => ∃ (k : Nat) (m : Int) (l : List UInt8), k ≤ 5 ∧ -9223372036854775808 ≤ m ∧ m ≤ 9223372036854775807 ∧ Hid (m = n / 256 ^ k) ∧ Hid (l = be n k) ∧ l.length ≤ 8 ∧ iv = .int .i64 k ∧ nv = .int .i64 m ∧ sv = .string ⟨l.toArray⟩ ∧ Below w.heap.size w wv) (fun _ _ iv _ => 5 - (intOf iv).toNat)
  case atStart => exact ⟨0, n, [], by omega, h.1, h.2, by show _ = _; simp, rfl, by simp, rfl, rfl, rfl, Below.refl _ _⟩
  case round =>
    obtain ⟨k, m, l, hk, hm1, hm2, Hm, Hl, hl8, rfl, rfl, rfl, hg⟩ := hrel
    have hlk : l.length = k := by rw [Hl.out, be_len]
    by_cases hlt : k < 5
    · go_wp2
      refine ⟨⟨k + 1, m / 256, byteAt m :: l, by omega, by omega, by omega, ?_, be_snoc n m k l Hm.out Hl.out, by simp; omega, by go_num, rfl, ?_, hg.alloc hg.size _⟩, by simp [intOf]; omega⟩
      · show _ = _; rw [Hm.out, div_step]
      · exact congrArg Value.string (str_cons _ _)
    · obtain rfl : k = 5 := by omega
      go_wp2
      go_ret
      exact ⟨by rw [← Hl.out]; rfl, hg⟩

set_option maxHeartbeats 400000 in
theorem reight (n : Int) (w : World) (h : 0 ≤ n ∧ n ≤ 18446744073709551615) :
    Calls Tryz.prog 51 #[.int .u64 n] w fun e w' => e = .returned (.string ⟨(be n 8).toArray⟩) ∧ Below w.heap.size w w' := by
  have hc := conv_one (P := Tryz.prog) 131 9 5 Tryz.underlying131 Tryz.underlying5 Tryz.underlying9
  go_enter Tryz.func51, Tryz.ntmps51
  go_wp2
  go_loopw [0, 3, 4] (fun nv sv iv wv => ∃ (k : Nat) (m : Int) (l : List UInt8), k ≤ 8 ∧ 0 ≤ m ∧ m ≤ 18446744073709551615 ∧ Hid (m = n / 256 ^ k) ∧ Hid (l = be n k) ∧ l.length ≤ 8 ∧ iv = .int .i64 k ∧ nv = .int .u64 m ∧ sv = .string ⟨l.toArray⟩ ∧ Below w.heap.size w wv) (fun _ _ iv _ => 8 - (intOf iv).toNat)
  case atStart => exact ⟨0, n, [], by omega, h.1, h.2, by show _ = _; simp, rfl, by simp, rfl, rfl, rfl, Below.refl _ _⟩
  case round =>
    obtain ⟨k, m, l, hk, hm1, hm2, Hm, Hl, hl8, rfl, rfl, rfl, hg⟩ := hrel
    have hlk : l.length = k := by rw [Hl.out, be_len]
    by_cases hlt : k < 8
    · go_wp2
      refine ⟨⟨k + 1, m / 256, byteAt m :: l, by omega, by omega, by omega, ?_, be_snoc n m k l Hm.out Hl.out, by simp; omega, by go_num, rfl, ?_, hg.alloc hg.size _⟩, by simp [intOf]; omega⟩
      · show _ = _; rw [Hm.out, div_step]
      · exact congrArg Value.string (str_cons _ _)
    · obtain rfl : k = 8 := by omega
      go_wp2
      go_ret
      exact ⟨by rw [← Hl.out]; rfl, hg⟩

set_option maxHeartbeats 400000 in
theorem high5 (n : Int) (w : World) (h : 0 ≤ n ∧ n ≤ 18446744073709551615) :
    Calls Tryz.prog 86 #[.int .u64 n, .int .i64 5] w fun e w' => e = .returned (.string ⟨(be n 5).toArray⟩) ∧ Below w.heap.size w w' := by
  have hmk : ∀ w, (Instr.makeSlice 131 (.int .i64 5) (.int .i64 5)).run Tryz.prog w = .ok (.slice (some ⟨w.heap.size, 0, none⟩) 5 5) (w.alloc (.cells #[.int .u8 0, .int .u8 0, .int .u8 0, .int .u8 0, .int .u8 0] 5)) := fun _ => by kernel_rfl
  have hc := conv_five (P := Tryz.prog) 131 9 5 Tryz.underlying131 Tryz.underlying5 Tryz.underlying9
  go_enter Tryz.func86, Tryz.ntmps86
  go_wp2
  refine wp_loop_rounds 6 ?_
  iterate 6 (rw [rounds_succ]; go_wp2)
  go_ret
  exact ⟨by rw [← five_str]; rfl, (Below.refl _ _).alloc (Nat.le_refl _) _⟩

set_option maxHeartbeats 800000 in
theorem high8 (n : Int) (w : World) (h : 0 ≤ n ∧ n ≤ 18446744073709551615) :
    Calls Tryz.prog 86 #[.int .u64 n, .int .i64 8] w fun e w' => e = .returned (.string ⟨(be n 8).toArray⟩) ∧ Below w.heap.size w w' := by
  have hmk : ∀ w, (Instr.makeSlice 131 (.int .i64 8) (.int .i64 8)).run Tryz.prog w = .ok (.slice (some ⟨w.heap.size, 0, none⟩) 8 8) (w.alloc (.cells #[.int .u8 0, .int .u8 0, .int .u8 0, .int .u8 0, .int .u8 0, .int .u8 0, .int .u8 0, .int .u8 0] 5)) := fun _ => by kernel_rfl
  have hc := conv_eight (P := Tryz.prog) 131 9 5 Tryz.underlying131 Tryz.underlying5 Tryz.underlying9
  go_enter Tryz.func86, Tryz.ntmps86
  go_wp2
  refine wp_loop_rounds 9 ?_
  iterate 9 (rw [rounds_succ]; go_wp2)
  go_ret
  exact ⟨by rw [← eight_str n h]; rfl, (Below.refl _ _).alloc (Nat.le_refl _) _⟩

theorem u64_bounds (n : Int) : 0 ≤ n % 18446744073709551616 ∧ n % 18446744073709551616 ≤ 18446744073709551615 := by omega

set_option maxHeartbeats 400000 in
theorem wfive (n : Int) (w : World) :
    Calls Tryz.prog 101 #[.int .i64 n] w fun e w' => e = .returned (.string ⟨(be n 5).toArray⟩) ∧ Below w.heap.size w w' := by
  go_enter Tryz.func101, Tryz.ntmps101
  go_wp2_with fail
  refine (high5 _ _ (u64_bounds n)).mono ?_
  rintro e w' ⟨rfl, hg⟩
  rw [be_wrap n _ 5 (by omega) rfl]
  go_wp2
  go_ret
  exact ⟨rfl, hg⟩

set_option maxHeartbeats 400000 in
theorem weight (n : Int) (w : World) (h : 0 ≤ n ∧ n ≤ 18446744073709551615) :
    Calls Tryz.prog 72 #[.int .u64 n] w fun e w' => e = .returned (.string ⟨(be n 8).toArray⟩) ∧ Below w.heap.size w w' := by
  go_enter Tryz.func72, Tryz.ntmps72
  go_wp2_with fail
  refine (high8 _ _ h).mono ?_
  rintro e w' ⟨rfl, hg⟩
  go_wp2
  go_ret
  exact ⟨rfl, hg⟩
end Go.Proofs.YtmhllihedejehaaGreat

namespace Go.Proofs.YtmhllihedejehaaGreat
open Go.RowKit

theorem xor_bd (x y : Int) : 0 ≤ bits .xor .u64 x y ∧ bits .xor .u64 x y ≤ 18446744073709551615 := bounds_u64 (wf_bits .xor .u64 x y)
theorem wrap_bd (x : Int) : 0 ≤ IntKind.u64.wrap x ∧ IntKind.u64.wrap x ≤ 18446744073709551615 := bounds_u64 (wf_wrap .u64 x)

/-- One byte more. -/
def mulP (x : Int) : Int := IntKind.u64.wrap (x * 11400714819323198485)
def stirP (h b : Int) : Int := bits .xor .u64 (mulP (bits .xor .u64 h b)) (mulP (bits .xor .u64 h b) / 4294967296)
theorem stirP_bd (h b : Int) : 0 ≤ stirP h b ∧ stirP h b ≤ 18446744073709551615 := xor_bd _ _

/-- The bytes of a text, one behind the other. -/
def stirs (h : Int) (l : List UInt8) : Int := l.foldl (fun h b => stirP h (b.toNat : Int)) h
theorem stirs_snoc (h : Int) (l : List UInt8) (b : UInt8) : stirs h (l ++ [b]) = stirP (stirs h l) (b.toNat : Int) := by
  simp [stirs, List.foldl_append]
theorem stirs_bd (h : Int) (l : List UInt8) (hh : 0 ≤ h ∧ h ≤ 18446744073709551615) : 0 ≤ stirs h l ∧ stirs h l ≤ 18446744073709551615 := by
  induction l generalizing h with
  | nil => exact hh
  | cons b l ih => exact ih _ (stirP_bd _ _)
theorem take_snoc (s : ByteArray) (k : Nat) (h : k < s.size) : s.data.toList.take (k + 1) = s.data.toList.take k ++ [s[k]] := by
  rw [List.take_succ_eq_append_getElem (by simpa using h)]; rfl
theorem take_all (s : ByteArray) (k : Nat) (h : s.size ≤ k) : s.data.toList.take k = s.data.toList := List.take_of_length_le (by simpa using h)
theorem stirs_take (h H : Int) (s : ByteArray) (k : Nat) (hk : k < s.size) (e : H = stirs h (s.data.toList.take k)) : stirP H (s[k].toNat : Int) = stirs h (s.data.toList.take (k + 1)) := by
  rw [take_snoc s k hk, stirs_snoc, e]

/-- A part of an image: its length, and its bytes. -/
def partP (h : Int) (s : ByteArray) : Int := stirs (stirs h (be (s.size : Int) 8)) s.data.toList
def partsP (h : Int) (ss : List ByteArray) : Int := ss.foldl partP h
theorem partsP_snoc (h : Int) (ss : List ByteArray) (s : ByteArray) : partsP h (ss ++ [s]) = partP (partsP h ss) s := by
  simp [partsP, List.foldl_append]
theorem partP_bd (h : Int) (s : ByteArray) (hh : 0 ≤ h ∧ h ≤ 18446744073709551615) : 0 ≤ partP h s ∧ partP h s ≤ 18446744073709551615 := stirs_bd _ _ (stirs_bd _ _ hh)
theorem partsP_bd (h : Int) (ss : List ByteArray) (hh : 0 ≤ h ∧ h ≤ 18446744073709551615) : 0 ≤ partsP h ss ∧ partsP h ss ≤ 18446744073709551615 := by
  induction ss generalizing h with
  | nil => exact hh
  | cons s ss ih => exact ih _ (partP_bd _ _ hh)
theorem partsP_take (h H : Int) (ss : List ByteArray) (k : Nat) (hk : k < ss.length) (e : H = partsP h (ss.take k)) : partP H ss[k] = partsP h (ss.take (k + 1)) := by
  rw [List.take_succ_eq_append_getElem hk, partsP_snoc, e]

/-- How many bytes a digest has. -/
def widthP (w : Int) : Int := if w < 1 then 1 else if 8 < w then 8 else w
theorem widthP_bd (w : Int) : 1 ≤ widthP w ∧ widthP w ≤ 8 := by unfold widthP; split <;> (try split) <;> omega

def turnP (h : Int) : Int := mulP (bits .xor .u64 h (h / 536870912))
def lastP (h : Int) : Int := bits .xor .u64 (turnP (turnP h)) (turnP (turnP h) / 4294967296)
theorem mulP_bd (x : Int) : 0 ≤ mulP x ∧ mulP x ≤ 18446744073709551615 := wrap_bd _
theorem turnP_bd (h : Int) : 0 ≤ turnP h ∧ turnP h ≤ 18446744073709551615 := mulP_bd _
theorem lastP_bd (h : Int) : 0 ≤ lastP h ∧ lastP h ≤ 18446744073709551615 := xor_bd _ _

/-- D1. -/
def ofP (w tag : Int) (ss : List ByteArray) : Int := lastP (partsP (stirP 11400714819323198485 (tag % 256)) ss) / 256 ^ (8 - widthP w).toNat

theorem ofP_bd (w tag : Int) (ss : List ByteArray) : 0 ≤ ofP w tag ss ∧ ofP w tag ss ≤ 18446744073709551615 := by
  have h := lastP_bd (partsP (stirP 11400714819323198485 (tag % 256)) ss)
  have hp : (0 : Int) < 256 ^ (8 - widthP w).toNat := Int.pow_pos (by omega)
  unfold ofP
  refine ⟨Int.ediv_nonneg h.1 (Int.le_of_lt hp), ?_⟩
  exact Int.le_trans (Int.ediv_le_self _ h.1) h.2

theorem shift_pow (w : Int) : (256 : Int) ^ (8 - widthP w).toNat = 2 ^ (64 - 8 * widthP w).toNat := by
  have h := widthP_bd w
  have e : (64 - 8 * widthP w).toNat = 8 * (8 - widthP w).toNat := by omega
  rw [e, Int.pow_mul, show ((2 : Int) ^ 8) = 256 from by decide]
end Go.Proofs.YtmhllihedejehaaGreat
