/- Helpers for this seat: what a number is in bytes, the highest first; a slice of bytes turned into a string. -/
import Derived.Laws.BytesArg
import Derived.WalkKit
import Derived.RowKit3
namespace Go.Proofs.YtemlbcagkjmjgaaDoor
open Go.RowKit

/-- The lowest byte of n. -/
def byteAt (n : Int) : UInt8 := UInt8.ofNat (n % 256).toNat

/-- The lowest k bytes of n, the highest first. -/
def be (n : Int) : Nat → List UInt8
  | 0 => []
  | k + 1 => byteAt (n / 256 ^ k) :: be n k

theorem be_len (n : Int) (k : Nat) : (be n k).length = k := by
  induction k with
  | zero => rfl
  | succ k ih => simp [be, ih]

theorem div_step (n : Int) (k : Nat) : n / 256 ^ k / 256 = n / 256 ^ (k + 1) := by
  rw [Int.pow_succ, Int.ediv_ediv_of_nonneg (by exact Int.le_of_lt (Int.pow_pos (by omega)))]

theorem be_snoc (n m : Int) (k : Nat) (l : List UInt8) (hm : m = n / 256 ^ k) (hl : l = be n k) : byteAt m :: l = be n (k + 1) := by
  subst hm; subst hl; rfl

theorem str_cons (x : UInt8) (l : List UInt8) : (⟨#[x]⟩ : ByteArray) ++ ⟨l.toArray⟩ = ⟨(x :: l).toArray⟩ := by
  apply ByteArray.ext
  simp [ByteArray.data_append]

/-- 'string(b)' of a new row of bytes. -/
theorem conv_row {P : Program} (src dst e : TypeId) (hs : P.underlying src = some (.slice e)) (he : P.underlying e = some (.int .u8)) (hd : P.underlying dst = some .string)
    (w : World) (xs : List Int) (len : Nat) (hl : xs.length = len) : (convert src dst (.slice (some ⟨w.heap.size, 0, none⟩) len len)).run P (w.alloc (.cells (xs.map (Value.int .u8)).toArray e)) = .ok (.string (strOfNums xs)) (w.alloc (.cells (xs.map (Value.int .u8)).toArray e)) := by
  refine run_convert_bytes_arg (P := P) (w.alloc (.cells (xs.map (Value.int .u8)).toArray e)) src e hs he w.heap.size 0 len len xs hl (fun i hi => ?_) dst hd
  simp [List.getD, hl, hi]

theorem conv_one {P : Program} (src dst e : TypeId) (hs : P.underlying src = some (.slice e)) (he : P.underlying e = some (.int .u8)) (hd : P.underlying dst = some .string)
    (w : World) (x : Int) : (convert src dst (.slice (some ⟨w.heap.size, 0, none⟩) 1 1)).run P (w.alloc (.cells #[.int .u8 x] e)) = .ok (.string ⟨#[UInt8.ofNat x.toNat]⟩) (w.alloc (.cells #[.int .u8 x] e)) :=
  conv_row src dst e hs he hd w [x] 1 rfl

theorem conv_five {P : Program} (src dst e : TypeId) (hs : P.underlying src = some (.slice e)) (he : P.underlying e = some (.int .u8)) (hd : P.underlying dst = some .string)
    (w : World) (a b c d f : Int) : (convert src dst (.slice (some ⟨w.heap.size, 0, none⟩) 5 5)).run P (w.alloc (.cells #[.int .u8 a, .int .u8 b, .int .u8 c, .int .u8 d, .int .u8 f] e)) = .ok (.string (strOfNums [a, b, c, d, f])) (w.alloc (.cells #[.int .u8 a, .int .u8 b, .int .u8 c, .int .u8 d, .int .u8 f] e)) :=
  conv_row src dst e hs he hd w [a, b, c, d, f] 5 rfl

theorem conv_eight {P : Program} (src dst e : TypeId) (hs : P.underlying src = some (.slice e)) (he : P.underlying e = some (.int .u8)) (hd : P.underlying dst = some .string)
    (w : World) (a b c d f g i j : Int) : (convert src dst (.slice (some ⟨w.heap.size, 0, none⟩) 8 8)).run P (w.alloc (.cells #[.int .u8 a, .int .u8 b, .int .u8 c, .int .u8 d, .int .u8 f, .int .u8 g, .int .u8 i, .int .u8 j] e)) = .ok (.string (strOfNums [a, b, c, d, f, g, i, j])) (w.alloc (.cells #[.int .u8 a, .int .u8 b, .int .u8 c, .int .u8 d, .int .u8 f, .int .u8 g, .int .u8 i, .int .u8 j] e)) :=
  conv_row src dst e hs he hd w [a, b, c, d, f, g, i, j] 8 rfl

theorem five_str (n : Int) : strOfNums [n / 4294967296 % 256, n / 16777216 % 256, n / 65536 % 256, n / 256 % 256, n % 256] = ⟨(be n 5).toArray⟩ := by
  simp [strOfNums, be, byteAt]

theorem eight_str (n : Int) (h : 0 ≤ n ∧ n ≤ 18446744073709551615) : strOfNums [n / 72057594037927936, n / 281474976710656 % 256, n / 1099511627776 % 256, n / 4294967296 % 256, n / 16777216 % 256, n / 65536 % 256, n / 256 % 256, n % 256] = ⟨(be n 8).toArray⟩ := by
  have e : n / 72057594037927936 % 256 = n / 72057594037927936 := by omega
  simp [strOfNums, be, byteAt, e]

/-- A number and what is the same modulo 2^64 have the same bytes. -/
theorem byteAt_wrap (n m : Int) (k : Nat) (hk : k < 8) (h : m = n % 18446744073709551616) : byteAt (m / 256 ^ k) = byteAt (n / 256 ^ k) := by
  have e : k = 0 ∨ k = 1 ∨ k = 2 ∨ k = 3 ∨ k = 4 ∨ k = 5 ∨ k = 6 ∨ k = 7 := by omega
  unfold byteAt
  congr 2
  rcases e with rfl | rfl | rfl | rfl | rfl | rfl | rfl | rfl <;> simp <;> omega

theorem be_wrap (n m : Int) (k : Nat) (hk : k ≤ 8) (h : m = n % 18446744073709551616) : be m k = be n k := by
  induction k with
  | zero => rfl
  | succ k ih => simp only [be]; rw [byteAt_wrap n m k (by omega) h, ih (by omega)]
end Go.Proofs.YtemlbcagkjmjgaaDoor
