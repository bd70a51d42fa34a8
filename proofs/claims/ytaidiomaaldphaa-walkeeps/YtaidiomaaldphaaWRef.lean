/- The answer's writing: numbers, digests, flags, counts, texts (chapter 1, W2, W3). -/
import Derived.Test.YtaidiomaaldphaaWBase
import Derived.Test.YtaidiomaaldphaaWBits
namespace Go.Proofs.Ytaidiomaaldphaa
open Go.RowKit
set_option linter.unusedVariables false

/-- How many bytes a number takes. -/
def szN (n : Int) : Nat := if n < 1 then 0 else if n < 256 then 1 else if n < 65536 then 2 else if n < 16777216 then 3 else if n < 4294967296 then 4 else 5
def numB (n : Int) : List UInt8 := UInt8.ofNat (szN n) :: be n (szN n)
def inNum (n : Int) : Bool := decide (0 ≤ n) && decide (n ≤ 1099511627775)
def numZ (n : Int) : List UInt8 := if inNum n = true then numB n else []
theorem szN_le (n : Int) : szN n ≤ 5 := by
  unfold szN
  (repeat' split) <;> omega
theorem numB_len (n : Int) : (numB n).length ≤ 6 := by have := szN_le n; simp [numB, be_len]; omega
theorem numZ_len (n : Int) : (numZ n).length ≤ 6 := by unfold numZ; split; exact numB_len n; simp
theorem szN_stop (n : Int) (k : Nat) (h0 : 0 ≤ n) (h : n ≤ 1099511627775) (h1 : n / 256 ^ k ≤ 0) (h2 : k = 0 ∨ 0 < n / 256 ^ (k - 1)) (hk : k ≤ 5) : k = szN n := by
  have e : k = 0 ∨ k = 1 ∨ k = 2 ∨ k = 3 ∨ k = 4 ∨ k = 5 := by omega
  unfold szN
  rcases e with rfl | rfl | rfl | rfl | rfl | rfl <;> simp at h1 h2 <;> (repeat' split) <;> omega
theorem str_app (l m : List UInt8) : (⟨l.toArray⟩ : ByteArray) ++ ⟨m.toArray⟩ = ⟨(l ++ m).toArray⟩ := by
  apply ByteArray.ext
  simp [ByteArray.data_append]

theorem conv_drew {P : Program} (src dst e : TypeId) (hs : P.underlying src = some (.slice e)) (he : P.underlying e = some (.int .u8)) (hd : P.underlying dst = some .string)
    (w : World) (x : Int) : (convert src dst (.slice (some ⟨w.heap.size, 0, none⟩) 1 1)).run P (w.alloc (.cells #[.int .u8 x] e)).drew = .ok (.string ⟨#[UInt8.ofNat x.toNat]⟩) (w.alloc (.cells #[.int .u8 x] e)).drew := by
  refine run_convert_bytes_arg (P := P) (w.alloc (.cells #[.int .u8 x] e)).drew src e hs he w.heap.size 0 1 1 [x] rfl (fun i hi => ?_) dst hd
  obtain rfl : i = 0 := by simpa using hi
  have h : (w.alloc (.cells #[.int .u8 x] e)).cell? ⟨w.heap.size, 0, none⟩ = some (.int .u8 x) := by simp
  exact h











/-- What Put answers: bytes, an error. -/
def outB (B : List UInt8) (far odd : Bool) : List UInt8 := if far = true then [] else if odd = true then [] else B
def outE (far odd : Bool) : Int := if far = true then 3 else if odd = true then 2 else 0


end Go.Proofs.Ytaidiomaaldphaa
