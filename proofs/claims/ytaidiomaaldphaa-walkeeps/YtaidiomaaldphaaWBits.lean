/- How many bits a number has. -/
import Derived.Test.YtaidiomaaldphaaEnds
import Derived.Lib.BitFns
namespace Go.Proofs.Ytaidiomaaldphaa
open Go.RowKit
set_option linter.unusedVariables false

theorem ret_i64 {a b : Int} (h : a = b) : Ending.returned (.int .i64 a) = .returned (.int .i64 b) := by rw [h]

/-- The greatest power of two below n (of two or more). -/
def firstP (n : Nat) : Nat := 2 ^ Nat.log2 (n - 1)

theorem firstP_spec (n : Nat) (h : 2 ≤ n) : 1 ≤ firstP n ∧ firstP n < n ∧ n ≤ 2 * firstP n := by
  have h1 := Nat.log2_self_le (n := n - 1) (by omega)
  have h2 := Nat.lt_log2_self (n := n - 1)
  have h3 : 0 < 2 ^ Nat.log2 (n - 1) := Nat.pow_pos (by omega)
  rw [Nat.pow_succ] at h2
  unfold firstP
  omega

theorem firstP_of (n j : Nat) (h : 2 ≤ n) (h1 : 2 ^ j < n) (h2 : n ≤ 2 * 2 ^ j) : 2 ^ j = firstP n := by
  unfold firstP
  have e : Nat.log2 (n - 1) = j := (Nat.log2_eq_iff (by omega)).2 ⟨by omega, by rw [Nat.pow_succ]; omega⟩
  rw [e]

theorem bitLen_log2 : ∀ (x : Nat), 1 ≤ x → x < 2 ^ 64 → Lib.bitLen x = Nat.log2 x + 1 := by
  intro x
  induction x using Nat.strongRecOn with
  | ind x ih =>
    intro h1 h2
    by_cases hx : x = 1
    · subst hx; decide
    · rw [Lib.bitLen_half x (by omega) h2, ih (x / 2) (by omega) (by omega) (by omega), Nat.log2_def x, if_pos (by omega)]
      omega

theorem wadd (k a b : Nat) (hk : k ≤ 56) (ha : a ≤ 8) (hb : b = k + a) : wrap64 ((k : Int) + wrap64 (a : Int)) = (b : Int) := by
  unfold wrap64; omega
theorem wone (a : Nat) (ha : a ≤ 8) : wrap64 (a : Int) = (a : Int) := by
  unfold wrap64; omega

set_option maxRecDepth 100000 in
theorem tab_size : Lib.len8tab.size = 256 := by decide

theorem tab_get (y : Int) (h : y.toNat < Lib.len8tab.size) (h0 : 0 ≤ y) (h1 : y ≤ 255) : ((Lib.len8tab[y.toNat]'h).toNat : Int) = (Lib.bitLen y.toNat : Int) := by
  rw [← Lib.len8_of y h0 h1]
  unfold Lib.len8
  rw [getElem?_pos Lib.len8tab y.toNat h]
  rfl

theorem tab_way (k : Nat) (y : Int) (h : y.toNat < Lib.len8tab.size) (h0 : 0 ≤ y) (h1 : y ≤ 255) (hk : k ≤ 56) (b : Nat) (hb : b = k + Lib.bitLen y.toNat) :
    wrap64 ((k : Int) + wrap64 ((Lib.len8tab[y.toNat]'h).toNat : Int)) = (b : Int) := by
  rw [tab_get y h h0 h1]
  exact wadd k _ b hk (Lib.bitLen_le8' y h0 h1) hb

theorem tab_zero (y : Int) (h0 : 0 ≤ y) (h1 : y ≤ 255) : wrap64 (wrap64 (Lib.len8 y)) = (Lib.bitLen y.toNat : Int) := by
  rw [Lib.len8_of y h0 h1, wone _ (Lib.bitLen_le8' y h0 h1), wone _ (Lib.bitLen_le8' y h0 h1)]

set_option maxRecDepth 1000000 in
set_option maxHeartbeats 4000000 in
theorem len64_any (x : Int) (w : World) (h0 : 0 ≤ x) (h1 : x ≤ 1099511627775) :
    Calls Try.prog 89 #[.int .u64 x] w fun e w' => e = .returned (.int .i64 (Lib.bitLen x.toNat)) ∧ w = w' := by
  have hsz : (Lib.len8tab.size : Int) = 256 := by have := tab_size; omega
  have hc : x ≤ 255 ∨ (256 ≤ x ∧ x ≤ 65535) ∨ (65536 ≤ x ∧ x ≤ 16777215) ∨ (16777216 ≤ x ∧ x ≤ 4294967295) ∨ 4294967296 ≤ x := by omega
  rcases hc with hc | ⟨hc, hd⟩ | ⟨hc, hd⟩ | ⟨hc, hd⟩ | hc
  · go_enter Try.func89, Try.ntmps89
    go_wp2
    go_ret
    exact ⟨ret_i64 (tab_zero x h0 hc), rfl⟩
  · have e : (x / 256).toNat = x.toNat / 256 := by omega
    have hs := Lib.bitLen_shift8 x.toNat (by omega) (by omega)
    rw [← e] at hs
    have HS : Hid (_ = _) := hs
    clear hs
    clear e
    go_enter Try.func89, Try.ntmps89
    go_wp2
    go_ret
    exact ⟨ret_i64 (tab_way 8 (x / 256) (by have := tab_size; omega) (by omega) (by omega) (by omega) _ HS.out), rfl⟩
  · have e : (x / 65536).toNat = x.toNat / 65536 := by omega
    have hs := Lib.bitLen_shift16 x.toNat (by omega) (by omega)
    rw [← e] at hs
    have HS : Hid (_ = _) := hs
    clear hs
    have h3 : x / 65536 < 256 := by omega
    clear e
    go_enter Try.func89, Try.ntmps89
    go_wp2
    go_ret
    exact ⟨ret_i64 (tab_way 16 (x / 65536) (by have := tab_size; omega) (by omega) (by omega) (by omega) _ HS.out), rfl⟩
  · have e : (x / 65536 / 256).toNat = x.toNat / 16777216 := by omega
    have hs := Lib.bitLen_shift24 x.toNat (by omega) (by omega)
    rw [← e] at hs
    have HS : Hid (_ = _) := hs
    clear hs
    have h3 : 256 ≤ x / 65536 := by omega
    have h4 : x / 65536 / 256 ≤ 255 := by omega
    clear e
    go_enter Try.func89, Try.ntmps89
    go_wp2
    go_ret
    exact ⟨ret_i64 (tab_way 24 (x / 65536 / 256) (by have := tab_size; omega) (by omega) (by omega) (by omega) _ HS.out), rfl⟩
  · have e : (x / 4294967296).toNat = x.toNat / 4294967296 := by omega
    have hs := Lib.bitLen_shift32 x.toNat (by omega) (by omega)
    rw [← e] at hs
    have HS : Hid (_ = _) := hs
    clear hs
    have h3 : x / 4294967296 < 256 := by omega
    clear e
    go_enter Try.func89, Try.ntmps89
    go_wp2
    go_ret
    exact ⟨ret_i64 (tab_way 32 (x / 4294967296) (by have := tab_size; omega) (by omega) (by omega) (by omega) _ HS.out), rfl⟩

theorem wrap_pow (j n : Nat) (h : 2 ^ j < n) (hn : n ≤ 1099511627776) : wrap64 ((2 : Int) ^ j) = ((2 ^ j : Nat) : Int) := by
  have e : ((2 : Int) ^ j) = ((2 ^ j : Nat) : Int) := by push_cast; rfl
  rw [e]; generalize (2 : Nat) ^ j = p at h; unfold wrap64; omega

theorem blen_any (x : Int) (w : World) (h0 : 0 ≤ x) (h1 : x ≤ 1099511627775) :
    Calls Try.prog 76 #[.int .u64 x] w fun e w' => e = .returned (.int .i64 (Lib.bitLen x.toNat)) ∧ w = w' := by
  go_enter Try.func76, Try.ntmps76
  go_wp2_with fail
  refine (len64_any x _ h0 h1).mono ?_
  rintro e w' ⟨rfl, rfl⟩
  go_wp2
  go_ret
  exact ⟨rfl, rfl⟩




end Go.Proofs.Ytaidiomaaldphaa
