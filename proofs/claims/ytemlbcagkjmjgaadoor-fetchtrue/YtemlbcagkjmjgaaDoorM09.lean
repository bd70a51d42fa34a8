/- Nodes are made. -/
import Derived.Test.YtemlbcagkjmjgaaDoorM07
import Derived.Deep.CutRange
import Derived.Deep.DeepCutAuto
import Derived.BigRegion
import Derived.Lib.BitFns

namespace Go.Proofs.YtemlbcagkjmjgaaDoor
open Go.RowKit
set_option linter.unusedVariables false

set_option maxHeartbeats 1600000 in
theorem told_leaf (b : Nat) (d : Int) (k v : ByteArray) (w : World) (h : Blk w b #[.int .u64 d, .string k, .string v, .int .i64 0, .pointer none, .pointer none] 75) :
    Calls Tryd.prog 28 #[.pointer (some ⟨b, 0, none⟩)] w fun e w' => e = .returned (.agg #[.int .i64 1, .string k, .string v, .int .i64 0, .int .u64 0, .int .u64 0]) ∧ Below w.heap.size w w' := by
  have hlt := h.lt
  have c1 := Blk.cell h 1
  have c2 := Blk.cell h 2
  have c4 := Blk.cell h 4
  simp only [List.getElem?_toArray, List.getElem?_cons_succ, List.getElem?_cons_zero] at c1 c2 c4
  clear h
  go_enter Tryd.func28, Tryd.ntmps28
  go_wp2
  go_region
  all_goals
    go_wp2
    exact bodyPost_ret (v := .agg #[.int .i64 1, .string k, .string v, .int .i64 0, .int .u64 0, .int .u64 0]) (by simp [results, Tryd.results28, go_sem]) rfl ⟨rfl, ((Below.refl _ _).alloc (Nat.le_refl _) _).drew⟩

set_option maxHeartbeats 3200000 in
theorem told_fork (b bl br : Nat) (d p x y : Int) (s t : ByteArray) (w : World) (h : Blk w b #[.int .u64 d, .string s, .string t, .int .i64 p, .pointer (some ⟨bl, 0, none⟩), .pointer (some ⟨br, 0, none⟩)] 75)
    (hl : bl < w.heap.size) (hr : br < w.heap.size) (cl : w.cell? ⟨bl, 0, none⟩ = some (.int .u64 x)) (cr : w.cell? ⟨br, 0, none⟩ = some (.int .u64 y)) :
    Calls Tryd.prog 28 #[.pointer (some ⟨b, 0, none⟩)] w fun e w' => e = .returned (.agg #[.int .i64 2, .string ⟨#[]⟩, .string ⟨#[]⟩, .int .i64 p, .int .u64 x, .int .u64 y]) ∧ Below w.heap.size w w' := by
  have hlt := h.lt
  have c3 := Blk.cell h 3
  have c4 := Blk.cell h 4
  have c5 := Blk.cell h 5
  simp only [List.getElem?_toArray, List.getElem?_cons_succ, List.getElem?_cons_zero] at c3 c4 c5
  clear h
  go_enter Tryd.func28, Tryd.ntmps28
  go_wp2
  go_region
  all_goals
    go_wp2
    exact bodyPost_ret (v := .agg #[.int .i64 2, .string ⟨#[]⟩, .string ⟨#[]⟩, .int .i64 p, .int .u64 x, .int .u64 y]) (by simp [results, Tryd.results28, go_sem]) rfl ⟨rfl, ((Below.refl _ _).alloc (Nat.le_refl _) _).drew⟩
end Go.Proofs.YtemlbcagkjmjgaaDoor

namespace Go.Proofs.YtemlbcagkjmjgaaDoor
open Go.RowKit
set_option linter.unusedVariables false

theorem str_size (k : Key) : (str k).size = k.length := by simp [str, ByteArray.size]
theorem str_get (k : Key) (i : Nat) (h : i < k.length) (h' : i < (str k).size) : (str k)[i] = k[i] := by
  show (k.toArray)[i]'(by simpa using h) = k[i]
  exact List.getElem_toArray _
theorem str_inj {a b : Key} (h : str a = str b) : a = b := by
  have := congrArg (fun x => x.data.toList) h
  simpa [str] using this
theorem str_toList (k : Key) : (str k).toList = k := ByteArray.toList_mk k

theorem and_one_fin : ∀ n : Fin 256, bits BinOp.and IntKind.i64 (wrap64 (n.val : Int)) 1 = (n.val % 2 : Nat) := by decide +kernel
theorem and_one (x : Nat) (h : x < 256) : bits BinOp.and IntKind.i64 (wrap64 (x : Int)) 1 = (x % 2 : Nat) := and_one_fin ⟨x, h⟩

set_option maxHeartbeats 800000 in
theorem bit_in (k : Key) (P : Int) (i o : Nat) (w : World) (hk : k.length ≤ maxLen) (h0 : 0 ≤ P) (hP : P ≤ 100000000) (h1 : P / 9 = i) (h2 : P % 9 = o) (ho : ¬ o = 0) (ho9 : o < 9) (hi : i < k.length) :
    Calls Tryd.prog 57 #[.string (str k), .int .i64 P] w fun e w' => e = .returned (.int .i64 ((k[i]'hi).toNat / 2 ^ (8 - o) % 2 : Nat)) ∧ w = w' := by
  have hsz := str_size k
  unfold maxLen at hk
  have hge : ¬ (k.length : Int) ≤ (i : Int) := by omega
  have hoi : ¬ (o : Int) = 0 := by omega
  have hob : ((o : Int) == 0) = false := by simpa using hoi
  go_enter Tryd.func57, Tryd.ntmps57
  go_wp2
  go_ret
  refine ⟨ret_i64 ?_, rfl⟩
  have e : ∀ h', (str k)[i]'h' = k[i] := fun h' => str_get k i hi h'
  have hb : k[i].toNat / 2 ^ (8 - o) < 256 := Nat.lt_of_le_of_lt (Nat.div_le_self _ _) k[i].toNat_lt
  simp only [e]
  have := and_one (k[i].toNat / 2 ^ (8 - o)) hb
  push_cast at this ⊢
  exact this

theorem bit_first (k : Key) (P : Int) (i o : Nat) (w : World) (hk : k.length ≤ maxLen) (h0 : 0 ≤ P) (hP : P ≤ 100000000) (h1 : P / 9 = i) (h2 : P % 9 = o) (ho : o = 0) (hi : i < k.length) :
    Calls Tryd.prog 57 #[.string (str k), .int .i64 P] w fun e w' => e = .returned (.int .i64 1) ∧ w = w' := by
  have hsz := str_size k
  unfold maxLen at hk
  have hge : ¬ (k.length : Int) ≤ (i : Int) := by omega
  subst ho
  go_enter Tryd.func57, Tryd.ntmps57
  go_wp2
  go_ret
  exact ⟨rfl, rfl⟩

theorem bit_off (k : Key) (P : Int) (i o : Nat) (w : World) (hk : k.length ≤ maxLen) (h0 : 0 ≤ P) (hP : P ≤ 100000000) (h1 : P / 9 = i) (h2 : P % 9 = o) (hi : ¬ i < k.length) :
    Calls Tryd.prog 57 #[.string (str k), .int .i64 P] w fun e w' => e = .returned (.int .i64 0) ∧ w = w' := by
  have hsz := str_size k
  unfold maxLen at hk
  have hge : (k.length : Int) ≤ (i : Int) := by omega
  go_enter Tryd.func57, Tryd.ntmps57
  go_wp2
  go_ret
  exact ⟨rfl, rfl⟩

theorem bit_any (k : Key) (p : Nat) (w : World) (hk : k.length ≤ maxLen) (hp : p ≤ 100000000) :
    Calls Tryd.prog 57 #[.string (str k), .int .i64 p] w fun e w' => e = .returned (.int .i64 (bitP k p : Nat)) ∧ w = w' := by
  by_cases hi : p / 9 < k.length
  · by_cases ho : p % 9 = 0
    · have e : bitP k p = 1 := by simp [bitP, hi, ho]
      rw [e]
      exact bit_first k p (p / 9) (p % 9) w hk (by omega) (by omega) (by omega) (by omega) ho hi
    · have e : bitP k p = (k[p / 9]'hi).toNat / 2 ^ (8 - p % 9) % 2 := by simp [bitP, hi, ho]
      rw [e]
      exact bit_in k p (p / 9) (p % 9) w hk (by omega) (by omega) (by omega) (by omega) ho (by omega) hi
  · have e : bitP k p = 0 := by
      unfold bitP
      rw [List.getElem?_eq_none (by omega)]
    rw [e]
    exact bit_off k p (p / 9) (p % 9) w hk (by omega) (by omega) (by omega) (by omega) hi

/-- Where two unlike keys part. -/
def keyPart : Key → Key → Nat
  | a :: x, b :: y => if a = b then 9 + keyPart x y else 9 - Lib.bitLen (a.toNat ^^^ b.toNat)
  | _, _ => 0

theorem top_bit : ∀ n : Fin 256, n.val ≠ 0 → 1 ≤ Lib.bitLen n.val ∧ Lib.bitLen n.val ≤ 8 ∧ n.val.testBit (Lib.bitLen n.val - 1) = true ∧ ∀ j : Fin 8, Lib.bitLen n.val ≤ j.val → n.val.testBit j.val = false := by decide +kernel

theorem bit_test (a m : Nat) : a / 2 ^ m % 2 = if a.testBit m then 1 else 0 := by
  rw [Nat.testBit_eq_decide_div_mod_eq]
  have : a / 2 ^ m % 2 < 2 := Nat.mod_lt _ (by omega)
  by_cases h : a / 2 ^ m % 2 = 1
  · simp [h]
  · simp [h]; omega

theorem byte_part (a b : UInt8) (h : a ≠ b) : 1 ≤ 9 - Lib.bitLen (a.toNat ^^^ b.toNat) ∧ 9 - Lib.bitLen (a.toNat ^^^ b.toNat) ≤ 8 ∧ a.toNat / 2 ^ (8 - (9 - Lib.bitLen (a.toNat ^^^ b.toNat))) % 2 ≠ b.toNat / 2 ^ (8 - (9 - Lib.bitLen (a.toNat ^^^ b.toNat))) % 2 ∧ ∀ q, 0 < q → q < 9 - Lib.bitLen (a.toNat ^^^ b.toNat) → a.toNat / 2 ^ (8 - q) % 2 = b.toNat / 2 ^ (8 - q) % 2 := by
  have hx : a.toNat ^^^ b.toNat < 256 := Nat.xor_lt_two_pow (n := 8) a.toNat_lt b.toNat_lt
  have hne : a.toNat ^^^ b.toNat ≠ 0 := fun e => h (UInt8.toNat_inj.1 (Nat.eq_of_testBit_eq fun i => by
    have := congrArg (fun x => x.testBit i) e
    simp only [Nat.testBit_xor, Nat.zero_testBit] at this
    revert this; cases a.toNat.testBit i <;> cases b.toNat.testBit i <;> simp))
  obtain ⟨t1, t2, t3, t4⟩ := top_bit ⟨_, hx⟩ hne
  generalize hL : Lib.bitLen (a.toNat ^^^ b.toNat) = L at *
  simp only at t1 t2 t3 t4
  refine ⟨by omega, by omega, ?_, fun q q0 q9 => ?_⟩
  · rw [show 8 - (9 - L) = L - 1 by omega, bit_test, bit_test]
    rw [Nat.testBit_xor] at t3
    cases h1 : a.toNat.testBit (L - 1) <;> cases h2 : b.toNat.testBit (L - 1) <;> simp_all
  · have := t4 ⟨8 - q, by omega⟩ (by simp only; omega)
    rw [Nat.testBit_xor] at this
    rw [bit_test, bit_test]
    cases h1 : a.toNat.testBit (8 - q) <;> cases h2 : b.toNat.testBit (8 - q) <;> simp_all

theorem keyPart_spec : ∀ a b : Key, a ≠ b → agree (keyPart a b) a b ∧ bitP a (keyPart a b) ≠ bitP b (keyPart a b)
  | [], [], h => (h rfl).elim
  | [], d :: y, _ => ⟨fun q hq => by simp [keyPart] at hq, by simp [keyPart, bitP_nil, bitP_zero]⟩
  | c :: x, [], _ => ⟨fun q hq => by simp [keyPart] at hq, by simp [keyPart, bitP_nil, bitP_zero]⟩
  | c :: x, d :: y, h => by
    by_cases e : c = d
    · subst e
      have hxy : x ≠ y := fun e => h (by rw [e])
      obtain ⟨h1, h2⟩ := keyPart_spec x y hxy
      have hp : keyPart (c :: x) (c :: y) = 9 + keyPart x y := by simp [keyPart]
      rw [hp]
      refine ⟨fun q hq => ?_, by rw [bitP_behind, bitP_behind]; exact h2⟩
      by_cases q9 : q < 9
      · by_cases q0 : q = 0
        · subst q0; rw [bitP_zero, bitP_zero]
        · rw [bitP_in c x q (by omega) q9, bitP_in c y q (by omega) q9]
      · obtain ⟨r, rfl⟩ : ∃ r, q = 9 + r := ⟨q - 9, by omega⟩
        rw [bitP_behind, bitP_behind]
        exact h1 r (by omega)
    · obtain ⟨h1, h2, h3, h4⟩ := byte_part c d e
      have hp : keyPart (c :: x) (d :: y) = 9 - Lib.bitLen (c.toNat ^^^ d.toNat) := by simp [keyPart, e]
      rw [hp]
      refine ⟨fun q hq => ?_, by rw [bitP_in c x _ (by omega) (by omega), bitP_in d y _ (by omega) (by omega)]; exact h3⟩
      by_cases q0 : q = 0
      · subst q0; rw [bitP_zero, bitP_zero]
      · rw [bitP_in c x q (by omega) (by omega), bitP_in d y q (by omega) (by omega)]
        exact h4 q (by omega) hq

theorem keyPart_lt : ∀ (a b : Key) (n : Nat), a ≠ b → a.length ≤ n → b.length ≤ n → keyPart a b < 9 * n
  | [], [], _, h, _, _ => (h rfl).elim
  | [], d :: y, n, _, _, h => by simp only [keyPart, List.length_cons] at *; omega
  | c :: x, [], n, _, h, _ => by simp only [keyPart, List.length_cons] at *; omega
  | c :: x, d :: y, n, h, h1, h2 => by
    simp only [List.length_cons] at h1 h2
    by_cases e : c = d
    · subst e
      have hxy : x ≠ y := fun e => h (by rw [e])
      have := keyPart_lt x y (n - 1) hxy (by omega) (by omega)
      simp only [keyPart, if_true]; omega
    · obtain ⟨g1, g2, _⟩ := byte_part c d e
      simp only [keyPart, e, if_false]; omega

theorem keyPart_take : ∀ (i : Nat) (a b : Key), i ≤ a.length → i ≤ b.length → a.take i = b.take i → keyPart a b = 9 * i + keyPart (a.drop i) (b.drop i)
  | 0, a, b, _, _, _ => by simp
  | i + 1, [], _, h, _, _ => by simp at h
  | i + 1, _ :: _, [], _, h, _ => by simp at h
  | i + 1, c :: x, d :: y, h1, h2, h => by
    simp only [List.take_succ_cons, List.cons.injEq, List.length_cons, List.drop_succ_cons] at h h1 h2 ⊢
    obtain ⟨rfl, h⟩ := h
    have := keyPart_take i x y (by omega) (by omega) h
    simp only [keyPart, if_true]; omega

theorem bits_xor_u8_nat (a b : Nat) (ha : a < 256) (hb : b < 256) : bits .xor .u8 (a : Int) (b : Int) = ((a ^^^ b : Nat) : Int) := by
  have hx : a ^^^ b < 2 ^ 8 := Nat.xor_lt_two_pow (by omega) (by omega)
  have h1 : (BitVec.ofInt 8 (a : Int)).toNat = a := by
    rw [BitVec.ofInt_natCast, BitVec.toNat_ofNat]; exact Nat.mod_eq_of_lt (by omega)
  have h2 : (BitVec.ofInt 8 (b : Int)).toNat = b := by
    rw [BitVec.ofInt_natCast, BitVec.toNat_ofNat]; exact Nat.mod_eq_of_lt (by omega)
  show IntKind.u8.wrap ((BitVec.ofInt 8 (a : Int) ^^^ BitVec.ofInt 8 (b : Int)).toNat : Int) = _
  rw [BitVec.toNat_xor, h1, h2, IntKind.wrap_u8]
  omega
end Go.Proofs.YtemlbcagkjmjgaaDoor
