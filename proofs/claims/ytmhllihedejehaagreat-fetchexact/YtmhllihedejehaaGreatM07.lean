/- Nodes are made. -/
import Derived.Test.YtmhllihedejehaaGreatM05
import Derived.Deep.CutRange
import Derived.Deep.DeepCutAuto
import Derived.BigRegion
import Derived.Lib.BitFns

namespace Go.Proofs.YtmhllihedejehaaGreat
open Go.RowKit
set_option linter.unusedVariables false

set_option maxHeartbeats 1600000 in
theorem told_leaf (b : Nat) (d : Int) (k v : ByteArray) (w : World) (h : Blk w b #[.int .u64 d, .string k, .string v, .int .i64 0, .pointer none, .pointer none] 103) :
    Calls Tryz.prog 74 #[.pointer (some ⟨b, 0, none⟩)] w fun e w' => e = .returned (.agg #[.int .i64 1, .string k, .string v, .int .i64 0, .int .u64 0, .int .u64 0]) ∧ Below w.heap.size w w' := by
  have hlt := h.lt
  have c1 := Blk.cell h 1
  have c2 := Blk.cell h 2
  have c4 := Blk.cell h 4
  simp only [List.getElem?_toArray, List.getElem?_cons_succ, List.getElem?_cons_zero] at c1 c2 c4
  clear h
  go_enter Tryz.func74, Tryz.ntmps74
  go_wp2
  go_region
  all_goals
    go_wp2
    exact bodyPost_ret (v := .agg #[.int .i64 1, .string k, .string v, .int .i64 0, .int .u64 0, .int .u64 0]) (by simp [results, Tryz.results74, go_sem]) rfl ⟨rfl, ((Below.refl _ _).alloc (Nat.le_refl _) _).drew⟩

set_option maxHeartbeats 3200000 in
theorem told_fork (b bl br : Nat) (d p x y : Int) (s t : ByteArray) (w : World) (h : Blk w b #[.int .u64 d, .string s, .string t, .int .i64 p, .pointer (some ⟨bl, 0, none⟩), .pointer (some ⟨br, 0, none⟩)] 103)
    (hl : bl < w.heap.size) (hr : br < w.heap.size) (cl : w.cell? ⟨bl, 0, none⟩ = some (.int .u64 x)) (cr : w.cell? ⟨br, 0, none⟩ = some (.int .u64 y)) :
    Calls Tryz.prog 74 #[.pointer (some ⟨b, 0, none⟩)] w fun e w' => e = .returned (.agg #[.int .i64 2, .string ⟨#[]⟩, .string ⟨#[]⟩, .int .i64 p, .int .u64 x, .int .u64 y]) ∧ Below w.heap.size w w' := by
  have hlt := h.lt
  have c3 := Blk.cell h 3
  have c4 := Blk.cell h 4
  have c5 := Blk.cell h 5
  simp only [List.getElem?_toArray, List.getElem?_cons_succ, List.getElem?_cons_zero] at c3 c4 c5
  clear h
  go_enter Tryz.func74, Tryz.ntmps74
  go_wp2
  go_region
  all_goals
    go_wp2
    exact bodyPost_ret (v := .agg #[.int .i64 2, .string ⟨#[]⟩, .string ⟨#[]⟩, .int .i64 p, .int .u64 x, .int .u64 y]) (by simp [results, Tryz.results74, go_sem]) rfl ⟨rfl, ((Below.refl _ _).alloc (Nat.le_refl _) _).drew⟩
end Go.Proofs.YtmhllihedejehaaGreat

namespace Go.Proofs.YtmhllihedejehaaGreat
open Go.RowKit
set_option linter.unusedVariables false

theorem str_size (k : Key) : (str k).size = k.length := by simp [str, ByteArray.size]
theorem str_get (k : Key) (i : Nat) (h : i < k.length) (h' : i < (str k).size) : (str k)[i] = k[i] := by
  show (k.toArray)[i]'(by simpa using h) = k[i]
  exact List.getElem_toArray _
theorem str_inj {a b : Key} (h : str a = str b) : a = b := by
  have := congrArg (fun x => x.data.toList) h
  simpa [str] using this
theorem str_toList (k : Key) : (str k).toList = k := ByteArray.toList_mk k

theorem and_one_fin : ∀ n : Fin 256, bits BinOp.and IntKind.i64 (wrap64 (n.val : Int)) 1 = (n.val % 2 : Nat) := by decide +kernel
theorem and_one (x : Nat) (h : x < 256) : bits BinOp.and IntKind.i64 (wrap64 (x : Int)) 1 = (x % 2 : Nat) := and_one_fin ⟨x, h⟩

set_option maxHeartbeats 800000 in
theorem bit_in (k : Key) (P : Int) (i o : Nat) (w : World) (hk : k.length ≤ maxLen) (h0 : 0 ≤ P) (hP : P ≤ 100000000) (h1 : P / 9 = i) (h2 : P % 9 = o) (ho : ¬ o = 0) (ho9 : o < 9) (hi : i < k.length) :
    Calls Tryz.prog 67 #[.string (str k), .int .i64 P] w fun e w' => e = .returned (.int .i64 ((k[i]'hi).toNat / 2 ^ (8 - o) % 2 : Nat)) ∧ w = w' := by
  have hsz := str_size k
  unfold maxLen at hk
  have hge : ¬ (k.length : Int) ≤ (i : Int) := by omega
  have hoi : ¬ (o : Int) = 0 := by omega
  have hob : ((o : Int) == 0) = false := by simpa using hoi
  go_enter Tryz.func67, Tryz.ntmps67
  go_wp2
  go_ret
  refine ⟨ret_i64 ?_, rfl⟩
  have e : ∀ h', (str k)[i]'h' = k[i] := fun h' => str_get k i hi h'
  have hb : k[i].toNat / 2 ^ (8 - o) < 256 := Nat.lt_of_le_of_lt (Nat.div_le_self _ _) k[i].toNat_lt
  simp only [e]
  have := and_one (k[i].toNat / 2 ^ (8 - o)) hb
  push_cast at this ⊢
  exact this

theorem bit_first (k : Key) (P : Int) (i o : Nat) (w : World) (hk : k.length ≤ maxLen) (h0 : 0 ≤ P) (hP : P ≤ 100000000) (h1 : P / 9 = i) (h2 : P % 9 = o) (ho : o = 0) (hi : i < k.length) :
    Calls Tryz.prog 67 #[.string (str k), .int .i64 P] w fun e w' => e = .returned (.int .i64 1) ∧ w = w' := by
  have hsz := str_size k
  unfold maxLen at hk
  have hge : ¬ (k.length : Int) ≤ (i : Int) := by omega
  subst ho
  go_enter Tryz.func67, Tryz.ntmps67
  go_wp2
  go_ret
  exact ⟨rfl, rfl⟩

theorem bit_off (k : Key) (P : Int) (i o : Nat) (w : World) (hk : k.length ≤ maxLen) (h0 : 0 ≤ P) (hP : P ≤ 100000000) (h1 : P / 9 = i) (h2 : P % 9 = o) (hi : ¬ i < k.length) :
    Calls Tryz.prog 67 #[.string (str k), .int .i64 P] w fun e w' => e = .returned (.int .i64 0) ∧ w = w' := by
  have hsz := str_size k
  unfold maxLen at hk
  have hge : (k.length : Int) ≤ (i : Int) := by omega
  go_enter Tryz.func67, Tryz.ntmps67
  go_wp2
  go_ret
  exact ⟨rfl, rfl⟩

theorem bit_any (k : Key) (p : Nat) (w : World) (hk : k.length ≤ maxLen) (hp : p ≤ 100000000) :
    Calls Tryz.prog 67 #[.string (str k), .int .i64 p] w fun e w' => e = .returned (.int .i64 (bitP k p : Nat)) ∧ w = w' := by
  by_cases hi : p / 9 < k.length
  · by_cases ho : p % 9 = 0
    · have e : bitP k p = 1 := by simp [bitP, hi, ho]
      rw [e]
      exact bit_first k p (p / 9) (p % 9) w hk (by omega) (by omega) (by omega) (by omega) ho hi
    · have e : bitP k p = (k[p / 9]'hi).toNat / 2 ^ (8 - p % 9) % 2 := by simp [bitP, hi, ho]
      rw [e]
      exact bit_in k p (p / 9) (p % 9) w hk (by omega) (by omega) (by omega) (by omega) ho (by omega) hi
  · have e : bitP k p = 0 := by
      unfold bitP
      rw [List.getElem?_eq_none (by omega)]
    rw [e]
    exact bit_off k p (p / 9) (p % 9) w hk (by omega) (by omega) (by omega) (by omega) hi

/-- Where two unlike keys part. -/
def keyPart : Key → Key → Nat
  | a :: x, b :: y => if a = b then 9 + keyPart x y else 9 - Lib.bitLen (a.toNat ^^^ b.toNat)
  | _, _ => 0

theorem top_bit : ∀ n : Fin 256, n.val ≠ 0 → 1 ≤ Lib.bitLen n.val ∧ Lib.bitLen n.val ≤ 8 ∧ n.val.testBit (Lib.bitLen n.val - 1) = true ∧ ∀ j : Fin 8, Lib.bitLen n.val ≤ j.val → n.val.testBit j.val = false := by decide +kernel

theorem bit_test (a m : Nat) : a / 2 ^ m % 2 = if a.testBit m then 1 else 0 := by
  rw [Nat.testBit_eq_decide_div_mod_eq]
  have : a / 2 ^ m % 2 < 2 := Nat.mod_lt _ (by omega)
  by_cases h : a / 2 ^ m % 2 = 1
  · simp [h]
  · simp [h]; omega

theorem byte_part (a b : UInt8) (h : a ≠ b) : 1 ≤ 9 - Lib.bitLen (a.toNat ^^^ b.toNat) ∧ 9 - Lib.bitLen (a.toNat ^^^ b.toNat) ≤ 8 ∧ a.toNat / 2 ^ (8 - (9 - Lib.bitLen (a.toNat ^^^ b.toNat))) % 2 ≠ b.toNat / 2 ^ (8 - (9 - Lib.bitLen (a.toNat ^^^ b.toNat))) % 2 ∧ ∀ q, 0 < q → q < 9 - Lib.bitLen (a.toNat ^^^ b.toNat) → a.toNat / 2 ^ (8 - q) % 2 = b.toNat / 2 ^ (8 - q) % 2 := by
  have hx : a.toNat ^^^ b.toNat < 256 := Nat.xor_lt_two_pow (n := 8) a.toNat_lt b.toNat_lt
  have hne : a.toNat ^^^ b.toNat ≠ 0 := fun e => h (UInt8.toNat_inj.1 (Nat.eq_of_testBit_eq fun i => by
    have := congrArg (fun x => x.testBit i) e
    simp only [Nat.testBit_xor, Nat.zero_testBit] at this
    revert this; cases a.toNat.testBit i <;> cases b.toNat.testBit i <;> simp))
  obtain ⟨t1, t2, t3, t4⟩ := top_bit ⟨_, hx⟩ hne
  generalize hL : Lib.bitLen (a.toNat ^^^ b.toNat) = L at *
  simp only at t1 t2 t3 t4
  refine ⟨by omega, by omega, ?_, fun q q0 q9 => ?_⟩
  · rw [show 8 - (9 - L) = L - 1 by omega, bit_test, bit_test]
    rw [Nat.testBit_xor] at t3
    cases h1 : a.toNat.testBit (L - 1) <;> cases h2 : b.toNat.testBit (L - 1) <;> simp_all
  · have := t4 ⟨8 - q, by omega⟩ (by simp only; omega)
    rw [Nat.testBit_xor] at this
    rw [bit_test, bit_test]
    cases h1 : a.toNat.testBit (8 - q) <;> cases h2 : b.toNat.testBit (8 - q) <;> simp_all

theorem keyPart_spec : ∀ a b : Key, a ≠ b → agree (keyPart a b) a b ∧ bitP a (keyPart a b) ≠ bitP b (keyPart a b)
  | [], [], h => (h rfl).elim
  | [], d :: y, _ => ⟨fun q hq => by simp [keyPart] at hq, by simp [keyPart, bitP_nil, bitP_zero]⟩
  | c :: x, [], _ => ⟨fun q hq => by simp [keyPart] at hq, by simp [keyPart, bitP_nil, bitP_zero]⟩
  | c :: x, d :: y, h => by
    by_cases e : c = d
    · subst e
      have hxy : x ≠ y := fun e => h (by rw [e])
      obtain ⟨h1, h2⟩ := keyPart_spec x y hxy
      have hp : keyPart (c :: x) (c :: y) = 9 + keyPart x y := by simp [keyPart]
      rw [hp]
      refine ⟨fun q hq => ?_, by rw [bitP_behind, bitP_behind]; exact h2⟩
      by_cases q9 : q < 9
      · by_cases q0 : q = 0
        · subst q0; rw [bitP_zero, bitP_zero]
        · rw [bitP_in c x q (by omega) q9, bitP_in c y q (by omega) q9]
      · obtain ⟨r, rfl⟩ : ∃ r, q = 9 + r := ⟨q - 9, by omega⟩
        rw [bitP_behind, bitP_behind]
        exact h1 r (by omega)
    · obtain ⟨h1, h2, h3, h4⟩ := byte_part c d e
      have hp : keyPart (c :: x) (d :: y) = 9 - Lib.bitLen (c.toNat ^^^ d.toNat) := by simp [keyPart, e]
      rw [hp]
      refine ⟨fun q hq => ?_, by rw [bitP_in c x _ (by omega) (by omega), bitP_in d y _ (by omega) (by omega)]; exact h3⟩
      by_cases q0 : q = 0
      · subst q0; rw [bitP_zero, bitP_zero]
      · rw [bitP_in c x q (by omega) (by omega), bitP_in d y q (by omega) (by omega)]
        exact h4 q (by omega) hq

theorem keyPart_lt : ∀ (a b : Key) (n : Nat), a ≠ b → a.length ≤ n → b.length ≤ n → keyPart a b < 9 * n
  | [], [], _, h, _, _ => (h rfl).elim
  | [], d :: y, n, _, _, h => by simp only [keyPart, List.length_cons] at *; omega
  | c :: x, [], n, _, h, _ => by simp only [keyPart, List.length_cons] at *; omega
  | c :: x, d :: y, n, h, h1, h2 => by
    simp only [List.length_cons] at h1 h2
    by_cases e : c = d
    · subst e
      have hxy : x ≠ y := fun e => h (by rw [e])
      have := keyPart_lt x y (n - 1) hxy (by omega) (by omega)
      simp only [keyPart, if_true]; omega
    · obtain ⟨g1, g2, _⟩ := byte_part c d e
      simp only [keyPart, e, if_false]; omega

theorem keyPart_take : ∀ (i : Nat) (a b : Key), i ≤ a.length → i ≤ b.length → a.take i = b.take i → keyPart a b = 9 * i + keyPart (a.drop i) (b.drop i)
  | 0, a, b, _, _, _ => by simp
  | i + 1, [], _, h, _, _ => by simp at h
  | i + 1, _ :: _, [], _, h, _ => by simp at h
  | i + 1, c :: x, d :: y, h1, h2, h => by
    simp only [List.take_succ_cons, List.cons.injEq, List.length_cons, List.drop_succ_cons] at h h1 h2 ⊢
    obtain ⟨rfl, h⟩ := h
    have := keyPart_take i x y (by omega) (by omega) h
    simp only [keyPart, if_true]; omega

theorem bits_xor_u8_nat (a b : Nat) (ha : a < 256) (hb : b < 256) : bits .xor .u8 (a : Int) (b : Int) = ((a ^^^ b : Nat) : Int) := by
  have hx : a ^^^ b < 2 ^ 8 := Nat.xor_lt_two_pow (by omega) (by omega)
  have h1 : (BitVec.ofInt 8 (a : Int)).toNat = a := by
    rw [BitVec.ofInt_natCast, BitVec.toNat_ofNat]; exact Nat.mod_eq_of_lt (by omega)
  have h2 : (BitVec.ofInt 8 (b : Int)).toNat = b := by
    rw [BitVec.ofInt_natCast, BitVec.toNat_ofNat]; exact Nat.mod_eq_of_lt (by omega)
  show IntKind.u8.wrap ((BitVec.ofInt 8 (a : Int) ^^^ BitVec.ofInt 8 (b : Int)).toNat : Int) = _
  rw [BitVec.toNat_xor, h1, h2, IntKind.wrap_u8]
  omega
end Go.Proofs.YtmhllihedejehaaGreat

namespace Go.Proofs.YtmhllihedejehaaGreat
open Go.RowKit
set_option linter.unusedVariables false

def okW (wd : Int) : Prop := -9223372036854775808 ≤ wd ∧ wd ≤ 9223372036854775807
theorem str_max (k : Key) (h : k.length ≤ 4096) : (str k).size ≤ maxLen := by rw [str_size]; unfold maxLen; omega

set_option maxHeartbeats 1600000 in
theorem leafOf_any (wd : Int) (k v : Key) (w : World) (hw : okW wd) (hk : k.length ≤ 4096) (hv : v.length ≤ 4096) :
    Calls Tryz.prog 47 #[.int .i64 wd, .string (str k), .string (str v)] w fun e w' => ∃ b, e = .returned (.pointer (some ⟨b, 0, none⟩)) ∧ NodeAt wd w' b (.leaf k v) ∧ Below w.heap.size w w' := by
  have kB := Blk.new w #[.int .u64 0, .string (str k), .string (str v), .int .i64 0, .pointer none, .pointer none] 103
  have bA : Below w.heap.size w (w.alloc (.cells #[.int .u64 0, .string (str k), .string (str v), .int .i64 0, .pointer none, .pointer none] 103)) := (Below.refl _ _).alloc (Nat.le_refl _) _
  have k1 := told_leaf _ _ _ _ _ kB
  go_enter Tryz.func47, Tryz.ntmps47
  go_wp2_with fail
  refine k1.mono ?_
  rintro e w1 ⟨rfl, b1⟩
  have kB1 := kB.below b1 kB.lt
  have B1 := bA.trans (b1.mono bA.size)
  go_wp2_with fail
  refine (over_any wd 1 (str k) (str v) 0 0 0 _ hw (str_max k hk) (str_max v hv) (by omega) (by omega)).mono ?_
  rintro e w2 ⟨rfl, b2⟩
  have kB2 := kB1.below b2 kB1.lt
  have B2 := B1.trans (b2.mono B1.size)
  have c0 := kB2.cell 0
  have f0 := kB2.frozen 0
  have hz := kB2.lt
  simp only [List.getElem?_toArray, List.getElem?_cons_zero] at c0
  go_wp2
  go_ret
  refine ⟨w.heap.size, rfl, ?_, B2.setCell (p := ⟨w.heap.size, 0, none⟩) (Nat.le_refl _) _⟩
  exact kB2.set 0 (.int .u64 (overP wd 1 (str k) (str v) 0 0 0))

/-- A node whose tree lay in an elder world, and a store into a block that is younger. -/
theorem NodeAt.setNew {wd : Int} {w w2 : World} {b : Nat} {t : Tr} (h : NodeAt wd w b t) (hb : Below w.heap.size w w2) (c : Nat) (hc : w.heap.size ≤ c) (i : Nat) (v : Value) : NodeAt wd (w2.setCell ⟨c, i, none⟩ v) b t :=
  NodeAt.below (hb.setCell (p := ⟨c, i, none⟩) hc v) h

set_option maxHeartbeats 3200000 in
theorem forkOf_any (wd : Int) (p at_ x y : Nat) (X Y : Tr) (w : World) (hw : okW wd) (hp : p ≤ 100000000) (ha : at_ = 0 ∨ at_ = 1) (hx : NodeAt wd w x X) (hy : NodeAt wd w y Y) :
    Calls Tryz.prog 73 #[.int .i64 wd, .int .i64 p, .int .i64 at_, .pointer (some ⟨x, 0, none⟩), .pointer (some ⟨y, 0, none⟩)] w fun e w' => ∃ b, e = .returned (.pointer (some ⟨b, 0, none⟩)) ∧ NodeAt wd w' b (mkFork p at_ X Y) ∧ Below w.heap.size w w' := by
  have bA : Below w.heap.size w (w.alloc (.cells #[.int .u64 0, .string ⟨#[]⟩, .string ⟨#[]⟩, .int .i64 p, .pointer none, .pointer none] 103)) := (Below.refl _ _).alloc (Nat.le_refl _) _
  have xl := hx.lt
  have yl := hy.lt
  have kN := Blk.new w #[.int .u64 0, .string ⟨#[]⟩, .string ⟨#[]⟩, .int .i64 p, .pointer none, .pointer none] 103
  rcases ha with rfl | rfl
  · have kB : Blk (w.alloc (.cells #[.int .u64 0, .string ⟨#[]⟩, .string ⟨#[]⟩, .int .i64 p, .pointer (some ⟨x, 0, none⟩), .pointer (some ⟨y, 0, none⟩)] 103)).drew w.heap.size _ 103 := (Blk.new w #[.int .u64 0, .string ⟨#[]⟩, .string ⟨#[]⟩, .int .i64 p, .pointer (some ⟨x, 0, none⟩), .pointer (some ⟨y, 0, none⟩)] 103).drew
    have bA : Below w.heap.size w (w.alloc (.cells #[.int .u64 0, .string ⟨#[]⟩, .string ⟨#[]⟩, .int .i64 p, .pointer (some ⟨x, 0, none⟩), .pointer (some ⟨y, 0, none⟩)] 103)).drew := ((Below.refl _ _).alloc (Nat.le_refl _) _).drew
    have nl := NodeAt.below bA hx
    have nr := NodeAt.below bA hy
    have k1 := told_fork w.heap.size x y 0 p (X.dig wd) (Y.dig wd) _ _ _ kB nl.lt nr.lt nl.dig nr.dig
    go_enter Tryz.func73, Tryz.ntmps73
    go_wp2
    go_region
    go_wp2_with fail
    generalize (w.alloc (.cells #[.int .u64 0, .string ⟨#[]⟩, .string ⟨#[]⟩, .int .i64 p, .pointer (some ⟨x, 0, none⟩), .pointer (some ⟨y, 0, none⟩)] 103)).drew = wA at *
    refine k1.mono ?_
    rintro e w1 ⟨rfl, b1⟩
    have kB1 := kB.below b1 kB.lt
    have nl1 := NodeAt.below b1 nl
    have nr1 := NodeAt.below b1 nr
    have B1 := bA.trans (b1.mono bA.size)
    go_wp2_with fail
    refine (over_any wd 2 ⟨#[]⟩ ⟨#[]⟩ p (X.dig wd) (Y.dig wd) _ hw (str_max [] (by simp)) (str_max [] (by simp)) (X.dig_bd wd) (Y.dig_bd wd)).mono ?_
    rintro e w2 ⟨rfl, b2⟩
    have kB2 := kB1.below b2 kB1.lt
    have nl2 := NodeAt.below b2 nl1
    have nr2 := NodeAt.below b2 nr1
    have B2 := B1.trans (b2.mono B1.size)
    have c0 := kB2.cell 0
    have f0 := kB2.frozen 0
    have hz := kB2.lt
    simp only [List.getElem?_toArray, List.getElem?_cons_zero] at c0
    have hne1 : w.heap.size ≠ x := by omega
    have hne2 : w.heap.size ≠ y := by omega
    go_wp2
    go_ret
    exact ⟨w.heap.size, rfl, ⟨x, y, kB2.set 0 (.int .u64 (overP wd 2 ⟨#[]⟩ ⟨#[]⟩ p (X.dig wd) (Y.dig wd))), hx.setNew B2 _ (Nat.le_refl _) _ _, hy.setNew B2 _ (Nat.le_refl _) _ _⟩, B2.setCell (p := ⟨w.heap.size, 0, none⟩) (Nat.le_refl _) _⟩
  · have kB : Blk (w.alloc (.cells #[.int .u64 0, .string ⟨#[]⟩, .string ⟨#[]⟩, .int .i64 p, .pointer (some ⟨y, 0, none⟩), .pointer (some ⟨x, 0, none⟩)] 103)).drew w.heap.size _ 103 := (Blk.new w #[.int .u64 0, .string ⟨#[]⟩, .string ⟨#[]⟩, .int .i64 p, .pointer (some ⟨y, 0, none⟩), .pointer (some ⟨x, 0, none⟩)] 103).drew
    have bA : Below w.heap.size w (w.alloc (.cells #[.int .u64 0, .string ⟨#[]⟩, .string ⟨#[]⟩, .int .i64 p, .pointer (some ⟨y, 0, none⟩), .pointer (some ⟨x, 0, none⟩)] 103)).drew := ((Below.refl _ _).alloc (Nat.le_refl _) _).drew
    have nl := NodeAt.below bA hy
    have nr := NodeAt.below bA hx
    have k1 := told_fork w.heap.size y x 0 p (Y.dig wd) (X.dig wd) _ _ _ kB nl.lt nr.lt nl.dig nr.dig
    go_enter Tryz.func73, Tryz.ntmps73
    go_wp2
    go_region
    go_wp2_with fail
    generalize (w.alloc (.cells #[.int .u64 0, .string ⟨#[]⟩, .string ⟨#[]⟩, .int .i64 p, .pointer (some ⟨y, 0, none⟩), .pointer (some ⟨x, 0, none⟩)] 103)).drew = wA at *
    refine k1.mono ?_
    rintro e w1 ⟨rfl, b1⟩
    have kB1 := kB.below b1 kB.lt
    have nl1 := NodeAt.below b1 nl
    have nr1 := NodeAt.below b1 nr
    have B1 := bA.trans (b1.mono bA.size)
    go_wp2_with fail
    refine (over_any wd 2 ⟨#[]⟩ ⟨#[]⟩ p (Y.dig wd) (X.dig wd) _ hw (str_max [] (by simp)) (str_max [] (by simp)) (Y.dig_bd wd) (X.dig_bd wd)).mono ?_
    rintro e w2 ⟨rfl, b2⟩
    have kB2 := kB1.below b2 kB1.lt
    have nl2 := NodeAt.below b2 nl1
    have nr2 := NodeAt.below b2 nr1
    have B2 := B1.trans (b2.mono B1.size)
    have c0 := kB2.cell 0
    have f0 := kB2.frozen 0
    have hz := kB2.lt
    simp only [List.getElem?_toArray, List.getElem?_cons_zero] at c0
    have hne1 : w.heap.size ≠ y := by omega
    have hne2 : w.heap.size ≠ x := by omega
    go_wp2
    go_ret
    exact ⟨w.heap.size, rfl, ⟨y, x, kB2.set 0 (.int .u64 (overP wd 2 ⟨#[]⟩ ⟨#[]⟩ p (Y.dig wd) (X.dig wd))), hy.setNew B2 _ (Nat.le_refl _) _ _, hx.setNew B2 _ (Nat.le_refl _) _ _⟩, B2.setCell (p := ⟨w.heap.size, 0, none⟩) (Nat.le_refl _) _⟩
end Go.Proofs.YtmhllihedejehaaGreat
