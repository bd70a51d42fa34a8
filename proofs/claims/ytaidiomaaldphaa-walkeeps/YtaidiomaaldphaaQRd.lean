/- A pass that reads: bytes that are cut off, numbers. -/
import Derived.Test.YtaidiomaaldphaaQBut
import Derived.Laws.Bits64b
import Derived.Deep.CutRange
import Derived.Deep.DeepCutAuto
import Derived.Deep.CutBlock
namespace Go.Proofs.Ytaidiomaaldphaa
open Go.RowKit
set_option linter.unusedVariables false
set_option linter.unusedSimpArgs false

/-- A pass that reads, and what is still to be read. -/
def RdAt (w : World) (b : Nat) (rest : List UInt8) : Prop := Blk w b #[.bool true, .slice none 0 0, .string ⟨rest.toArray⟩] 80
theorem ext_take (l : List UInt8) (n : Nat) : (⟨l.toArray⟩ : ByteArray).extract 0 n = ⟨(l.take n).toArray⟩ := by
  apply ByteArray.ext
  rw [ByteArray.data_extract]
  apply Array.ext'
  simp [List.extract_eq_take_drop]
theorem ext_drop (l : List UInt8) (n : Nat) : (⟨l.toArray⟩ : ByteArray).extract n l.length = ⟨(l.drop n).toArray⟩ := by
  apply ByteArray.ext
  rw [ByteArray.data_extract]
  apply Array.ext'
  simp only [Array.toList_extract, List.toList_toArray, List.extract_eq_take_drop]
  rw [List.take_of_length_le (by simp)]
theorem str_size' (l : List UInt8) : (⟨l.toArray⟩ : ByteArray).size = l.length := by simp [ByteArray.size]

set_option maxHeartbeats 800000 in
theorem cut_any (b : Nat) (rest : List UInt8) (n : Nat) (w : World) (k : RdAt w b rest) (hn : n ≤ rest.length) (hL : rest.length ≤ 1099511627776) :
    Calls Try.prog 63 #[.pointer (some ⟨b, 0, none⟩), .int .i64 n] w fun e w' => e = .returned (.string ⟨(rest.take n).toArray⟩) ∧ RdAt w' b (rest.drop n) ∧ But (fun k => k = b) w w' := by
  have k' : Blk w b #[.bool true, .slice none 0 0, .string ⟨rest.toArray⟩] 80 := k
  have c2 := (k'.cell 2).trans rfl
  have f2 := k'.frozen 2
  have zb := k'.lt
  have sz := str_size' rest
  have hn' : (n : Int) ≤ (rest.length : Int) := by omega
  have hng : ¬ (rest.length : Int) < (n : Int) := by omega
  have h1 := ext_take rest n
  have h2 := ext_drop rest n
  have k2 := k'.set 2 (.string ⟨(rest.drop n).toArray⟩)
  have B := But.set (S := fun k => k = b) w (p := ⟨b, 2, none⟩) rfl (.string ⟨(rest.drop n).toArray⟩)
  generalize rest.length = L at *
  generalize rest.take n = A at *
  generalize rest.drop n = D at *
  go_enter Try.func63, Try.ntmps63
  go_wp2
  go_ret
  exact ⟨rfl, k2, B⟩
theorem wrap_u (n : Int) (h0 : 0 ≤ n) (h1 : n ≤ 18446744073709551615) : IntKind.u64.wrap n = n := by
  rw [IntKind.wrap_u64]; omega

theorem or_step (n b : Nat) (hn : n < 72057594037927936) (hb : b < 256) : bits BinOp.or IntKind.u64 (IntKind.u64.wrap ((n : Int) * 256)) (IntKind.u64.wrap (b : Int)) = ((n * 256 + b : Nat) : Int) := by
  rw [wrap_u _ (by omega) (by omega), wrap_u _ (by omega) (by omega)]
  have h := bits_or_u64_nat (n * 256) b (by omega) (by omega)
  rw [show ((n : Int) * 256) = ((n * 256 : Nat) : Int) by omega, h]
  have e := Nat.shiftLeft_add_eq_or_of_lt (b := b) (i := 8) (by omega) n
  rw [Nat.shiftLeft_eq] at e
  rw [← e]
theorem val_take (l : List UInt8) {i : Nat} (h : i < l.length) : val (l.take (i + 1)) = val (l.take i) * 256 + l[i].toNat := by
  rw [List.take_succ_eq_append_getElem h, val_snoc]
theorem val_take_lt (l : List UInt8) (i : Nat) (h : i ≤ 7) : val (l.take i) < 72057594037927936 := by
  have h1 := val_lt (l.take i)
  have h2 : (l.take i).length ≤ 7 := by rw [List.length_take]; omega
  have h3 : 256 ^ (l.take i).length ≤ 256 ^ 7 := Nat.pow_le_pow_right (by omega) h2
  omega

set_option maxHeartbeats 800000 in
theorem valueOf_any (l : List UInt8) (w : World) (hl : l.length ≤ 8) :
    Calls Try.prog 62 #[.string ⟨l.toArray⟩] w fun e w' => e = .returned (.int .u64 (val l)) ∧ w = w' := by
  have sz := str_size' l
  go_enter Try.func62, Try.ntmps62
  go_wp2
  go_loopw [3, 4, 7] (fun nv _ iv wv => ∃ (i n : Nat), i ≤ l.length ∧ iv = .int .i64 i ∧ nv = .int .u64 n ∧ Hid (n = val (l.take i)) ∧ w = wv) (fun _ _ iv _ => l.length - (intOf iv).toNat)
  case atStart => exact ⟨0, 0, Nat.zero_le _, rfl, rfl, rfl, rfl⟩
  case round =>
    obtain ⟨i, n, hi, rfl, rfl, HN, rfl⟩ := hrel
    by_cases hlt : i < l.length
    · have hlt' : (i : Int) < (l.length : Int) := by omega
      go_wp2
      refine ⟨⟨i + 1, n * 256 + l[i].toNat, by omega, by go_num, ?_, ?_, trivial⟩, by simp [intOf]; omega⟩
      · have hb : l[i].toNat < 256 := l[i].toNat_lt
        have hn : n < 72057594037927936 := by rw [HN.out]; exact val_take_lt l i (by omega)
        exact congrArg (Value.int .u64) (or_step n _ hn hb)
      · show _ = _
        rw [val_take l hlt, ← HN.out]
    · have hge : ¬ (i : Int) < (l.length : Int) := by omega
      go_wp2
      go_ret
      have : l.take i = l := List.take_of_length_le (by omega)
      have h := HN.out
      rw [this] at h
      exact ⟨by rw [← h]; rfl, rfl⟩
theorem but_set (w : World) (b i : Nat) (v : Value) : But (fun k => k = b) w (w.setCell ⟨b, i, none⟩ v) := But.set (S := fun k => k = b) w (p := ⟨b, i, none⟩) rfl v
theorem numB_head (n : Int) (h0 : 0 < n) (h1 : n ≤ 1099511627775) : ∃ c r, be n (szN n) = c :: r ∧ c ≠ 0 := by
  have key : ∀ k, szN n = k + 1 → 256 ^ k ≤ n → n < 256 ^ (k + 1) → ∃ c r, be n (szN n) = c :: r ∧ c ≠ 0 := by
    intro k e hl hu
    rw [e]
    refine ⟨_, _, rfl, fun hc => ?_⟩
    have h2 := byteAt_nat (n / 256 ^ k)
    rw [hc] at h2
    have hp : (0 : Int) < 256 ^ k := Int.pow_pos (by omega)
    have h3 : 1 ≤ n / 256 ^ k := by
      rw [Int.le_ediv_iff_mul_le hp]; omega
    have h4 : n / 256 ^ k < 256 := by
      rw [Int.pow_succ] at hu
      exact Int.ediv_lt_of_lt_mul hp (by rw [Int.mul_comm]; exact hu)
    simp at h2
    omega
  by_cases c1 : n < 256
  · exact key 0 (by unfold szN; rw [if_neg (by omega), if_pos c1]) (by omega) (by omega)
  by_cases c2 : n < 65536
  · exact key 1 (by unfold szN; rw [if_neg (by omega), if_neg c1, if_pos c2]) (by omega) (by omega)
  by_cases c3 : n < 16777216
  · exact key 2 (by unfold szN; rw [if_neg (by omega), if_neg c1, if_neg c2, if_pos c3]) (by omega) (by omega)
  by_cases c4 : n < 4294967296
  · exact key 3 (by unfold szN; rw [if_neg (by omega), if_neg c1, if_neg c2, if_neg c3, if_pos c4]) (by omega) (by omega)
  · exact key 4 (by unfold szN; rw [if_neg (by omega), if_neg c1, if_neg c2, if_neg c3, if_neg c4]) (by omega) (by omega)
theorem szN_pow (n : Int) (h0 : 0 ≤ n) (h1 : n ≤ 1099511627775) : n < 256 ^ szN n := by
  unfold szN
  split
  · simp; omega
  split
  · simp; omega
  split
  · simp; omega
  split
  · simp; omega
  split
  · simp; omega
  · simp; omega

set_option maxHeartbeats 800000 in
theorem readNumber_any (b : Nat) (n : Int) (r : List UInt8) (w : World) (h0 : 0 ≤ n) (h1 : n ≤ 1099511627775) (k : RdAt w b (numB n ++ r)) (hL : r.length ≤ 1099511627000) :
    Calls Try.prog 58 #[.pointer (some ⟨b, 0, none⟩)] w fun e w' => e = .returned (.int .i64 n) ∧ RdAt w' b r ∧ But (fun k => k = b) w w' := by
  have hs5 := szN_le n
  have hbl := be_len n (szN n)
  have hlen : (numB n ++ r).length = 1 + szN n + r.length := by simp [numB, be_len]; omega
  have t1 : (numB n ++ r).take 1 = [UInt8.ofNat (szN n)] := by simp [numB]
  have d1 : (numB n ++ r).drop 1 = be n (szN n) ++ r := by simp [numB]
  have t2 : (be n (szN n) ++ r).take (szN n) = be n (szN n) := by rw [List.take_append_of_le_length (by omega), List.take_of_length_le (by omega)]
  have d2 : (be n (szN n) ++ r).drop (szN n) = r := by rw [List.drop_append_of_le_length (by omega), List.drop_of_length_le (by omega)]; rfl
  have hv := val_be (szN n) n h0 (szN_pow n h0 h1)
  have hsz : (UInt8.ofNat (szN n)).toNat = szN n := by rw [UInt8.toNat_ofNat']; omega
  have K1 := cut_any b (numB n ++ r) 1 w k (by omega) (by omega)
  rw [t1, d1] at K1
  have K2 := fun w' (k' : RdAt w' b (be n (szN n) ++ r)) => cut_any b (be n (szN n) ++ r) (szN n) w' k' (by simp [be_len]) (by simp [be_len]; omega)
  rw [t2, d2] at K2
  have K3 := fun w' => valueOf_any (be n (szN n)) w' (by omega)
  have hh : 0 < szN n → ∃ c r', be n (szN n) = c :: r' ∧ c ≠ 0 := fun hp => by
    refine numB_head n ?_ h1
    by_cases hn : n < 1
    · unfold szN at hp; rw [if_pos hn] at hp; omega
    · omega
  rw [show ((val (be n (szN n)) : Nat) : Int) = n from hv] at K3
  have hw1 : IntKind.i64.wrap n = n := by
    simp [IntKind.wrap, IntKind.min, IntKind.max, IntKind.signed, IntKind.bits]
    omega
  have hw2 : wrap64 n = n := by unfold wrap64; omega
  clear hv t1 d1 t2 d2 hlen k
  generalize szN n = z at *
  generalize be n z = l at *
  have hix : ∀ h : 0 < (⟨#[UInt8.ofNat z]⟩ : ByteArray).size, ((⟨#[UInt8.ofNat z]⟩ : ByteArray)[0]'h).toNat = z := fun h => hsz
  have hwz : wrap64 (z : Int) = (z : Int) := by unfold wrap64; omega
  by_cases hz : 0 < z
  · obtain ⟨c, r', rfl, hc⟩ := hh hz
    have hz' : (0 : Int) < (z : Int) := by omega
    have hz5 : ¬ (5 : Int) < (z : Int) := by omega
    have hcn : (c.toNat : Int) ≠ 0 := fun e => hc (by
      have : c.toNat = 0 := by omega
      exact UInt8.toNat_inj.1 (by simpa using this))
    have hcb : ((c.toNat : Int) == 0) = false := by simpa using hcn
    clear hh hc hcn
    go_enter Try.func58, Try.ntmps58
    go_wp2_with fail
    refine K1.mono ?_
    rintro e w1 ⟨rfl, k1, B1⟩
    go_wp2_with fail
    refine (K2 w1 k1).mono ?_
    rintro e w2 ⟨rfl, k2, B2⟩
    have B3 := B1.trans B2
    clear K1 K2 k1 B1 B2
    have hci : ∀ h : 0 < (⟨(c :: r').toArray⟩ : ByteArray).size, (⟨(c :: r').toArray⟩ : ByteArray)[0]'h = c := fun h => rfl
    have hsc : (⟨(c :: r').toArray⟩ : ByteArray).size = r'.length + 1 := by simp [ByteArray.size]
    go_wp2_with fail
    refine (K3 w2).mono ?_
    rintro e w3 ⟨rfl, rfl⟩
    go_wp2
    go_ret
    exact ⟨rfl, k2, B3⟩
  · have hz0 : ¬ (0 : Int) < (z : Int) := by omega
    have hz5 : ¬ (5 : Int) < (z : Int) := by omega
    clear hh
    go_enter Try.func58, Try.ntmps58
    go_wp2_with fail
    refine K1.mono ?_
    rintro e w1 ⟨rfl, k1, B1⟩
    go_wp2_with fail
    refine (K2 w1 k1).mono ?_
    rintro e w2 ⟨rfl, k2, B2⟩
    have B3 := B1.trans B2
    clear K1 K2 k1 B1 B2
    go_wp2_with fail
    refine (K3 w2).mono ?_
    rintro e w3 ⟨rfl, rfl⟩
    go_wp2
    go_ret
    exact ⟨rfl, k2, B3⟩
end Go.Proofs.Ytaidiomaaldphaa
