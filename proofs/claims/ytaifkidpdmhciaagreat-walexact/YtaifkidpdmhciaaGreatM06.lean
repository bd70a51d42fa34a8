/- A pass that reads: bytes that are cut off, numbers. -/
import Derived.Test.YtaifkidpdmhciaaGreatM05
import Derived.Laws.Bits64b
import Derived.Deep.CutRange
import Derived.Deep.DeepCutAuto
import Derived.Deep.CutBlock

namespace Go.Proofs.YtaifkidpdmhciaaGreat
open Go.RowKit
set_option linter.unusedVariables false
set_option linter.unusedSimpArgs false

/-- A pass that reads, and what is still to be read. -/
def RdAt (w : World) (b : Nat) (rest : List UInt8) : Prop := Blk w b #[.bool true, .slice none 0 0, .string ⟨rest.toArray⟩] 109
theorem ext_take (l : List UInt8) (n : Nat) : (⟨l.toArray⟩ : ByteArray).extract 0 n = ⟨(l.take n).toArray⟩ := by
  apply ByteArray.ext
  rw [ByteArray.data_extract]
  apply Array.ext'
  simp [List.extract_eq_take_drop]
theorem ext_drop (l : List UInt8) (n : Nat) : (⟨l.toArray⟩ : ByteArray).extract n l.length = ⟨(l.drop n).toArray⟩ := by
  apply ByteArray.ext
  rw [ByteArray.data_extract]
  apply Array.ext'
  simp only [Array.toList_extract, List.toList_toArray, List.extract_eq_take_drop]
  rw [List.take_of_length_le (by simp)]
theorem str_size' (l : List UInt8) : (⟨l.toArray⟩ : ByteArray).size = l.length := by simp [ByteArray.size]

set_option maxHeartbeats 800000 in
theorem cut_any (b : Nat) (rest : List UInt8) (n : Nat) (w : World) (k : RdAt w b rest) (hn : n ≤ rest.length) (hL : rest.length ≤ 1099511627776) :
    Calls Tryz.prog 110 #[.pointer (some ⟨b, 0, none⟩), .int .i64 n] w fun e w' => e = .returned (.string ⟨(rest.take n).toArray⟩) ∧ RdAt w' b (rest.drop n) ∧ But (fun k => k = b) w w' := by
  have k' : Blk w b #[.bool true, .slice none 0 0, .string ⟨rest.toArray⟩] 109 := k
  have c2 := (k'.cell 2).trans rfl
  have f2 := k'.frozen 2
  have zb := k'.lt
  have sz := str_size' rest
  have hn' : (n : Int) ≤ (rest.length : Int) := by omega
  have hng : ¬ (rest.length : Int) < (n : Int) := by omega
  have h1 := ext_take rest n
  have h2 := ext_drop rest n
  have k2 := k'.set 2 (.string ⟨(rest.drop n).toArray⟩)
  have B := But.set (S := fun k => k = b) w (p := ⟨b, 2, none⟩) rfl (.string ⟨(rest.drop n).toArray⟩)
  generalize rest.length = L at *
  generalize rest.take n = A at *
  generalize rest.drop n = D at *
  go_enter Tryz.func110, Tryz.ntmps110
  go_wp2
  go_ret
  exact ⟨rfl, k2, B⟩
theorem wrap_u (n : Int) (h0 : 0 ≤ n) (h1 : n ≤ 18446744073709551615) : IntKind.u64.wrap n = n := by
  rw [IntKind.wrap_u64]; omega

theorem or_step (n b : Nat) (hn : n < 72057594037927936) (hb : b < 256) : bits BinOp.or IntKind.u64 (IntKind.u64.wrap ((n : Int) * 256)) (IntKind.u64.wrap (b : Int)) = ((n * 256 + b : Nat) : Int) := by
  rw [wrap_u _ (by omega) (by omega), wrap_u _ (by omega) (by omega)]
  have h := bits_or_u64_nat (n * 256) b (by omega) (by omega)
  rw [show ((n : Int) * 256) = ((n * 256 : Nat) : Int) by omega, h]
  have e := Nat.shiftLeft_add_eq_or_of_lt (b := b) (i := 8) (by omega) n
  rw [Nat.shiftLeft_eq] at e
  rw [← e]
theorem val_take (l : List UInt8) {i : Nat} (h : i < l.length) : val (l.take (i + 1)) = val (l.take i) * 256 + l[i].toNat := by
  rw [List.take_succ_eq_append_getElem h, val_snoc]
theorem val_take_lt (l : List UInt8) (i : Nat) (h : i ≤ 7) : val (l.take i) < 72057594037927936 := by
  have h1 := val_lt (l.take i)
  have h2 : (l.take i).length ≤ 7 := by rw [List.length_take]; omega
  have h3 : 256 ^ (l.take i).length ≤ 256 ^ 7 := Nat.pow_le_pow_right (by omega) h2
  omega

set_option maxHeartbeats 800000 in
theorem valueOf_any (l : List UInt8) (w : World) (hl : l.length ≤ 8) :
    Calls Tryz.prog 109 #[.string ⟨l.toArray⟩] w fun e w' => e = .returned (.int .u64 (val l)) ∧ w = w' := by
  have sz := str_size' l
  go_enter Tryz.func109, Tryz.ntmps109
  go_wp2
  go_loopw [3, 4, 7] (fun nv _ iv wv => ∃ (i n : Nat), i ≤ l.length ∧ iv = .int .i64 i ∧ nv = .int .u64 n ∧ Hid (n = val (l.take i)) ∧ w = wv) (fun _ _ iv _ => l.length - (intOf iv).toNat)
  case atStart => exact ⟨0, 0, Nat.zero_le _, rfl, rfl, rfl, rfl⟩
  case round =>
    obtain ⟨i, n, hi, rfl, rfl, HN, rfl⟩ := hrel
    by_cases hlt : i < l.length
    · have hlt' : (i : Int) < (l.length : Int) := by omega
      go_wp2
      refine ⟨⟨i + 1, n * 256 + l[i].toNat, by omega, by go_num, ?_, ?_, trivial⟩, by simp [intOf]; omega⟩
      · have hb : l[i].toNat < 256 := l[i].toNat_lt
        have hn : n < 72057594037927936 := by rw [HN.out]; exact val_take_lt l i (by omega)
        exact congrArg (Value.int .u64) (or_step n _ hn hb)
      · show _ = _
        rw [val_take l hlt, ← HN.out]
    · have hge : ¬ (i : Int) < (l.length : Int) := by omega
      go_wp2
      go_ret
      have : l.take i = l := List.take_of_length_le (by omega)
      have h := HN.out
      rw [this] at h
      exact ⟨by rw [← h]; rfl, rfl⟩
theorem but_set (w : World) (b i : Nat) (v : Value) : But (fun k => k = b) w (w.setCell ⟨b, i, none⟩ v) := But.set (S := fun k => k = b) w (p := ⟨b, i, none⟩) rfl v
theorem numB_head (n : Int) (h0 : 0 < n) (h1 : n ≤ 1099511627775) : ∃ c r, be n (szN n) = c :: r ∧ c ≠ 0 := by
  have key : ∀ k, szN n = k + 1 → 256 ^ k ≤ n → n < 256 ^ (k + 1) → ∃ c r, be n (szN n) = c :: r ∧ c ≠ 0 := by
    intro k e hl hu
    rw [e]
    refine ⟨_, _, rfl, fun hc => ?_⟩
    have h2 := byteAt_nat (n / 256 ^ k)
    rw [hc] at h2
    have hp : (0 : Int) < 256 ^ k := Int.pow_pos (by omega)
    have h3 : 1 ≤ n / 256 ^ k := by
      rw [Int.le_ediv_iff_mul_le hp]; omega
    have h4 : n / 256 ^ k < 256 := by
      rw [Int.pow_succ] at hu
      exact Int.ediv_lt_of_lt_mul hp (by rw [Int.mul_comm]; exact hu)
    simp at h2
    omega
  by_cases c1 : n < 256
  · exact key 0 (by unfold szN; rw [if_neg (by omega), if_pos c1]) (by omega) (by omega)
  by_cases c2 : n < 65536
  · exact key 1 (by unfold szN; rw [if_neg (by omega), if_neg c1, if_pos c2]) (by omega) (by omega)
  by_cases c3 : n < 16777216
  · exact key 2 (by unfold szN; rw [if_neg (by omega), if_neg c1, if_neg c2, if_pos c3]) (by omega) (by omega)
  by_cases c4 : n < 4294967296
  · exact key 3 (by unfold szN; rw [if_neg (by omega), if_neg c1, if_neg c2, if_neg c3, if_pos c4]) (by omega) (by omega)
  · exact key 4 (by unfold szN; rw [if_neg (by omega), if_neg c1, if_neg c2, if_neg c3, if_neg c4]) (by omega) (by omega)
theorem szN_pow (n : Int) (h0 : 0 ≤ n) (h1 : n ≤ 1099511627775) : n < 256 ^ szN n := by
  unfold szN
  split
  · simp; omega
  split
  · simp; omega
  split
  · simp; omega
  split
  · simp; omega
  split
  · simp; omega
  · simp; omega

set_option maxHeartbeats 800000 in
theorem readNumber_any (b : Nat) (n : Int) (r : List UInt8) (w : World) (h0 : 0 ≤ n) (h1 : n ≤ 1099511627775) (k : RdAt w b (numB n ++ r)) (hL : r.length ≤ 1099511627000) :
    Calls Tryz.prog 105 #[.pointer (some ⟨b, 0, none⟩)] w fun e w' => e = .returned (.int .i64 n) ∧ RdAt w' b r ∧ But (fun k => k = b) w w' := by
  have hs5 := szN_le n
  have hbl := be_len n (szN n)
  have hlen : (numB n ++ r).length = 1 + szN n + r.length := by simp [numB, be_len]; omega
  have t1 : (numB n ++ r).take 1 = [UInt8.ofNat (szN n)] := by simp [numB]
  have d1 : (numB n ++ r).drop 1 = be n (szN n) ++ r := by simp [numB]
  have t2 : (be n (szN n) ++ r).take (szN n) = be n (szN n) := by rw [List.take_append_of_le_length (by omega), List.take_of_length_le (by omega)]
  have d2 : (be n (szN n) ++ r).drop (szN n) = r := by rw [List.drop_append_of_le_length (by omega), List.drop_of_length_le (by omega)]; rfl
  have hv := val_be (szN n) n h0 (szN_pow n h0 h1)
  have hsz : (UInt8.ofNat (szN n)).toNat = szN n := by rw [UInt8.toNat_ofNat']; omega
  have K1 := cut_any b (numB n ++ r) 1 w k (by omega) (by omega)
  rw [t1, d1] at K1
  have K2 := fun w' (k' : RdAt w' b (be n (szN n) ++ r)) => cut_any b (be n (szN n) ++ r) (szN n) w' k' (by simp [be_len]) (by simp [be_len]; omega)
  rw [t2, d2] at K2
  have K3 := fun w' => valueOf_any (be n (szN n)) w' (by omega)
  have hh : 0 < szN n → ∃ c r', be n (szN n) = c :: r' ∧ c ≠ 0 := fun hp => by
    refine numB_head n ?_ h1
    by_cases hn : n < 1
    · unfold szN at hp; rw [if_pos hn] at hp; omega
    · omega
  rw [show ((val (be n (szN n)) : Nat) : Int) = n from hv] at K3
  have hw1 : IntKind.i64.wrap n = n := by
    simp [IntKind.wrap, IntKind.min, IntKind.max, IntKind.signed, IntKind.bits]
    omega
  have hw2 : wrap64 n = n := by unfold wrap64; omega
  clear hv t1 d1 t2 d2 hlen k
  generalize szN n = z at *
  generalize be n z = l at *
  have hix : ∀ h : 0 < (⟨#[UInt8.ofNat z]⟩ : ByteArray).size, ((⟨#[UInt8.ofNat z]⟩ : ByteArray)[0]'h).toNat = z := fun h => hsz
  have hwz : wrap64 (z : Int) = (z : Int) := by unfold wrap64; omega
  by_cases hz : 0 < z
  · obtain ⟨c, r', rfl, hc⟩ := hh hz
    have hz' : (0 : Int) < (z : Int) := by omega
    have hz5 : ¬ (5 : Int) < (z : Int) := by omega
    have hcn : (c.toNat : Int) ≠ 0 := fun e => hc (by
      have : c.toNat = 0 := by omega
      exact UInt8.toNat_inj.1 (by simpa using this))
    have hcb : ((c.toNat : Int) == 0) = false := by simpa using hcn
    clear hh hc hcn
    go_enter Tryz.func105, Tryz.ntmps105
    go_wp2_with fail
    refine K1.mono ?_
    rintro e w1 ⟨rfl, k1, B1⟩
    go_wp2_with fail
    refine (K2 w1 k1).mono ?_
    rintro e w2 ⟨rfl, k2, B2⟩
    have B3 := B1.trans B2
    clear K1 K2 k1 B1 B2
    have hci : ∀ h : 0 < (⟨(c :: r').toArray⟩ : ByteArray).size, (⟨(c :: r').toArray⟩ : ByteArray)[0]'h = c := fun h => rfl
    have hsc : (⟨(c :: r').toArray⟩ : ByteArray).size = r'.length + 1 := by simp [ByteArray.size]
    go_wp2_with fail
    refine (K3 w2).mono ?_
    rintro e w3 ⟨rfl, rfl⟩
    go_wp2
    go_ret
    exact ⟨rfl, k2, B3⟩
  · have hz0 : ¬ (0 : Int) < (z : Int) := by omega
    have hz5 : ¬ (5 : Int) < (z : Int) := by omega
    clear hh
    go_enter Tryz.func105, Tryz.ntmps105
    go_wp2_with fail
    refine K1.mono ?_
    rintro e w1 ⟨rfl, k1, B1⟩
    go_wp2_with fail
    refine (K2 w1 k1).mono ?_
    rintro e w2 ⟨rfl, k2, B2⟩
    have B3 := B1.trans B2
    clear K1 K2 k1 B1 B2
    go_wp2_with fail
    refine (K3 w2).mono ?_
    rintro e w3 ⟨rfl, rfl⟩
    go_wp2
    go_ret
    exact ⟨rfl, k2, B3⟩
end Go.Proofs.YtaifkidpdmhciaaGreat

namespace Go.Proofs.YtaifkidpdmhciaaGreat
open Go.RowKit
set_option linter.unusedVariables false
set_option linter.unusedSimpArgs false

/-- Something was read into cell j of the block xb; rest is left. -/
structure Rd (b xb : Nat) (cs : Array Value) (t : TypeId) (r : List UInt8) (w w' : World) : Prop where
  rd : RdAt w' b r
  x : Blk w' xb cs t
  but : But (fun k => k = b ∨ k = xb) w w'
theorem set_get (cs : Array Value) (j : Nat) (v : Value) (h : j < cs.size) : (cs.setIfInBounds j v)[j]? = some v := by simp [h]

set_option maxHeartbeats 800000 in
theorem bounded_r (b xb j : Nat) (cs : Array Value) (t : TypeId) (n most : Int) (r : List UInt8) (w : World) (h0 : 0 ≤ n) (h1 : n ≤ most) (hm : most ≤ 1099511627775) (k : RdAt w b (numB n ++ r)) (hL : r.length ≤ 1099511627000) (kx : Blk w xb cs t) (hj : j < cs.size) (hne : xb ≠ b) :
    Calls Tryz.prog 84 #[.pointer (some ⟨b, 0, none⟩), .pointer (some ⟨xb, j, none⟩), .int .i64 most] w fun e w' => e = .returned (.tuple #[]) ∧ Rd b xb (cs.setIfInBounds j (.int .i64 n)) t r w w' := by
  have k' : Blk w b #[.bool true, .slice none 0 0, .string ⟨(numB n ++ r).toArray⟩] 109 := k
  have c0 := (k'.cell 0).trans rfl
  have zb := k'.lt
  have KN := readNumber_any b n r w h0 (by omega) k hL
  go_enter Tryz.func84, Tryz.ntmps84
  go_wp2_with fail
  refine KN.mono ?_
  rintro e w1 ⟨rfl, k1, B1⟩
  have kx1 := B1.blk kx hne
  have xc : w1.cell? ⟨xb, j, none⟩ = some cs[j] := by rw [kx1.cell]; simp [hj]
  have xf := kx1.frozen j
  have zx := kx1.lt
  have kx2 := kx1.set j (.int .i64 n)
  have k2 : Blk (w1.setCell ⟨xb, j, none⟩ (.int .i64 n)) b #[.bool true, .slice none 0 0, .string ⟨r.toArray⟩] 109 := Blk.setOther (show Blk w1 b #[.bool true, .slice none 0 0, .string ⟨r.toArray⟩] 109 from k1) ⟨xb, j, none⟩ (fun e => hne e.symm) (.int .i64 n)
  have B2 : But (fun k => k = b ∨ k = xb) w (w1.setCell ⟨xb, j, none⟩ (.int .i64 n)) := (B1.mono (fun _ h => .inl h)).trans (But.set w1 (p := ⟨xb, j, none⟩) (.inr rfl) _)
  have y0 := (k2.cell 0).trans rfl
  have y1 : (w1.setCell ⟨xb, j, none⟩ (.int .i64 n)).cell? ⟨xb, j, none⟩ = some (.int .i64 n) := by rw [kx2.cell]; exact set_get _ _ _ hj
  have z2 := k2.lt
  have z3 := kx2.lt
  clear c0 zb KN k k' kx B1 k1
  go_upto_region 2 with fail
  generalize w1.setCell ⟨xb, j, none⟩ (.int .i64 n) = w2 at *
  clear xc xf zx kx1
  have hn0 : ¬ n < 0 := by omega
  have hnm : ¬ most < n := by omega
  go_wp2
  go_end0
  exact ⟨rfl, k2, kx2, B2⟩

set_option maxHeartbeats 800000 in
theorem number_r (b xb j : Nat) (cs : Array Value) (t : TypeId) (n : Int) (r : List UInt8) (w : World) (h0 : 0 ≤ n) (h1 : n ≤ 1099511627775) (k : RdAt w b (numB n ++ r)) (hL : r.length ≤ 1099511627000) (kx : Blk w xb cs t) (hj : j < cs.size) (hne : xb ≠ b) :
    Calls Tryz.prog 57 #[.pointer (some ⟨b, 0, none⟩), .pointer (some ⟨xb, j, none⟩)] w fun e w' => e = .returned (.tuple #[]) ∧ Rd b xb (cs.setIfInBounds j (.int .i64 n)) t r w w' := by
  go_enter Tryz.func57, Tryz.ntmps57
  go_wp2_with fail
  refine (bounded_r b xb j cs t n 1099511627775 r _ h0 h1 (by omega) k hL kx hj hne).mono ?_
  rintro e w1 ⟨rfl, R⟩
  go_wp2
  go_end0
  exact ⟨rfl, R⟩
theorem Rd.trans {b xb : Nat} {cs cs2 : Array Value} {t : TypeId} {r r2 : List UInt8} {w w1 w2 : World} (h : Rd b xb cs t r w w1) (k : Rd b xb cs2 t r2 w1 w2) : Rd b xb cs2 t r2 w w2 := ⟨k.rd, k.x, h.but.trans k.but⟩

set_option maxHeartbeats 800000 in
theorem readFlag_any (b : Nat) (x : Bool) (r : List UInt8) (w : World) (k : RdAt w b (flagB x ++ r)) (hL : r.length ≤ 1099511627000) :
    Calls Tryz.prog 108 #[.pointer (some ⟨b, 0, none⟩)] w fun e w' => e = .returned (.bool x) ∧ RdAt w' b r ∧ But (fun k => k = b) w w' := by
  have K1 := cut_any b (flagB x ++ r) 1 w k (by simp [flagB]) (by simp [flagB]; omega)
  have t1 : (flagB x ++ r).take 1 = [if x = true then 1 else 0] := by simp [flagB]
  have d1 : (flagB x ++ r).drop 1 = r := by simp [flagB]
  rw [t1, d1] at K1
  clear t1 d1
  cases x
  · have hix : ∀ h : 0 < (⟨#[0]⟩ : ByteArray).size, ((⟨#[0]⟩ : ByteArray)[0]'h).toNat = 0 := fun h => rfl
    simp only [Bool.false_eq_true, if_false] at K1
    go_enter Tryz.func108, Tryz.ntmps108
    go_wp2_with fail
    refine K1.mono ?_
    rintro e w1 ⟨rfl, k1, B1⟩
    go_wp2
    go_ret
    exact ⟨rfl, k1, B1⟩
  · have hix : ∀ h : 0 < (⟨#[1]⟩ : ByteArray).size, ((⟨#[1]⟩ : ByteArray)[0]'h).toNat = 1 := fun h => rfl
    simp only [if_true] at K1
    go_enter Tryz.func108, Tryz.ntmps108
    go_wp2_with fail
    refine K1.mono ?_
    rintro e w1 ⟨rfl, k1, B1⟩
    go_wp2
    go_ret
    exact ⟨rfl, k1, B1⟩

set_option maxHeartbeats 800000 in
theorem flag_r (b xb j : Nat) (cs : Array Value) (t : TypeId) (x : Bool) (r : List UInt8) (w : World) (k : RdAt w b (flagB x ++ r)) (hL : r.length ≤ 1099511627000) (kx : Blk w xb cs t) (hj : j < cs.size) (hne : xb ≠ b) :
    Calls Tryz.prog 86 #[.pointer (some ⟨b, 0, none⟩), .pointer (some ⟨xb, j, none⟩)] w fun e w' => e = .returned (.tuple #[]) ∧ Rd b xb (cs.setIfInBounds j (.bool x)) t r w w' := by
  have k' : Blk w b #[.bool true, .slice none 0 0, .string ⟨(flagB x ++ r).toArray⟩] 109 := k
  have c0 := (k'.cell 0).trans rfl
  have zb := k'.lt
  have KN := readFlag_any b x r w k hL
  go_enter Tryz.func86, Tryz.ntmps86
  go_wp2_with fail
  refine KN.mono ?_
  rintro e w1 ⟨rfl, k1, B1⟩
  have kx1 := B1.blk kx hne
  have xc : w1.cell? ⟨xb, j, none⟩ = some cs[j] := by rw [kx1.cell]; simp [hj]
  have xf := kx1.frozen j
  have zx := kx1.lt
  have kx2 := kx1.set j (.bool x)
  have k2 : Blk (w1.setCell ⟨xb, j, none⟩ (.bool x)) b #[.bool true, .slice none 0 0, .string ⟨r.toArray⟩] 109 := Blk.setOther (show Blk w1 b #[.bool true, .slice none 0 0, .string ⟨r.toArray⟩] 109 from k1) ⟨xb, j, none⟩ (fun e => hne e.symm) (.bool x)
  have B2 : But (fun k => k = b ∨ k = xb) w (w1.setCell ⟨xb, j, none⟩ (.bool x)) := (B1.mono (fun _ h => .inl h)).trans (But.set w1 (p := ⟨xb, j, none⟩) (.inr rfl) _)
  clear c0 zb KN k k' kx B1 k1
  go_wp2
  exact bodyPost_ret (v := .tuple #[]) (by simp [results, Tryz.results86]) rfl ⟨rfl, k2, kx2, B2⟩

set_option maxHeartbeats 800000 in
theorem digest_r (b xb j : Nat) (cs : Array Value) (t : TypeId) (d : Int) (r : List UInt8) (w : World) (h0 : 0 ≤ d) (h1 : d ≤ 18446744073709551615) (k : RdAt w b (be d 8 ++ r)) (hL : r.length ≤ 1099511627000) (kx : Blk w xb cs t) (hj : j < cs.size) (hne : xb ≠ b) :
    Calls Tryz.prog 87 #[.pointer (some ⟨b, 0, none⟩), .pointer (some ⟨xb, j, none⟩)] w fun e w' => e = .returned (.tuple #[]) ∧ Rd b xb (cs.setIfInBounds j (.int .u64 d)) t r w w' := by
  have k' : Blk w b #[.bool true, .slice none 0 0, .string ⟨(be d 8 ++ r).toArray⟩] 109 := k
  have c0 := (k'.cell 0).trans rfl
  have zb := k'.lt
  have hbl := be_len d 8
  have K1 := cut_any b (be d 8 ++ r) 8 w k (by simp [hbl]) (by simp [hbl]; omega)
  have t1 : (be d 8 ++ r).take 8 = be d 8 := by rw [List.take_append_of_le_length (by omega), List.take_of_length_le (by omega)]
  have d1 : (be d 8 ++ r).drop 8 = r := by rw [List.drop_append_of_le_length (by omega), List.drop_of_length_le (by omega)]; rfl
  rw [t1, d1] at K1
  have K2 := fun w' => valueOf_any (be d 8) w' (by omega)
  rw [show ((val (be d 8) : Nat) : Int) = d from val_be 8 d h0 (by omega)] at K2
  clear t1 d1
  generalize be d 8 = l at *
  go_enter Tryz.func87, Tryz.ntmps87
  go_wp2_with fail
  refine K1.mono ?_
  rintro e w1 ⟨rfl, k1, B1⟩
  go_wp2_with fail
  refine (K2 w1).mono ?_
  rintro e w1' ⟨rfl, rfl⟩
  have kx1 := B1.blk kx hne
  have xc : w1.cell? ⟨xb, j, none⟩ = some cs[j] := by rw [kx1.cell]; simp [hj]
  have xf := kx1.frozen j
  have zx := kx1.lt
  have kx2 := kx1.set j (.int .u64 d)
  have k2 : Blk (w1.setCell ⟨xb, j, none⟩ (.int .u64 d)) b #[.bool true, .slice none 0 0, .string ⟨r.toArray⟩] 109 := Blk.setOther (show Blk w1 b #[.bool true, .slice none 0 0, .string ⟨r.toArray⟩] 109 from k1) ⟨xb, j, none⟩ (fun e => hne e.symm) (.int .u64 d)
  have B2 : But (fun k => k = b ∨ k = xb) w (w1.setCell ⟨xb, j, none⟩ (.int .u64 d)) := (B1.mono (fun _ h => .inl h)).trans (But.set w1 (p := ⟨xb, j, none⟩) (.inr rfl) _)
  clear c0 zb K1 K2 k k' kx B1 k1
  go_wp2
  exact bodyPost_ret (v := .tuple #[]) (by simp [results, Tryz.results87]) rfl ⟨rfl, k2, kx2, B2⟩

theorem end_r (b : Nat) (w : World) (k : RdAt w b []) : Calls Tryz.prog 97 #[.pointer (some ⟨b, 0, none⟩)] w fun e w' => e = .returned (.tuple #[]) ∧ w = w' := by
  have k' : Blk w b #[.bool true, .slice none 0 0, .string ⟨#[]⟩] 109 := k
  have c2 := (k'.cell 2).trans rfl
  have zb := k'.lt
  go_enter Tryz.func97, Tryz.ntmps97
  go_wp2
  go_end0
  exact ⟨rfl, rfl⟩
end Go.Proofs.YtaifkidpdmhciaaGreat

namespace Go.Proofs.YtaifkidpdmhciaaGreat
open Go.RowKit
set_option linter.unusedVariables false
set_option linter.unusedSimpArgs false

def sets (cs : Array Value) (l : List (Nat × Int)) : Array Value := l.foldl (fun c p => c.setIfInBounds p.1 (.int .i64 p.2)) cs
theorem sets_size (cs : Array Value) (l : List (Nat × Int)) : (sets cs l).size = cs.size := by
  unfold sets
  induction l generalizing cs with
  | nil => rfl
  | cons p r ih => rw [List.foldl_cons, ih]; simp
theorem sets_take (cs : Array Value) (l : List (Nat × Int)) {k : Nat} (h : k < l.length) : sets cs (l.take (k + 1)) = (sets cs (l.take k)).setIfInBounds l[k].1 (.int .i64 l[k].2) := by
  rw [List.take_succ_eq_append_getElem h]
  unfold sets
  rw [List.foldl_append]; rfl
def encs (l : List (Nat × Int)) : List UInt8 := l.flatMap fun p => numB p.2
theorem encs_drop (l : List (Nat × Int)) {k : Nat} (h : k < l.length) : encs (l.drop k) = numB l[k].2 ++ encs (l.drop (k + 1)) := by
  rw [List.drop_eq_getElem_cons h]
  rfl
theorem encs_len (l : List (Nat × Int)) : (encs l).length ≤ 6 * l.length := by
  induction l with
  | nil => simp [encs]
  | cons p r ih =>
    have := numB_len p.2
    simp only [encs, List.flatMap_cons, List.length_append, List.length_cons] at ih ⊢
    omega

set_option maxHeartbeats 800000 in
theorem numbers_r (b xb lb cap : Nat) (cs : Array Value) (t : TypeId) (ps : List (Nat × Int)) (r : List UInt8) (w : World) (hl : ps.length ≤ 16) (hp : ∀ p ∈ ps, p.1 < cs.size ∧ 0 ≤ p.2 ∧ p.2 ≤ 1099511627775) (k : RdAt w b (encs ps ++ r)) (hL : r.length ≤ 1099511626000) (kx : Blk w xb cs t) (hne : xb ≠ b)
    (hlb : lb < w.heap.size) (hl1 : lb ≠ b) (hl2 : lb ≠ xb) (hA : ∀ i p, ps[i]? = some p → w.cell? ⟨lb, i, none⟩ = some (.pointer (some ⟨xb, p.1, none⟩))) :
    Calls Tryz.prog 85 #[.pointer (some ⟨b, 0, none⟩), .slice (some ⟨lb, 0, none⟩) ps.length cap] w fun e w' => e = .returned (.tuple #[]) ∧ Rd b xb (sets cs ps) t r w w' := by
  have HP := show Hid (∀ p ∈ ps, _) from hp
  have HA := show Hid (∀ i p, _) from hA
  clear hp hA
  go_enter Tryz.func85, Tryz.ntmps85
  go_wp2
  go_loopw [5, 8] (fun _ iv wv => ∃ i : Nat, i ≤ ps.length ∧ iv = .int .i64 i ∧ Rd b xb (sets cs (ps.take i)) t (encs (ps.drop i) ++ r) w wv) (fun _ iv _ => ps.length - (intOf iv).toNat)
  case atStart => exact ⟨0, Nat.zero_le _, rfl, k, kx, But.refl _ _⟩
  case round =>
    obtain ⟨i, hi, rfl, R⟩ := hrel
    by_cases hlt : i < ps.length
    · have hlt' : (i : Int) < (ps.length : Int) := by omega
      have c1 : wr.cell? ⟨lb, i, none⟩ = some (.pointer (some ⟨xb, ps[i].1, none⟩)) := by
        rw [R.but.cell (p := ⟨lb, i, none⟩) hlb (fun q => Or.elim q hl1 hl2)]
        exact HA.out i _ (List.getElem?_eq_getElem hlt)
      have zl : lb < wr.heap.size := Nat.lt_of_lt_of_le hlb R.but.size
      have hq := HP.out ps[i] (List.getElem_mem hlt)
      have R' := R.rd
      rw [encs_drop ps hlt, List.append_assoc] at R'
      have hle := encs_len (ps.drop (i + 1))
      rw [List.length_drop] at hle
      have K := number_r b xb ps[i].1 (sets cs (ps.take i)) t ps[i].2 (encs (ps.drop (i + 1)) ++ r) wr hq.2.1 hq.2.2 R' (by rw [List.length_append]; omega) R.x (by rw [sets_size]; exact hq.1) hne
      rw [← sets_take cs ps hlt] at K
      have HR := show Hid (Rd _ _ _ _ _ _ _) from R
      clear R R' hq
      generalize ps[i].1 = j at *
      generalize ps[i].2 = n at *
      go_wp2_with fail
      refine K.mono ?_
      rintro e w1 ⟨rfl, R1⟩
      go_wp2
      exact ⟨⟨i + 1, by omega, by go_num, HR.out.trans R1⟩, by simp [intOf]; omega⟩
    · have hge : ¬ (i : Int) < (ps.length : Int) := by omega
      have e1 : ps.take i = ps := List.take_of_length_le (by omega)
      have e2 : ps.drop i = [] := List.drop_of_length_le (by omega)
      rw [e1, e2] at R
      clear e1 e2
      go_wp2
      go_end0
      exact ⟨rfl, R⟩

/-- The bytes of a vote. -/
def voteBy (h rd s : Int) (has : Bool) (bl f : Int) : List UInt8 := encs [(0, h), (0, rd), (0, s)] ++ (flagB has ++ (be bl 8 ++ numB f))
/-- Cells into which a vote was read. -/
def voteC (cs : Array Value) (o : Nat) (h rd s : Int) (has : Bool) (bl f : Int) : Array Value :=
  (((sets cs [(o, h), (o + 1, rd), (o + 2, s)]).setIfInBounds (o + 3) (.bool has)).setIfInBounds (o + 4) (.int .u64 bl)).setIfInBounds (o + 5) (.int .i64 f)

set_option maxHeartbeats 1600000 in
theorem vote_r (b xb o : Nat) (cs : Array Value) (t : TypeId) (h rd s : Int) (has : Bool) (bl f : Int) (r : List UInt8) (w : World) (hh : 0 ≤ h ∧ h ≤ 1099511627775) (hrd : 0 ≤ rd ∧ rd ≤ 1099511627775) (hs : 0 ≤ s ∧ s ≤ 1099511627775) (hbl : 0 ≤ bl ∧ bl ≤ 18446744073709551615) (hf : 0 ≤ f ∧ f ≤ 1099511627775)
    (k : RdAt w b (voteBy h rd s has bl f ++ r)) (hL : r.length ≤ 1099511620000) (kx : Blk w xb cs t) (ho : o + 5 < cs.size) (hne : xb ≠ b) :
    Calls Tryz.prog 58 #[.pointer (some ⟨b, 0, none⟩), .pointer (some ⟨xb, o, none⟩)] w fun e w' => e = .returned (.tuple #[]) ∧ Rd b xb (voteC cs o h rd s has bl f) t r w w' := by
  have zx := kx.lt
  have zb : b < w.heap.size := Blk.lt k
  have hfl := numB_len f
  have hbe := be_len bl 8
  have hfg : (flagB has).length = 1 := by simp [flagB]
  have k1 : RdAt w b (encs [(o, h), (o + 1, rd), (o + 2, s)] ++ (flagB has ++ (be bl 8 ++ (numB f ++ r)))) := by
    have e : voteBy h rd s has bl f ++ r = encs [(o, h), (o + 1, rd), (o + 2, s)] ++ (flagB has ++ (be bl 8 ++ (numB f ++ r))) := by simp [voteBy, encs, List.append_assoc]
    rw [← e]; exact k
  go_enter Tryz.func58, Tryz.ntmps58
  go_wp2_with fail
  have bA : Below w.heap.size w (w.alloc (.cells #[.pointer (some ⟨xb, o, none⟩), .pointer (some ⟨xb, o + 1, none⟩), .pointer (some ⟨xb, o + 2, none⟩)] 113)).drew := ((Below.refl _ _).alloc (Nat.le_refl _) _).drew
  have kP := (Blk.new w #[.pointer (some ⟨xb, o, none⟩), .pointer (some ⟨xb, o + 1, none⟩), .pointer (some ⟨xb, o + 2, none⟩)] 113).drew
  have kk : RdAt (w.alloc (.cells #[.pointer (some ⟨xb, o, none⟩), .pointer (some ⟨xb, o + 1, none⟩), .pointer (some ⟨xb, o + 2, none⟩)] 113)).drew b _ := Blk.below k1 bA zb
  have kxx := kx.below bA zx
  have hzz : w.heap.size < (w.alloc (.cells #[.pointer (some ⟨xb, o, none⟩), .pointer (some ⟨xb, o + 1, none⟩), .pointer (some ⟨xb, o + 2, none⟩)] 113)).drew.heap.size := kP.lt
  refine wp_region_any (by kernel_rfl) ?_
  change wpAny _ _ _ _ _ _ _ (World.drew _)
  refine wpAny_take (i := 0) (v := ?_) rfl (by kernel_rfl) (by kernel_rfl) (by kernel_rfl) (fun _ _ _ h => h) (Or.inl ⟨by rfl, ?_⟩) ?_
  rotate_left
  · intro w
    go_simp
    try (with_reducible rfl)
  refine wpAny_take (i := 1) (v := ?_) rfl (by kernel_rfl) (by kernel_rfl) (by kernel_rfl) (fun _ _ _ h => h) (Or.inl ⟨by rfl, ?_⟩) ?_
  rotate_left
  · intro w
    go_simp
    try (with_reducible rfl)
  refine wpAny_take (i := 2) (v := ?_) rfl (by kernel_rfl) (by kernel_rfl) (by kernel_rfl) (fun _ _ _ h => h) (Or.inl ⟨by rfl, ?_⟩) ?_
  rotate_left
  · intro w
    go_simp
    try (with_reducible rfl)
  refine wpAny_take (i := 3) (v := ?_) rfl (by kernel_rfl) (by kernel_rfl) (by kernel_rfl) (fun _ _ _ h => h) (Or.inl ⟨by rfl, ?_⟩) ?_
  rotate_left
  · intro w
    go_simp
    try (with_reducible rfl)
  refine wpAny_take (i := 4) (v := ?_) rfl (by kernel_rfl) (by kernel_rfl) (by kernel_rfl) (fun _ _ _ h => h) (Or.inl ⟨by rfl, ?_⟩) ?_
  rotate_left
  · intro w
    go_simp
    try (with_reducible rfl)
  refine wpAny_take (i := 5) (v := ?_) rfl (by kernel_rfl) (by kernel_rfl) (by kernel_rfl) (fun _ _ _ h => h) (Or.inl ⟨by rfl, ?_⟩) ?_
  rotate_left
  · intro w
    go_simp
    try (with_reducible rfl)
  refine wpAny_take (i := 6) (v := ?_) rfl (by kernel_rfl) (by kernel_rfl) (by kernel_rfl) (fun _ _ _ h => h) (Or.inl ⟨by rfl, ?_⟩) ?_
  rotate_left
  · intro w
    go_simp
    try (with_reducible rfl)
  refine wpAny_take (i := 7) (v := ?_) rfl (by kernel_rfl) (by kernel_rfl) (by kernel_rfl) (fun _ _ _ h => h) (Or.inl ⟨by rfl, ?_⟩) ?_
  rotate_left
  · intro w
    go_simp
    try (with_reducible rfl)
  refine wpAny_take (i := 8) (v := ?_) rfl (by kernel_rfl) (by kernel_rfl) (by kernel_rfl) (fun _ _ _ h => h) (Or.inl ⟨by rfl, ?_⟩) ?_
  rotate_left
  · intro w
    go_simp
    try (with_reducible rfl)
  refine wpAny_take (i := 9) (v := ?_) rfl (by kernel_rfl) (by kernel_rfl) (by kernel_rfl) (fun _ _ _ h => h) (Or.inl ⟨by rfl, ?_⟩) ?_
  rotate_left
  · intro w
    go_simp
    try (with_reducible rfl)
  refine wpAny_ready (rs := [10]) (by kernel_rfl) (by simp) ?_
  refine AllReady.cons rfl (fun K hK => ?_) AllReady.nil
  go_simp
  refine hK _ _ ?_
  clear hK K
  refine wpAny_ready (rs := [11]) (by kernel_rfl) (by simp) ?_
  refine AllReady.cons rfl (fun K hK => ?_) AllReady.nil
  go_simp
  refine (numbers_r b xb w.heap.size 3 cs t [(o, h), (o + 1, rd), (o + 2, s)] _ (w.alloc (.cells #[.pointer (some ⟨xb, o, none⟩), .pointer (some ⟨xb, o + 1, none⟩), .pointer (some ⟨xb, o + 2, none⟩)] 113)).drew (by simp) (by
    intro p hp
    simp at hp
    rcases hp with rfl | rfl | rfl
    · exact ⟨by show o < _; omega, hh⟩
    · exact ⟨by show o + 1 < _; omega, hrd⟩
    · exact ⟨by show o + 2 < _; omega, hs⟩) kk (by simp only [List.length_append]; omega) kxx hne hzz (by omega) (by omega) (by
    intro i p hp
    rw [kP.cell]
    match i, hp with
    | 0, hp => simp at hp; subst hp; rfl
    | 1, hp => simp at hp; subst hp; rfl
    | 2, hp => simp at hp; subst hp; rfl
    | n + 3, hp => simp at hp)).mono ?_
  rintro e w1 ⟨rfl, R1⟩
  have B1 : But (fun k => k = b ∨ k = xb) w w1 := (But.of_below bA).trans R1.but
  have q1 := R1.rd
  have x1 := R1.x
  have hsz := sets_size cs [(o, h), (o + 1, rd), (o + 2, s)]
  clear R1 kk kxx kP bA hzz k1 k kx
  refine hK _ _ ?_
  clear hK K
  refine wpAny_done (by kernel_rfl) ?_ _
  go_wp2_with fail
  refine (flag_r b xb (o + 3) _ t has _ w1 q1 (by simp only [List.length_append]; omega) x1 (by rw [hsz]; omega) hne).mono ?_
  rintro e w2 ⟨rfl, R2⟩
  go_wp2_with fail
  refine (digest_r b xb (o + 4) _ t bl _ w2 hbl.1 hbl.2 R2.rd (by simp only [List.length_append]; omega) R2.x (by simp only [Array.size_setIfInBounds, hsz]; omega) hne).mono ?_
  rintro e w3 ⟨rfl, R3⟩
  go_wp2_with fail
  refine (number_r b xb (o + 5) _ t f r w3 hf.1 hf.2 R3.rd (by omega) R3.x (by simp only [Array.size_setIfInBounds, hsz]; omega) hne).mono ?_
  rintro e w4 ⟨rfl, R4⟩
  go_wp2
  go_end0
  exact ⟨rfl, R4.rd, R4.x, ((B1.trans R2.but).trans R3.but).trans R4.but⟩

/-- The bytes of a record of a vote. -/
def recBy (h rd s : Int) (has : Bool) (bl f : Int) : List UInt8 := numB 1 ++ voteBy h rd s has bl f

set_option maxHeartbeats 1600000 in
theorem record_r (b xb : Nat) (cs : Array Value) (t : TypeId) (h rd s : Int) (has : Bool) (bl f : Int) (r : List UInt8) (w : World) (hh : 0 ≤ h ∧ h ≤ 1099511627775) (hrd : 0 ≤ rd ∧ rd ≤ 1099511627775) (hs : 0 ≤ s ∧ s ≤ 1099511627775) (hbl : 0 ≤ bl ∧ bl ≤ 18446744073709551615) (hf : 0 ≤ f ∧ f ≤ 1099511627775)
    (k : RdAt w b (recBy h rd s has bl f ++ r)) (hL : r.length ≤ 1099511610000) (kx : Blk w xb cs t) (ho : 6 < cs.size) (hne : xb ≠ b) :
    Calls Tryz.prog 35 #[.pointer (some ⟨b, 0, none⟩), .pointer (some ⟨xb, 0, none⟩)] w fun e w' => e = .returned (.tuple #[]) ∧ Rd b xb (voteC (cs.setIfInBounds 0 (.int .i64 1)) 1 h rd s has bl f) t r w w' := by
  have zx := kx.lt
  have zb : b < w.heap.size := Blk.lt k
  have hvl : (voteBy h rd s has bl f ++ r).length ≤ 1099511627000 := by
    have := numB_len f
    have := be_len bl 8
    have := encs_len [(0, h), (0, rd), (0, s)]
    simp only [voteBy, List.length_append, flagB, List.length_cons, List.length_nil] at *
    omega
  have k1 : RdAt w b (numB 1 ++ (voteBy h rd s has bl f ++ r)) := by
    have e : recBy h rd s has bl f ++ r = numB 1 ++ (voteBy h rd s has bl f ++ r) := by simp [recBy, List.append_assoc]
    rw [← e]; exact k
  go_enter Tryz.func35, Tryz.ntmps35
  go_wp2_with fail
  refine (number_r b xb 0 cs t 1 _ w (by omega) (by omega) k1 hvl kx (by omega) hne).mono ?_
  rintro e w1 ⟨rfl, R1⟩
  have x0 : w1.cell? ⟨xb, 0, none⟩ = some (.int .i64 1) := by rw [R1.x.cell]; exact set_get _ _ _ (by omega)
  have z1 := R1.x.lt
  clear k1 k kx
  go_wp2_with fail
  refine (vote_r b xb 1 _ t h rd s has bl f r w1 hh hrd hs hbl hf R1.rd (by omega) R1.x (by simp only [Array.size_setIfInBounds]; omega) hne).mono ?_
  rintro e w2 ⟨rfl, R2⟩
  have R := R1.trans R2
  go_wp2
  go_end0
  exact ⟨rfl, R⟩
end Go.Proofs.YtaifkidpdmhciaaGreat
