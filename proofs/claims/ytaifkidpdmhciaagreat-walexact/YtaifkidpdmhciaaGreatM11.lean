/- Plain functions on numbers, bytes and lists: what chapter 2's digests come to. Nothing of the program is named here. -/
import Derived.Test.YtaifkidpdmhciaaGreatM00
import Derived.OpenShut
import Derived.Laws.Bits64

namespace Go.Proofs.YtaifkidpdmhciaaGreat
open Go.RowKit

theorem xor_bd (x y : Int) : 0 ≤ bits .xor .u64 x y ∧ bits .xor .u64 x y ≤ 18446744073709551615 := bounds_u64 (wf_bits .xor .u64 x y)
theorem wrap_bd (x : Int) : 0 ≤ IntKind.u64.wrap x ∧ IntKind.u64.wrap x ≤ 18446744073709551615 := bounds_u64 (wf_wrap .u64 x)

/-- One byte more. -/
def mulP (x : Int) : Int := IntKind.u64.wrap (x * 11400714819323198485)
def stirP (h b : Int) : Int := bits .xor .u64 (mulP (bits .xor .u64 h b)) (mulP (bits .xor .u64 h b) / 4294967296)
theorem stirP_bd (h b : Int) : 0 ≤ stirP h b ∧ stirP h b ≤ 18446744073709551615 := xor_bd _ _

/-- The bytes of a text, one behind the other. -/
def stirs (h : Int) (l : List UInt8) : Int := l.foldl (fun h b => stirP h (b.toNat : Int)) h
theorem stirs_snoc (h : Int) (l : List UInt8) (b : UInt8) : stirs h (l ++ [b]) = stirP (stirs h l) (b.toNat : Int) := by
  simp [stirs, List.foldl_append]
theorem stirs_bd (h : Int) (l : List UInt8) (hh : 0 ≤ h ∧ h ≤ 18446744073709551615) : 0 ≤ stirs h l ∧ stirs h l ≤ 18446744073709551615 := by
  induction l generalizing h with
  | nil => exact hh
  | cons b l ih => exact ih _ (stirP_bd _ _)
theorem take_snoc (s : ByteArray) (k : Nat) (h : k < s.size) : s.data.toList.take (k + 1) = s.data.toList.take k ++ [s[k]] := by
  rw [List.take_succ_eq_append_getElem (by simpa using h)]; rfl
theorem take_all (s : ByteArray) (k : Nat) (h : s.size ≤ k) : s.data.toList.take k = s.data.toList := List.take_of_length_le (by simpa using h)
theorem stirs_take (h H : Int) (s : ByteArray) (k : Nat) (hk : k < s.size) (e : H = stirs h (s.data.toList.take k)) : stirP H (s[k].toNat : Int) = stirs h (s.data.toList.take (k + 1)) := by
  rw [take_snoc s k hk, stirs_snoc, e]

/-- A part of an image: its length, and its bytes. -/
def partP (h : Int) (s : ByteArray) : Int := stirs (stirs h (be (s.size : Int) 8)) s.data.toList
def partsP (h : Int) (ss : List ByteArray) : Int := ss.foldl partP h
theorem partsP_snoc (h : Int) (ss : List ByteArray) (s : ByteArray) : partsP h (ss ++ [s]) = partP (partsP h ss) s := by
  simp [partsP, List.foldl_append]
theorem partP_bd (h : Int) (s : ByteArray) (hh : 0 ≤ h ∧ h ≤ 18446744073709551615) : 0 ≤ partP h s ∧ partP h s ≤ 18446744073709551615 := stirs_bd _ _ (stirs_bd _ _ hh)
theorem partsP_bd (h : Int) (ss : List ByteArray) (hh : 0 ≤ h ∧ h ≤ 18446744073709551615) : 0 ≤ partsP h ss ∧ partsP h ss ≤ 18446744073709551615 := by
  induction ss generalizing h with
  | nil => exact hh
  | cons s ss ih => exact ih _ (partP_bd _ _ hh)
theorem partsP_take (h H : Int) (ss : List ByteArray) (k : Nat) (hk : k < ss.length) (e : H = partsP h (ss.take k)) : partP H ss[k] = partsP h (ss.take (k + 1)) := by
  rw [List.take_succ_eq_append_getElem hk, partsP_snoc, e]

/-- How many bytes a digest has. -/
def widthP (w : Int) : Int := if w < 1 then 1 else if 8 < w then 8 else w
theorem widthP_bd (w : Int) : 1 ≤ widthP w ∧ widthP w ≤ 8 := by unfold widthP; split <;> (try split) <;> omega

def turnP (h : Int) : Int := mulP (bits .xor .u64 h (h / 536870912))
def lastP (h : Int) : Int := bits .xor .u64 (turnP (turnP h)) (turnP (turnP h) / 4294967296)
theorem mulP_bd (x : Int) : 0 ≤ mulP x ∧ mulP x ≤ 18446744073709551615 := wrap_bd _
theorem turnP_bd (h : Int) : 0 ≤ turnP h ∧ turnP h ≤ 18446744073709551615 := mulP_bd _
theorem lastP_bd (h : Int) : 0 ≤ lastP h ∧ lastP h ≤ 18446744073709551615 := xor_bd _ _

/-- D1. -/
def ofP (w tag : Int) (ss : List ByteArray) : Int := lastP (partsP (stirP 11400714819323198485 (tag % 256)) ss) / 256 ^ (8 - widthP w).toNat

theorem ofP_bd (w tag : Int) (ss : List ByteArray) : 0 ≤ ofP w tag ss ∧ ofP w tag ss ≤ 18446744073709551615 := by
  have h := lastP_bd (partsP (stirP 11400714819323198485 (tag % 256)) ss)
  have hp : (0 : Int) < 256 ^ (8 - widthP w).toNat := Int.pow_pos (by omega)
  unfold ofP
  refine ⟨Int.ediv_nonneg h.1 (Int.le_of_lt hp), ?_⟩
  exact Int.le_trans (Int.ediv_le_self _ h.1) h.2

theorem shift_pow (w : Int) : (256 : Int) ^ (8 - widthP w).toNat = 2 ^ (64 - 8 * widthP w).toNat := by
  have h := widthP_bd w
  have e : (64 - 8 * widthP w).toNat = 8 * (8 - widthP w).toNat := by omega
  rw [e, Int.pow_mul, show ((2 : Int) ^ 8) = 256 from by decide]
end Go.Proofs.YtaifkidpdmhciaaGreat

namespace Go.Proofs.YtaifkidpdmhciaaGreat
open Go.RowKit
set_option linter.unusedVariables false

theorem ret_u64 {a b : Int} (h : a = b) : Ending.returned (.int .u64 a) = .returned (.int .u64 b) := by rw [h]

theorem be8_size (n : Int) : (⟨(be n 8).toArray⟩ : ByteArray).size ≤ maxLen := by
  have h := be_len n 8
  have e : (⟨(be n 8).toArray⟩ : ByteArray).size = 8 := by simp [ByteArray.size, h]
  rw [e]; unfold maxLen; omega

theorem stir_any (h b : Int) (w : World) (hh : 0 ≤ h ∧ h ≤ 18446744073709551615) (hb : 0 ≤ b ∧ b ≤ 255) :
    Calls Tryz.prog 68 #[.int .u64 h, .int .u8 b] w fun e w' => e = .returned (.int .u64 (stirP h b)) ∧ w = w' := by
  go_enter Tryz.func68, Tryz.ntmps68
  go_wp2
  go_ret
  exact ⟨rfl, rfl⟩

theorem quo32 (x : Int) (h : 0 ≤ x ∧ x ≤ 18446744073709551615) : IntKind.u64.wrap (x.tdiv 4294967296) = x / 4294967296 := by
  rw [Int.tdiv_eq_ediv_of_nonneg h.1, IntKind.wrap_u64]; omega
theorem quo29 (x : Int) (h : 0 ≤ x ∧ x ≤ 18446744073709551615) : IntKind.u64.wrap (x.tdiv 536870912) = x / 536870912 := by
  rw [Int.tdiv_eq_ediv_of_nonneg h.1, IntKind.wrap_u64]; omega

theorem rstir_any (h b : Int) (w : World) (hh : 0 ≤ h ∧ h ≤ 18446744073709551615) (hb : 0 ≤ b ∧ b ≤ 255) :
    Calls Tryz.prog 42 #[.int .u64 h, .int .u8 b] w fun e w' => e = .returned (.int .u64 (stirP h b)) ∧ w = w' := by
  have hq := quo32 (mulP (bits .xor .u64 h b)) (mulP_bd _)
  unfold mulP at hq
  go_enter Tryz.func42, Tryz.ntmps42
  go_wp2
  go_ret
  exact ⟨rfl, rfl⟩

set_option maxHeartbeats 400000 in
theorem stirAll_any (h : Int) (s : ByteArray) (w : World) (hh : 0 ≤ h ∧ h ≤ 18446744073709551615) (hs : s.size ≤ maxLen) :
    Calls Tryz.prog 69 #[.int .u64 h, .string s] w fun e w' => e = .returned (.int .u64 (stirs h s.data.toList)) ∧ w = w' := by
  unfold maxLen at hs
  go_enter Tryz.func69, Tryz.ntmps69
  go_wp2
  go_loop [0, 5, 8] (fun hv _ iv => ∃ (k : Nat) (H : Int), k ≤ s.size ∧ iv = .int .i64 k ∧ hv = .int .u64 H ∧ 0 ≤ H ∧ H ≤ 18446744073709551615 ∧ Hid (H = stirs h (s.data.toList.take k))) (fun _ _ iv => s.size - (intOf iv).toNat)
  case atStart => exact ⟨0, h, Nat.zero_le _, rfl, rfl, hh.1, hh.2, by show _ = _; simp [stirs]⟩
  case round =>
    obtain ⟨k, H, hk, rfl, rfl, h1, h2, HH⟩ := hrel
    by_cases hlt : k < s.size
    · have hb : 0 ≤ (s[k].toNat : Int) ∧ (s[k].toNat : Int) ≤ 255 := by have := s[k].toNat_lt; omega
      go_wp2_with fail
      refine (stir_any H _ _ ⟨h1, h2⟩ hb).mono ?_
      rintro e w' ⟨rfl, rfl⟩
      go_wp2
      have hbd := stirP_bd H (s[k].toNat : Int)
      exact ⟨⟨k + 1, stirP H (s[k].toNat : Int), by omega, by go_num, rfl, hbd.1, hbd.2, stirs_take h H s k hlt HH.out⟩, by simp [intOf]; omega⟩
    · go_wp2
      go_ret
      exact ⟨ret_u64 (by rw [HH.out, take_all s k (by omega)]), rfl⟩

set_option maxHeartbeats 400000 in
theorem rbytes_any (h : Int) (s : ByteArray) (w : World) (hh : 0 ≤ h ∧ h ≤ 18446744073709551615) (hs : s.size ≤ maxLen) :
    Calls Tryz.prog 43 #[.int .u64 h, .string s] w fun e w' => e = .returned (.int .u64 (stirs h s.data.toList)) ∧ w = w' := by
  unfold maxLen at hs
  go_enter Tryz.func43, Tryz.ntmps43
  go_wp2
  go_loop [0, 5] (fun hv iv => ∃ (k : Nat) (H : Int), k ≤ s.size ∧ iv = .int .i64 k ∧ hv = .int .u64 H ∧ 0 ≤ H ∧ H ≤ 18446744073709551615 ∧ Hid (H = stirs h (s.data.toList.take k))) (fun _ iv => s.size - (intOf iv).toNat)
  case atStart => exact ⟨0, h, Nat.zero_le _, rfl, rfl, hh.1, hh.2, by show _ = _; simp [stirs]⟩
  case round =>
    obtain ⟨k, H, hk, rfl, rfl, h1, h2, HH⟩ := hrel
    by_cases hlt : k < s.size
    · have hb : 0 ≤ (s[k].toNat : Int) ∧ (s[k].toNat : Int) ≤ 255 := by have := s[k].toNat_lt; omega
      go_wp2_with fail
      refine (rstir_any H _ _ ⟨h1, h2⟩ hb).mono ?_
      rintro e w' ⟨rfl, rfl⟩
      go_wp2
      have hbd := stirP_bd H (s[k].toNat : Int)
      exact ⟨⟨k + 1, stirP H (s[k].toNat : Int), by omega, by go_num, rfl, hbd.1, hbd.2, stirs_take h H s k hlt HH.out⟩, by simp [intOf]; omega⟩
    · go_wp2
      go_ret
      exact ⟨ret_u64 (by rw [HH.out, take_all s k (by omega)]), rfl⟩

theorem width_any (n : Int) (w : World) (hn : -9223372036854775808 ≤ n ∧ n ≤ 9223372036854775807) :
    Calls Tryz.prog 70 #[.int .i64 n] w fun e w' => e = .returned (.int .i64 (widthP n)) ∧ w = w' := by
  by_cases h1 : n < 1
  · have e : widthP n = 1 := by unfold widthP; rw [if_pos h1]
    rw [e]
    go_enter Tryz.func70, Tryz.ntmps70
    go_wp2
    go_ret
    exact ⟨rfl, rfl⟩
  · by_cases h8 : 8 < n
    · have e : widthP n = 8 := by unfold widthP; rw [if_neg h1, if_pos h8]
      rw [e]
      go_enter Tryz.func70, Tryz.ntmps70
      go_wp2
      go_ret
      exact ⟨rfl, rfl⟩
    · have e : widthP n = n := by unfold widthP; rw [if_neg h1, if_neg h8]
      rw [e]
      go_enter Tryz.func70, Tryz.ntmps70
      go_wp2
      go_ret
      exact ⟨rfl, rfl⟩

/-- A slice of texts in memory. -/
def Strs (w : World) (a : Option Addr) (ss : List ByteArray) : Prop :=
  (∀ s ∈ ss, s.size ≤ maxLen) ∧ (ss = [] ∨ ∃ b off, a = some ⟨b, off, none⟩ ∧ b < w.heap.size ∧ ∀ i (h : i < ss.length), w.cell? ⟨b, off + i, none⟩ = some (.string ss[i]))

theorem Strs.below {w w' : World} {a : Option Addr} {ss : List ByteArray} (h : Strs w a ss) (hb : Below w.heap.size w w') : Strs w' a ss := by
  refine ⟨h.1, ?_⟩
  rcases h.2 with e | ⟨b, off, rfl, hlt, hc⟩
  · exact .inl e
  · exact .inr ⟨b, off, rfl, Nat.lt_of_lt_of_le hlt hb.size, fun i hi => by rw [hb.cell (p := ⟨b, off + i, none⟩) hlt]; exact hc i hi⟩

set_option maxHeartbeats 800000 in
theorem of_any (wd tag : Int) (a : Option Addr) (len cap : Nat) (ss : List ByteArray) (w : World) (hw : -9223372036854775808 ≤ wd ∧ wd ≤ 9223372036854775807) (hl : ss.length = len) (hm : len ≤ maxLen) (hs : Strs w a ss) :
    Calls Tryz.prog 39 #[.int .i64 wd, .int .i64 tag, .slice a len cap] w fun e w' => e = .returned (.int .u64 (ofP wd tag ss)) ∧ Below w.heap.size w w' := by
  unfold maxLen at hm
  have hM : (0 : Int) ≤ 11400714819323198485 ∧ (11400714819323198485 : Int) ≤ 18446744073709551615 := by omega
  have htag : 0 ≤ tag % 256 ∧ tag % 256 ≤ 255 := by omega
  have hst := stirP_bd 11400714819323198485 (tag % 256)
  go_enter Tryz.func39, Tryz.ntmps39
  go_wp2_with fail
  refine (stir_any _ _ _ hM htag).mono ?_
  rintro e w' ⟨rfl, rfl⟩
  go_wp2_with fail
  go_loopw [7, 9, 15] (fun hv _ iv wv => ∃ (k : Nat) (H : Int), k ≤ len ∧ iv = .int .i64 k ∧ hv = .int .u64 H ∧ 0 ≤ H ∧ H ≤ 18446744073709551615 ∧ Hid (H = partsP (stirP 11400714819323198485 (tag % 256)) (ss.take k)) ∧ Below w.heap.size w wv) (fun _ _ iv _ => len - (intOf iv).toNat)
  case atStart => exact ⟨0, _, Nat.zero_le _, rfl, rfl, hst.1, hst.2, by show _ = _; simp [partsP], Below.refl _ _⟩
  case round =>
    obtain ⟨k, H, hk, rfl, rfl, h1, h2, HH, hb⟩ := hrel
    have hs' := hs.below hb
    by_cases hlt : k < len
    · have hkl : k < ss.length := by omega
      obtain ⟨hsz, h0 | ⟨b, off, rfl, hbl, hc⟩⟩ := hs'
      · subst h0; simp at hkl
      have hck := hc k hkl
      have hsk := hsz _ (List.getElem_mem hkl)
      have hstep := fun H' e => partsP_take (stirP 11400714819323198485 (tag % 256)) H' ss k hkl e
      have HS := show Hid (∀ H', H' = partsP (stirP 11400714819323198485 (tag % 256)) (ss.take k) → partP H' ss[k] = partsP (stirP 11400714819323198485 (tag % 256)) (ss.take (k + 1))) from hstep
      clear hstep hc hsz
      generalize ss[k] = s at *
      unfold maxLen at hsk
      have hbe := be8_size (s.size : Int)
      go_wp2_with fail
      refine (weight _ _ (by omega)).mono ?_
      rintro e w1 ⟨rfl, b1⟩
      go_wp2_with fail
      refine (stirAll_any H _ _ ⟨h1, h2⟩ hbe).mono ?_
      rintro e w2 ⟨rfl, rfl⟩
      go_wp2_with fail
      refine (stirAll_any _ s _ (stirs_bd _ _ ⟨h1, h2⟩) hsk).mono ?_
      rintro e w2 ⟨rfl, rfl⟩
      go_wp2
      have hbd := partP_bd H s ⟨h1, h2⟩
      exact ⟨⟨k + 1, partP H s, by omega, by go_num, rfl, hbd.1, hbd.2, HS.out H HH.out, hb.trans (b1.mono hb.size)⟩, by simp [intOf]; omega⟩
    · have hT := turnP_bd H
      have hT2 := turnP_bd (turnP H)
      have hwd := widthP_bd wd
      go_wp2_with fail
      refine wp_loop_rounds 3 ?_
      iterate 3 (rw [rounds_succ]; go_wp2_with fail)
      refine (width_any _ _ hw).mono ?_
      rintro e w2 ⟨rfl, rfl⟩
      go_wp2
      go_ret
      have hfin : lastP H / 2 ^ (64 - 8 * widthP wd).toNat = ofP wd tag ss := by
        unfold ofP; rw [shift_pow, HH.out, List.take_of_length_le (by omega)]
      exact ⟨ret_u64 hfin, hb⟩

theorem quo8 (x : Int) (h : 0 ≤ x ∧ x ≤ 18446744073709551615) : IntKind.u64.wrap (x.tdiv 256) = x / 256 := by
  rw [Int.tdiv_eq_ediv_of_nonneg h.1, IntKind.wrap_u64]; omega

theorem last_step (L X i v : Int) (h : v ≤ i) (e : L = X / 256 ^ (i - v).toNat) : L / 256 = X / 256 ^ (i + 1 - v).toNat := by
  rw [e, div_step, show (i + 1 - v).toNat = (i - v).toNat + 1 by omega]

set_option maxHeartbeats 1600000 in
theorem rof_any (wd tag : Int) (a : Option Addr) (len cap : Nat) (ss : List ByteArray) (w : World) (hw : -9223372036854775808 ≤ wd ∧ wd ≤ 9223372036854775807) (hl : ss.length = len) (hm : len ≤ maxLen) (hs : Strs w a ss) :
    Calls Tryz.prog 28 #[.int .i64 wd, .int .i64 tag, .slice a len cap] w fun e w' => e = .returned (.int .u64 (ofP wd tag ss)) ∧ Below w.heap.size w w' := by
  unfold maxLen at hm
  have hM : (0 : Int) ≤ 11400714819323198485 ∧ (11400714819323198485 : Int) ≤ 18446744073709551615 := by omega
  have htag : 0 ≤ tag % 256 ∧ tag % 256 ≤ 255 := by omega
  have hst := stirP_bd 11400714819323198485 (tag % 256)
  have hcase : (wd < 1 ∧ Hid (widthP wd = 1)) ∨ (¬ wd < 1 ∧ 8 < wd ∧ Hid (widthP wd = 8)) ∨ (¬ wd < 1 ∧ ¬ 8 < wd ∧ Hid (widthP wd = wd)) := by
    by_cases h1 : wd < 1
    · exact .inl ⟨h1, show widthP wd = 1 by unfold widthP; rw [if_pos h1]⟩
    · by_cases h8 : 8 < wd
      · exact .inr (.inl ⟨h1, h8, show widthP wd = 8 by unfold widthP; rw [if_neg h1, if_pos h8]⟩)
      · exact .inr (.inr ⟨h1, h8, show widthP wd = wd by unfold widthP; rw [if_neg h1, if_neg h8]⟩)
  have hwd := widthP_bd wd
  rcases hcase with ⟨g1, HV⟩ | ⟨g1, g2, HV⟩ | ⟨g1, g2, HV⟩
  all_goals
    go_enter Tryz.func28, Tryz.ntmps28
    go_wp2_with fail
    refine (rstir_any _ _ _ hM htag).mono ?_
    rintro e w' ⟨rfl, rfl⟩
    go_wp2_with fail
    go_loopw [7, 8, 9] (fun hv iv _ wv => ∃ (k : Nat) (H : Int), k ≤ len ∧ iv = .int .i64 k ∧ hv = .int .u64 H ∧ 0 ≤ H ∧ H ≤ 18446744073709551615 ∧ Hid (H = partsP (stirP 11400714819323198485 (tag % 256)) (ss.take k)) ∧ Below w.heap.size w wv) (fun _ iv _ _ => len - (intOf iv).toNat)
    case atStart => exact ⟨0, _, Nat.zero_le _, rfl, rfl, hst.1, hst.2, by show _ = _; simp [partsP], Below.refl _ _⟩
    case round =>
      obtain ⟨k, H, hk, rfl, rfl, h1, h2, HH, hb⟩ := hrel
      have hs' := hs.below hb
      by_cases hlt : k < len
      · have hkl : k < ss.length := by omega
        obtain ⟨hsz, h0 | ⟨b, off, rfl, hbl, hc⟩⟩ := hs'
        · subst h0; simp at hkl
        have hck := hc k hkl
        have hsk := hsz _ (List.getElem_mem hkl)
        have hstep := fun H' e => partsP_take (stirP 11400714819323198485 (tag % 256)) H' ss k hkl e
        have HS := show Hid (∀ H', H' = partsP (stirP 11400714819323198485 (tag % 256)) (ss.take k) → partP H' ss[k] = partsP (stirP 11400714819323198485 (tag % 256)) (ss.take (k + 1))) from hstep
        clear hstep hc hsz
        generalize ss[k] = s at *
        unfold maxLen at hsk
        have hbe := be8_size (s.size : Int)
        go_wp2_with fail
        refine (reight _ _ (by omega)).mono ?_
        rintro e w1 ⟨rfl, b1⟩
        go_wp2_with fail
        refine (rbytes_any H _ _ ⟨h1, h2⟩ hbe).mono ?_
        rintro e w2 ⟨rfl, rfl⟩
        have hck1 : w1.cell? ⟨b, off + k, none⟩ = some (.string s) := by rw [b1.cell (p := ⟨b, off + k, none⟩) hbl]; exact hck
        go_wp2_with fail
        refine (rbytes_any _ s _ (stirs_bd _ _ ⟨h1, h2⟩) hsk).mono ?_
        rintro e w2 ⟨rfl, rfl⟩
        go_wp2
        have hbd := partP_bd H s ⟨h1, h2⟩
        exact ⟨⟨k + 1, partP H s, by omega, by go_num, rfl, hbd.1, hbd.2, HS.out H HH.out, hb.trans (b1.mono hb.size)⟩, by simp [intOf]; omega⟩
      · have hq1 := quo29 H ⟨h1, h2⟩
        have hq2 := quo29 (turnP H) (turnP_bd H)
        have hq3 := quo32 (turnP (turnP H)) (turnP_bd _)
        unfold turnP mulP at hq2 hq3
        go_wp2_with fail
        have hlb := lastP_bd H
        go_loop [7, 10] (fun hv iv => ∃ (i L : Int), widthP wd ≤ i ∧ i ≤ 8 ∧ 0 ≤ L ∧ L ≤ 18446744073709551615 ∧ Hid (L = lastP H / 256 ^ (i - widthP wd).toNat) ∧ iv = .int .i64 i ∧ hv = .int .u64 L) (fun _ iv => (8 - intOf iv).toNat)
        case atStart => exact ⟨_, lastP H, Int.le_of_eq HV.out, by omega, hlb.1, hlb.2, by show _ = _; rw [HV.out]; simp, rfl, rfl⟩
        case round =>
          obtain ⟨i, L, hi1, hi2, hL1, hL2, HL, rfl, rfl⟩ := hrel
          by_cases hi : i < 8
          · have hq := quo8 L ⟨hL1, hL2⟩
            go_wp2
            exact ⟨⟨i + 1, L / 256, by omega, by omega, by omega, by omega, last_step _ _ _ _ hi1 HL.out, by go_num, rfl⟩, by simp [intOf]; omega⟩
          · go_wp2
            go_ret
            have hfin : L = ofP wd tag ss := by
              obtain rfl : i = 8 := by omega
              unfold ofP; rw [HL.out, HH.out, List.take_of_length_le (by omega)]
            exact ⟨ret_u64 hfin, hb⟩


end Go.Proofs.YtaifkidpdmhciaaGreat
