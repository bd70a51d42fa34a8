/- The contracts of the digests of bytes (chapter 2, D1): what the program and what the answer make of a tag and of parts. -/
import Derived.Test.YtmhllihedejehaaGreatM00
namespace Go.Proofs.YtmhllihedejehaaGreat
open Go.RowKit
set_option linter.unusedVariables false

theorem ret_u64 {a b : Int} (h : a = b) : Ending.returned (.int .u64 a) = .returned (.int .u64 b) := by rw [h]
theorem ret_i64 {a b : Int} (h : a = b) : Ending.returned (.int .i64 a) = .returned (.int .i64 b) := by rw [h]

theorem be8_size (n : Int) : (⟨(be n 8).toArray⟩ : ByteArray).size ≤ maxLen := by
  have h := be_len n 8
  have e : (⟨(be n 8).toArray⟩ : ByteArray).size = 8 := by simp [ByteArray.size, h]
  rw [e]; unfold maxLen; omega

theorem stir_any (h b : Int) (w : World) (hh : 0 ≤ h ∧ h ≤ 18446744073709551615) (hb : 0 ≤ b ∧ b ≤ 255) :
    Calls Tryz.prog 83 #[.int .u64 h, .int .u8 b] w fun e w' => e = .returned (.int .u64 (stirP h b)) ∧ w = w' := by
  go_enter Tryz.func83, Tryz.ntmps83
  go_wp2
  go_ret
  exact ⟨rfl, rfl⟩

theorem quo32 (x : Int) (h : 0 ≤ x ∧ x ≤ 18446744073709551615) : IntKind.u64.wrap (x.tdiv 4294967296) = x / 4294967296 := by
  rw [Int.tdiv_eq_ediv_of_nonneg h.1, IntKind.wrap_u64]; omega
theorem quo29 (x : Int) (h : 0 ≤ x ∧ x ≤ 18446744073709551615) : IntKind.u64.wrap (x.tdiv 536870912) = x / 536870912 := by
  rw [Int.tdiv_eq_ediv_of_nonneg h.1, IntKind.wrap_u64]; omega

theorem rstir_any (h b : Int) (w : World) (hh : 0 ≤ h ∧ h ≤ 18446744073709551615) (hb : 0 ≤ b ∧ b ≤ 255) :
    Calls Tryz.prog 76 #[.int .u64 h, .int .u8 b] w fun e w' => e = .returned (.int .u64 (stirP h b)) ∧ w = w' := by
  have hq := quo32 (mulP (bits .xor .u64 h b)) (mulP_bd _)
  unfold mulP at hq
  go_enter Tryz.func76, Tryz.ntmps76
  go_wp2
  go_ret
  exact ⟨rfl, rfl⟩

set_option maxHeartbeats 400000 in
theorem stirAll_any (h : Int) (s : ByteArray) (w : World) (hh : 0 ≤ h ∧ h ≤ 18446744073709551615) (hs : s.size ≤ maxLen) :
    Calls Tryz.prog 84 #[.int .u64 h, .string s] w fun e w' => e = .returned (.int .u64 (stirs h s.data.toList)) ∧ w = w' := by
  unfold maxLen at hs
  go_enter Tryz.func84, Tryz.ntmps84
  go_wp2
  go_loop [0, 5, 8] (fun hv _ iv => ∃ (k : Nat) (H : Int), k ≤ s.size ∧ iv = .int .i64 k ∧ hv = .int .u64 H ∧ 0 ≤ H ∧ H ≤ 18446744073709551615 ∧ Hid (H = stirs h (s.data.toList.take k))) (fun _ _ iv => s.size - (intOf iv).toNat)
  case atStart => exact ⟨0, h, Nat.zero_le _, rfl, rfl, hh.1, hh.2, by show _ = _; simp [stirs]⟩
  case round =>
    obtain ⟨k, H, hk, rfl, rfl, h1, h2, HH⟩ := hrel
    by_cases hlt : k < s.size
    · have hb : 0 ≤ (s[k].toNat : Int) ∧ (s[k].toNat : Int) ≤ 255 := by have := s[k].toNat_lt; omega
      go_wp2_with fail
      refine (stir_any H _ _ ⟨h1, h2⟩ hb).mono ?_
      rintro e w' ⟨rfl, rfl⟩
      go_wp2
      have hbd := stirP_bd H (s[k].toNat : Int)
      exact ⟨⟨k + 1, stirP H (s[k].toNat : Int), by omega, by go_num, rfl, hbd.1, hbd.2, stirs_take h H s k hlt HH.out⟩, by simp [intOf]; omega⟩
    · go_wp2
      go_ret
      exact ⟨ret_u64 (by rw [HH.out, take_all s k (by omega)]), rfl⟩

set_option maxHeartbeats 400000 in
theorem rbytes_any (h : Int) (s : ByteArray) (w : World) (hh : 0 ≤ h ∧ h ≤ 18446744073709551615) (hs : s.size ≤ maxLen) :
    Calls Tryz.prog 77 #[.int .u64 h, .string s] w fun e w' => e = .returned (.int .u64 (stirs h s.data.toList)) ∧ w = w' := by
  unfold maxLen at hs
  go_enter Tryz.func77, Tryz.ntmps77
  go_wp2
  go_loop [0, 5] (fun hv iv => ∃ (k : Nat) (H : Int), k ≤ s.size ∧ iv = .int .i64 k ∧ hv = .int .u64 H ∧ 0 ≤ H ∧ H ≤ 18446744073709551615 ∧ Hid (H = stirs h (s.data.toList.take k))) (fun _ iv => s.size - (intOf iv).toNat)
  case atStart => exact ⟨0, h, Nat.zero_le _, rfl, rfl, hh.1, hh.2, by show _ = _; simp [stirs]⟩
  case round =>
    obtain ⟨k, H, hk, rfl, rfl, h1, h2, HH⟩ := hrel
    by_cases hlt : k < s.size
    · have hb : 0 ≤ (s[k].toNat : Int) ∧ (s[k].toNat : Int) ≤ 255 := by have := s[k].toNat_lt; omega
      go_wp2_with fail
      refine (rstir_any H _ _ ⟨h1, h2⟩ hb).mono ?_
      rintro e w' ⟨rfl, rfl⟩
      go_wp2
      have hbd := stirP_bd H (s[k].toNat : Int)
      exact ⟨⟨k + 1, stirP H (s[k].toNat : Int), by omega, by go_num, rfl, hbd.1, hbd.2, stirs_take h H s k hlt HH.out⟩, by simp [intOf]; omega⟩
    · go_wp2
      go_ret
      exact ⟨ret_u64 (by rw [HH.out, take_all s k (by omega)]), rfl⟩

theorem width_any (n : Int) (w : World) (hn : -9223372036854775808 ≤ n ∧ n ≤ 9223372036854775807) :
    Calls Tryz.prog 85 #[.int .i64 n] w fun e w' => e = .returned (.int .i64 (widthP n)) ∧ w = w' := by
  by_cases h1 : n < 1
  · have e : widthP n = 1 := by unfold widthP; rw [if_pos h1]
    rw [e]
    go_enter Tryz.func85, Tryz.ntmps85
    go_wp2
    go_ret
    exact ⟨rfl, rfl⟩
  · by_cases h8 : 8 < n
    · have e : widthP n = 8 := by unfold widthP; rw [if_neg h1, if_pos h8]
      rw [e]
      go_enter Tryz.func85, Tryz.ntmps85
      go_wp2
      go_ret
      exact ⟨rfl, rfl⟩
    · have e : widthP n = n := by unfold widthP; rw [if_neg h1, if_neg h8]
      rw [e]
      go_enter Tryz.func85, Tryz.ntmps85
      go_wp2
      go_ret
      exact ⟨rfl, rfl⟩

/-- A slice of texts in memory. -/
def Strs (w : World) (a : Option Addr) (ss : List ByteArray) : Prop :=
  (∀ s ∈ ss, s.size ≤ maxLen) ∧ (ss = [] ∨ ∃ b off, a = some ⟨b, off, none⟩ ∧ b < w.heap.size ∧ ∀ i (h : i < ss.length), w.cell? ⟨b, off + i, none⟩ = some (.string ss[i]))

theorem Strs.below {w w' : World} {a : Option Addr} {ss : List ByteArray} (h : Strs w a ss) (hb : Below w.heap.size w w') : Strs w' a ss := by
  refine ⟨h.1, ?_⟩
  rcases h.2 with e | ⟨b, off, rfl, hlt, hc⟩
  · exact .inl e
  · exact .inr ⟨b, off, rfl, Nat.lt_of_lt_of_le hlt hb.size, fun i hi => by rw [hb.cell (p := ⟨b, off + i, none⟩) hlt]; exact hc i hi⟩

set_option maxHeartbeats 800000 in
theorem of_any (wd tag : Int) (a : Option Addr) (len cap : Nat) (ss : List ByteArray) (w : World) (hw : -9223372036854775808 ≤ wd ∧ wd ≤ 9223372036854775807) (hl : ss.length = len) (hm : len ≤ maxLen) (hs : Strs w a ss) :
    Calls Tryz.prog 71 #[.int .i64 wd, .int .i64 tag, .slice a len cap] w fun e w' => e = .returned (.int .u64 (ofP wd tag ss)) ∧ Below w.heap.size w w' := by
  unfold maxLen at hm
  have hM : (0 : Int) ≤ 11400714819323198485 ∧ (11400714819323198485 : Int) ≤ 18446744073709551615 := by omega
  have htag : 0 ≤ tag % 256 ∧ tag % 256 ≤ 255 := by omega
  have hst := stirP_bd 11400714819323198485 (tag % 256)
  go_enter Tryz.func71, Tryz.ntmps71
  go_wp2_with fail
  refine (stir_any _ _ _ hM htag).mono ?_
  rintro e w' ⟨rfl, rfl⟩
  go_wp2_with fail
  go_loopw [7, 9, 15] (fun hv _ iv wv => ∃ (k : Nat) (H : Int), k ≤ len ∧ iv = .int .i64 k ∧ hv = .int .u64 H ∧ 0 ≤ H ∧ H ≤ 18446744073709551615 ∧ Hid (H = partsP (stirP 11400714819323198485 (tag % 256)) (ss.take k)) ∧ Below w.heap.size w wv) (fun _ _ iv _ => len - (intOf iv).toNat)
  case atStart => exact ⟨0, _, Nat.zero_le _, rfl, rfl, hst.1, hst.2, by show _ = _; simp [partsP], Below.refl _ _⟩
  case round =>
    obtain ⟨k, H, hk, rfl, rfl, h1, h2, HH, hb⟩ := hrel
    have hs' := hs.below hb
    by_cases hlt : k < len
    · have hkl : k < ss.length := by omega
      obtain ⟨hsz, h0 | ⟨b, off, rfl, hbl, hc⟩⟩ := hs'
      · subst h0; simp at hkl
      have hck := hc k hkl
      have hsk := hsz _ (List.getElem_mem hkl)
      have hstep := fun H' e => partsP_take (stirP 11400714819323198485 (tag % 256)) H' ss k hkl e
      have HS := show Hid (∀ H', H' = partsP (stirP 11400714819323198485 (tag % 256)) (ss.take k) → partP H' ss[k] = partsP (stirP 11400714819323198485 (tag % 256)) (ss.take (k + 1))) from hstep
      clear hstep hc hsz
      generalize ss[k] = s at *
      unfold maxLen at hsk
      have hbe := be8_size (s.size : Int)
      go_wp2_with fail
      refine (weight _ _ (by omega)).mono ?_
      rintro e w1 ⟨rfl, b1⟩
      go_wp2_with fail
      refine (stirAll_any H _ _ ⟨h1, h2⟩ hbe).mono ?_
      rintro e w2 ⟨rfl, rfl⟩
      go_wp2_with fail
      refine (stirAll_any _ s _ (stirs_bd _ _ ⟨h1, h2⟩) hsk).mono ?_
      rintro e w2 ⟨rfl, rfl⟩
      go_wp2
      have hbd := partP_bd H s ⟨h1, h2⟩
      exact ⟨⟨k + 1, partP H s, by omega, by go_num, rfl, hbd.1, hbd.2, HS.out H HH.out, hb.trans (b1.mono hb.size)⟩, by simp [intOf]; omega⟩
    · have hT := turnP_bd H
      have hT2 := turnP_bd (turnP H)
      have hwd := widthP_bd wd
      go_wp2_with fail
      refine wp_loop_rounds 3 ?_
      iterate 3 (rw [rounds_succ]; go_wp2_with fail)
      refine (width_any _ _ hw).mono ?_
      rintro e w2 ⟨rfl, rfl⟩
      go_wp2
      go_ret
      have hfin : lastP H / 2 ^ (64 - 8 * widthP wd).toNat = ofP wd tag ss := by
        unfold ofP; rw [shift_pow, HH.out, List.take_of_length_le (by omega)]
      exact ⟨ret_u64 hfin, hb⟩

theorem quo8 (x : Int) (h : 0 ≤ x ∧ x ≤ 18446744073709551615) : IntKind.u64.wrap (x.tdiv 256) = x / 256 := by
  rw [Int.tdiv_eq_ediv_of_nonneg h.1, IntKind.wrap_u64]; omega

theorem last_step (L X i v : Int) (h : v ≤ i) (e : L = X / 256 ^ (i - v).toNat) : L / 256 = X / 256 ^ (i + 1 - v).toNat := by
  rw [e, div_step, show (i + 1 - v).toNat = (i - v).toNat + 1 by omega]

set_option maxHeartbeats 1600000 in
theorem rof_any (wd tag : Int) (a : Option Addr) (len cap : Nat) (ss : List ByteArray) (w : World) (hw : -9223372036854775808 ≤ wd ∧ wd ≤ 9223372036854775807) (hl : ss.length = len) (hm : len ≤ maxLen) (hs : Strs w a ss) :
    Calls Tryz.prog 52 #[.int .i64 wd, .int .i64 tag, .slice a len cap] w fun e w' => e = .returned (.int .u64 (ofP wd tag ss)) ∧ Below w.heap.size w w' := by
  unfold maxLen at hm
  have hM : (0 : Int) ≤ 11400714819323198485 ∧ (11400714819323198485 : Int) ≤ 18446744073709551615 := by omega
  have htag : 0 ≤ tag % 256 ∧ tag % 256 ≤ 255 := by omega
  have hst := stirP_bd 11400714819323198485 (tag % 256)
  have hcase : (wd < 1 ∧ Hid (widthP wd = 1)) ∨ (¬ wd < 1 ∧ 8 < wd ∧ Hid (widthP wd = 8)) ∨ (¬ wd < 1 ∧ ¬ 8 < wd ∧ Hid (widthP wd = wd)) := by
    by_cases h1 : wd < 1
    · exact .inl ⟨h1, show widthP wd = 1 by unfold widthP; rw [if_pos h1]⟩
    · by_cases h8 : 8 < wd
      · exact .inr (.inl ⟨h1, h8, show widthP wd = 8 by unfold widthP; rw [if_neg h1, if_pos h8]⟩)
      · exact .inr (.inr ⟨h1, h8, show widthP wd = wd by unfold widthP; rw [if_neg h1, if_neg h8]⟩)
  have hwd := widthP_bd wd
  rcases hcase with ⟨g1, HV⟩ | ⟨g1, g2, HV⟩ | ⟨g1, g2, HV⟩
  all_goals
    go_enter Tryz.func52, Tryz.ntmps52
    go_wp2_with fail
    refine (rstir_any _ _ _ hM htag).mono ?_
    rintro e w' ⟨rfl, rfl⟩
    go_wp2_with fail
    go_loopw [7, 8, 9] (fun hv iv _ wv => ∃ (k : Nat) (H : Int), k ≤ len ∧ iv = .int .i64 k ∧ hv = .int .u64 H ∧ 0 ≤ H ∧ H ≤ 18446744073709551615 ∧ Hid (H = partsP (stirP 11400714819323198485 (tag % 256)) (ss.take k)) ∧ Below w.heap.size w wv) (fun _ iv _ _ => len - (intOf iv).toNat)
    case atStart => exact ⟨0, _, Nat.zero_le _, rfl, rfl, hst.1, hst.2, by show _ = _; simp [partsP], Below.refl _ _⟩
    case round =>
      obtain ⟨k, H, hk, rfl, rfl, h1, h2, HH, hb⟩ := hrel
      have hs' := hs.below hb
      by_cases hlt : k < len
      · have hkl : k < ss.length := by omega
        obtain ⟨hsz, h0 | ⟨b, off, rfl, hbl, hc⟩⟩ := hs'
        · subst h0; simp at hkl
        have hck := hc k hkl
        have hsk := hsz _ (List.getElem_mem hkl)
        have hstep := fun H' e => partsP_take (stirP 11400714819323198485 (tag % 256)) H' ss k hkl e
        have HS := show Hid (∀ H', H' = partsP (stirP 11400714819323198485 (tag % 256)) (ss.take k) → partP H' ss[k] = partsP (stirP 11400714819323198485 (tag % 256)) (ss.take (k + 1))) from hstep
        clear hstep hc hsz
        generalize ss[k] = s at *
        unfold maxLen at hsk
        have hbe := be8_size (s.size : Int)
        go_wp2_with fail
        refine (reight _ _ (by omega)).mono ?_
        rintro e w1 ⟨rfl, b1⟩
        go_wp2_with fail
        refine (rbytes_any H _ _ ⟨h1, h2⟩ hbe).mono ?_
        rintro e w2 ⟨rfl, rfl⟩
        have hck1 : w1.cell? ⟨b, off + k, none⟩ = some (.string s) := by rw [b1.cell (p := ⟨b, off + k, none⟩) hbl]; exact hck
        go_wp2_with fail
        refine (rbytes_any _ s _ (stirs_bd _ _ ⟨h1, h2⟩) hsk).mono ?_
        rintro e w2 ⟨rfl, rfl⟩
        go_wp2
        have hbd := partP_bd H s ⟨h1, h2⟩
        exact ⟨⟨k + 1, partP H s, by omega, by go_num, rfl, hbd.1, hbd.2, HS.out H HH.out, hb.trans (b1.mono hb.size)⟩, by simp [intOf]; omega⟩
      · have hq1 := quo29 H ⟨h1, h2⟩
        have hq2 := quo29 (turnP H) (turnP_bd H)
        have hq3 := quo32 (turnP (turnP H)) (turnP_bd _)
        unfold turnP mulP at hq2 hq3
        go_wp2_with fail
        have hlb := lastP_bd H
        go_loop [7, 10] (fun hv iv => ∃ (i L : Int), widthP wd ≤ i ∧ i ≤ 8 ∧ 0 ≤ L ∧ L ≤ 18446744073709551615 ∧ Hid (L = lastP H / 256 ^ (i - widthP wd).toNat) ∧ iv = .int .i64 i ∧ hv = .int .u64 L) (fun _ iv => (8 - intOf iv).toNat)
        case atStart => exact ⟨_, lastP H, Int.le_of_eq HV.out, by omega, hlb.1, hlb.2, by show _ = _; rw [HV.out]; simp, rfl, rfl⟩
        case round =>
          obtain ⟨i, L, hi1, hi2, hL1, hL2, HL, rfl, rfl⟩ := hrel
          by_cases hi : i < 8
          · have hq := quo8 L ⟨hL1, hL2⟩
            go_wp2
            exact ⟨⟨i + 1, L / 256, by omega, by omega, by omega, by omega, last_step _ _ _ _ hi1 HL.out, by go_num, rfl⟩, by simp [intOf]; omega⟩
          · go_wp2
            go_ret
            have hfin : L = ofP wd tag ss := by
              obtain rfl : i = 8 := by omega
              unfold ofP; rw [HL.out, HH.out, List.take_of_length_le (by omega)]
            exact ⟨ret_u64 hfin, hb⟩

set_option maxHeartbeats 400000 in
theorem ofImage_any (wd tag : Int) (a : Option Addr) (len cap : Nat) (ss : List ByteArray) (w : World) (hw : -9223372036854775808 ≤ wd ∧ wd ≤ 9223372036854775807) (hl : ss.length = len) (hm : len ≤ maxLen) (hs : Strs w a ss) :
    Calls Tryz.prog 42 #[.int .i64 wd, .agg #[.int .i64 tag, .slice a len cap]] w fun e w' => e = .returned (.int .u64 (ofP wd tag ss)) ∧ Below w.heap.size w w' := by
  go_enter Tryz.func42, Tryz.ntmps42
  go_wp2_with fail
  refine (of_any wd tag a len cap ss _ hw hl hm (hs.below ((Below.refl _ _).alloc (Nat.le_refl _) _))).mono ?_
  rintro e w1 ⟨rfl, b1⟩
  go_wp2
  go_ret
  exact ⟨rfl, ((Below.refl _ _).alloc (Nat.le_refl _) _).trans (b1.mono (by simp))⟩
end Go.Proofs.YtmhllihedejehaaGreat
