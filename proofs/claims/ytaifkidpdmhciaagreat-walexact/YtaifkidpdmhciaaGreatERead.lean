/- Frames that are read. -/
import Derived.Test.YtaifkidpdmhciaaGreatEFrame
namespace Go.Proofs.YtaifkidpdmhciaaGreat
open Go.RowKit
set_option linter.unusedVariables false
set_option linter.unusedSimpArgs false

theorem RZ_one : RZ.all (·.oneCell') = true := by simp [RZ, Value.oneCell']
theorem wrapI (n : Int) (h1 : -9223372036854775808 ≤ n) (h2 : n ≤ 9223372036854775807) : IntKind.i64.wrap n = n := by
  simp [IntKind.wrap, IntKind.min, IntKind.max, IntKind.signed, IntKind.bits]
  omega

set_option maxRecDepth 8000 in
set_option maxHeartbeats 3200000 in
theorem readFrame_few (s : List UInt8) (w : World) (hs : s.length < 12) :
    Calls Tryz.prog 27 #[.string ⟨s.toArray⟩] w fun e w' => e = .returned (.tuple #[.agg RZ, .int .i64 0]) ∧ Below w.heap.size w w' := by
  have sz := str_size' s
  have hlt : (s.length : Int) < 12 := by omega
  have kR := Blk.new w #[.int .i64 0, .int .i64 0, .int .i64 0, .int .i64 0, .bool false, .int .u64 0, .int .i64 0, .int .i64 0, .int .i64 0, .int .i64 0, .int .i64 0, .int .u64 0, .int .u64 0, .int .u64 0, .int .u64 0, .int .u64 0, .int .u64 0, .int .i64 0, .slice none 0 0, .slice none 0 0, .slice none 0 0, .int .i64 0, .int .i64 0, .int .i64 0, .bool false, .int .u64 0, .slice none 0 0, .int .i64 0, .int .i64 0, .int .u64 0, .int .u64 0, .int .u64 0, .int .u64 0, .int .u64 0, .int .u64 0, .int .i64 0, .slice none 0 0, .slice none 0 0] 57
  have bR : Below w.heap.size w (w.alloc (.cells #[.int .i64 0, .int .i64 0, .int .i64 0, .int .i64 0, .bool false, .int .u64 0, .int .i64 0, .int .i64 0, .int .i64 0, .int .i64 0, .int .i64 0, .int .u64 0, .int .u64 0, .int .u64 0, .int .u64 0, .int .u64 0, .int .u64 0, .int .i64 0, .slice none 0 0, .slice none 0 0, .slice none 0 0, .int .i64 0, .int .i64 0, .int .i64 0, .bool false, .int .u64 0, .slice none 0 0, .int .i64 0, .int .i64 0, .int .u64 0, .int .u64 0, .int .u64 0, .int .u64 0, .int .u64 0, .int .u64 0, .int .i64 0, .slice none 0 0, .slice none 0 0] 57)) := (Below.refl _ _).alloc (Nat.le_refl _) _
  go_enter Tryz.func27, Tryz.ntmps27
  go_upto_region 2 with fail
  generalize w.alloc (.cells #[.int .i64 0, .int .i64 0, .int .i64 0, .int .i64 0, .bool false, .int .u64 0, .int .i64 0, .int .i64 0, .int .i64 0, .int .i64 0, .int .i64 0, .int .u64 0, .int .u64 0, .int .u64 0, .int .u64 0, .int .u64 0, .int .u64 0, .int .i64 0, .slice none 0 0, .slice none 0 0, .slice none 0 0, .int .i64 0, .int .i64 0, .int .i64 0, .bool false, .int .u64 0, .slice none 0 0, .int .i64 0, .int .i64 0, .int .u64 0, .int .u64 0, .int .u64 0, .int .u64 0, .int .u64 0, .int .u64 0, .int .i64 0, .slice none 0 0, .slice none 0 0] 57) = w1 at *
  refine wp_region_list ?_
  refine wpList_plain rfl (fun K hK => ?_)
  go_simp
  refine hK _ _ ?_
  clear hK K
  refine wpList_store_mid rfl 57 _ _ rfl w.heap.size 0 RZ rfl rfl (kR.there 38 (by decide)) (by kernel_rfl) RZ_one ?_
  refine wpList_plain rfl (fun K hK => ?_)
  go_simp
  refine hK _ _ ?_
  clear hK K
  refine wpList_nil ?_
  simp only [Exit.then]
  have hR := World.rangeAt_setCells_same w1 w.heap.size 0 RZ.toList (kR.there _ (by decide))
  have hB := (but_setCells w.heap.size RZ.toList 0 w1).below (B := w.heap.size) bR.size (fun k hk => by omega)
  generalize w1.setCells w.heap.size 0 RZ.toList = w11 at *
  have hld := run_loadVar_mid (P := Tryz.prog) w11 w.heap.size 0 57 RZ.toList _ hR Tryz.underlying57 rfl (by kernel_rfl)
  rw [Array.toArray_toList] at hld
  go_wp2
  exact bodyPost_ret (v := .tuple #[.agg RZ, .int .i64 0]) (by simp [results, Tryz.results27, asAddr, hld]) rfl ⟨rfl, bR.trans hB⟩

set_option maxRecDepth 8000 in
set_option maxHeartbeats 3200000 in
theorem readFrame_torn (s : List UInt8) (L : Nat) (w : World) (hs : 12 ≤ s.length) (hsm : s.length ≤ 1099511627000) (hL : L < 256) (x0 : ∀ h : 0 < (⟨s.toArray⟩ : ByteArray).size, ((⟨s.toArray⟩ : ByteArray)[0]'h).toNat = 0) (x1 : ∀ h : 1 < (⟨s.toArray⟩ : ByteArray).size, ((⟨s.toArray⟩ : ByteArray)[1]'h).toNat = 0) (x2 : ∀ h : 2 < (⟨s.toArray⟩ : ByteArray).size, ((⟨s.toArray⟩ : ByteArray)[2]'h).toNat = 0) (x3 : ∀ h : 3 < (⟨s.toArray⟩ : ByteArray).size, ((⟨s.toArray⟩ : ByteArray)[3]'h).toNat = L) (ht : s.length < 12 + L) :
    Calls Tryz.prog 27 #[.string ⟨s.toArray⟩] w fun e w' => e = .returned (.tuple #[.agg RZ, .int .i64 0]) ∧ Below w.heap.size w w' := by
  have sz := str_size' s
  have hlt : ¬ (s.length : Int) < 12 := by omega
  have kR := Blk.new w #[.int .i64 0, .int .i64 0, .int .i64 0, .int .i64 0, .bool false, .int .u64 0, .int .i64 0, .int .i64 0, .int .i64 0, .int .i64 0, .int .i64 0, .int .u64 0, .int .u64 0, .int .u64 0, .int .u64 0, .int .u64 0, .int .u64 0, .int .i64 0, .slice none 0 0, .slice none 0 0, .slice none 0 0, .int .i64 0, .int .i64 0, .int .i64 0, .bool false, .int .u64 0, .slice none 0 0, .int .i64 0, .int .i64 0, .int .u64 0, .int .u64 0, .int .u64 0, .int .u64 0, .int .u64 0, .int .u64 0, .int .i64 0, .slice none 0 0, .slice none 0 0] 57
  have bR : Below w.heap.size w (w.alloc (.cells #[.int .i64 0, .int .i64 0, .int .i64 0, .int .i64 0, .bool false, .int .u64 0, .int .i64 0, .int .i64 0, .int .i64 0, .int .i64 0, .int .i64 0, .int .u64 0, .int .u64 0, .int .u64 0, .int .u64 0, .int .u64 0, .int .u64 0, .int .i64 0, .slice none 0 0, .slice none 0 0, .slice none 0 0, .int .i64 0, .int .i64 0, .int .i64 0, .bool false, .int .u64 0, .slice none 0 0, .int .i64 0, .int .i64 0, .int .u64 0, .int .u64 0, .int .u64 0, .int .u64 0, .int .u64 0, .int .u64 0, .int .i64 0, .slice none 0 0, .slice none 0 0] 57)) := (Below.refl _ _).alloc (Nat.le_refl _) _
  go_enter Tryz.func27, Tryz.ntmps27
  go_upto_region 3 with fail
  generalize w.alloc (.cells #[.int .i64 0, .int .i64 0, .int .i64 0, .int .i64 0, .bool false, .int .u64 0, .int .i64 0, .int .i64 0, .int .i64 0, .int .i64 0, .int .i64 0, .int .u64 0, .int .u64 0, .int .u64 0, .int .u64 0, .int .u64 0, .int .u64 0, .int .i64 0, .slice none 0 0, .slice none 0 0, .slice none 0 0, .int .i64 0, .int .i64 0, .int .i64 0, .bool false, .int .u64 0, .slice none 0 0, .int .i64 0, .int .i64 0, .int .u64 0, .int .u64 0, .int .u64 0, .int .u64 0, .int .u64 0, .int .u64 0, .int .i64 0, .slice none 0 0, .slice none 0 0] 57) = w1 at *
  go_wp2_with fail

  go_loopw [4, 5, 12] (fun ev _ iv wv => ∃ i : Nat, i ≤ 4 ∧ iv = .int .i64 i ∧ ev = .int .i64 (if i = 4 then 12 + (L : Int) else 12) ∧ w1 = wv) (fun _ _ iv _ => 4 - (intOf iv).toNat)
  case atStart => exact ⟨0, by omega, rfl, rfl, rfl⟩
  case round =>
    obtain ⟨i, hi, rfl, rfl, rfl⟩ := hrel
    have hL1 : wrap64 (L : Int) = (L : Int) := by unfold wrap64; omega
    have hL2 : wrap64 (12 + (L : Int)) = 12 + (L : Int) := by unfold wrap64; omega
    have hL3 : IntKind.i64.wrap (L : Int) = (L : Int) := wrapI _ (by omega) (by omega)
    have hL4 : IntKind.i64.wrap (12 + (L : Int)) = 12 + (L : Int) := wrapI _ (by omega) (by omega)
    rcases (show i = 0 ∨ i = 1 ∨ i = 2 ∨ i = 3 ∨ i = 4 by omega) with rfl | rfl | rfl | rfl | rfl
    · simp only [Nat.reduceEqDiff, if_false]
      go_wp2
      exact ⟨⟨1, by omega, rfl, by simp, trivial⟩, by simp [intOf]⟩
    · simp only [Nat.reduceEqDiff, if_false]
      go_wp2
      exact ⟨⟨2, by omega, rfl, by simp, trivial⟩, by simp [intOf]⟩
    · simp only [Nat.reduceEqDiff, if_false]
      go_wp2
      exact ⟨⟨3, by omega, rfl, by simp, trivial⟩, by simp [intOf]⟩
    · simp only [Nat.reduceEqDiff, if_false]
      go_wp2
      exact ⟨⟨4, by omega, rfl, by simp, trivial⟩, by simp [intOf]⟩
    simp only [if_true]
    have hlt2 : (s.length : Int) < 12 + (L : Int) := by omega
    go_upto_region 10 with fail
    refine wp_region_list ?_
    refine wpList_plain rfl (fun K hK => ?_)
    go_simp
    refine hK _ _ ?_
    clear hK K
    refine wpList_store_mid rfl 57 _ _ rfl w.heap.size 0 RZ rfl rfl (kR.there 38 (by decide)) (by kernel_rfl) RZ_one ?_
    refine wpList_plain rfl (fun K hK => ?_)
    go_simp
    refine hK _ _ ?_
    clear hK K
    refine wpList_nil ?_
    simp only [Exit.then]
    have hR := World.rangeAt_setCells_same w1 w.heap.size 0 RZ.toList (kR.there _ (by decide))
    have hB := (but_setCells w.heap.size RZ.toList 0 w1).below (B := w.heap.size) bR.size (fun k hk => by omega)
    generalize w1.setCells w.heap.size 0 RZ.toList = w11 at *
    have hld := run_loadVar_mid (P := Tryz.prog) w11 w.heap.size 0 57 RZ.toList _ hR Tryz.underlying57 rfl (by kernel_rfl)
    rw [Array.toArray_toList] at hld
    go_wp2
    exact bodyPost_ret (v := .tuple #[.agg RZ, .int .i64 0]) (by simp [results, Tryz.results27, asAddr, hld]) rfl ⟨rfl, bR.trans hB⟩

set_option maxRecDepth 8000 in
set_option maxHeartbeats 3200000 in
theorem readFrame_full (s : List UInt8) (L : Nat) (w : World) (hs : 12 ≤ s.length) (hsm : s.length ≤ 1099511627000) (hL : L < 256) (x0 : ∀ h : 0 < (⟨s.toArray⟩ : ByteArray).size, ((⟨s.toArray⟩ : ByteArray)[0]'h).toNat = 0) (x1 : ∀ h : 1 < (⟨s.toArray⟩ : ByteArray).size, ((⟨s.toArray⟩ : ByteArray)[1]'h).toNat = 0) (x2 : ∀ h : 2 < (⟨s.toArray⟩ : ByteArray).size, ((⟨s.toArray⟩ : ByteArray)[2]'h).toNat = 0) (x3 : ∀ h : 3 < (⟨s.toArray⟩ : ByteArray).size, ((⟨s.toArray⟩ : ByteArray)[3]'h).toNat = L) (l : List UInt8) (r : List UInt8) (h rd sg : Int) (has : Bool) (bl f : Int) (hll : l.length = L) (hsl : s = frB l ++ r) (hbody : l = recBy h rd sg has bl f) (hh : 0 ≤ h ∧ h ≤ 1099511627775) (hr : 0 ≤ rd ∧ rd ≤ 1099511627775) (hsg : 0 ≤ sg ∧ sg ≤ 1099511627775) (hbl : 0 ≤ bl ∧ bl ≤ 18446744073709551615) (hf : 0 ≤ f ∧ f ≤ 1099511627775) (hm : mayVoteP sg has bl f = true) :
    Calls Tryz.prog 27 #[.string ⟨s.toArray⟩] w fun e w' => e = .returned (.tuple #[.agg (RC h rd sg has bl f), .int .i64 (12 + L : Nat)]) ∧ Below w.heap.size w w' := by
  have KG := fun w' => getRecord_v h rd sg has bl f w' hh hr hsg hbl hf hm
  rw [← hbody] at KG
  have KF := fun w' => frame_any l w' (by omega)
  have KH := fun w' => hasPre_v (frB l) r w' (by rw [frB_len]; omega) (by have := congrArg List.length hsl; rw [List.length_append] at this; omega)
  rw [← hsl] at KH
  have hsz12 : 12 + L ≤ s.length := by rw [hsl, List.length_append, frB_len]; omega
  have hex : (⟨s.toArray⟩ : ByteArray).extract 12 (12 + L) = ⟨l.toArray⟩ := by
    apply ByteArray.ext
    rw [ByteArray.data_extract]
    apply Array.ext'
    simp only [Array.toList_extract, List.toList_toArray, List.extract_eq_take_drop]
    rw [hsl, show 12 + L - 12 = L by omega]
    have e : (frB l ++ r).drop 12 = l ++ r := by
      unfold frB
      rw [List.append_assoc, List.append_assoc, List.drop_append, be_len, List.drop_of_length_le (by rw [be_len]; omega), List.nil_append]
      rw [List.drop_append, be_len, List.drop_of_length_le (by rw [be_len]; omega), List.nil_append]
      rfl
    rw [e, ← hll, List.take_left]
  have hCn := RC_size' h rd sg has bl f
  have hC1 := RC_one h rd sg has bl f
  obtain ⟨C, HC⟩ : ∃ C, Hid (C = RC h rd sg has bl f) := ⟨_, rfl⟩
  rw [← HC.out] at hCn hC1 KG
  clear hsl hbody hll hh hr hsg hbl hf hm
  have sz := str_size' s
  have hlt : ¬ (s.length : Int) < 12 := by omega
  have kR := Blk.new w #[.int .i64 0, .int .i64 0, .int .i64 0, .int .i64 0, .bool false, .int .u64 0, .int .i64 0, .int .i64 0, .int .i64 0, .int .i64 0, .int .i64 0, .int .u64 0, .int .u64 0, .int .u64 0, .int .u64 0, .int .u64 0, .int .u64 0, .int .i64 0, .slice none 0 0, .slice none 0 0, .slice none 0 0, .int .i64 0, .int .i64 0, .int .i64 0, .bool false, .int .u64 0, .slice none 0 0, .int .i64 0, .int .i64 0, .int .u64 0, .int .u64 0, .int .u64 0, .int .u64 0, .int .u64 0, .int .u64 0, .int .i64 0, .slice none 0 0, .slice none 0 0] 57
  have bR : Below w.heap.size w (w.alloc (.cells #[.int .i64 0, .int .i64 0, .int .i64 0, .int .i64 0, .bool false, .int .u64 0, .int .i64 0, .int .i64 0, .int .i64 0, .int .i64 0, .int .i64 0, .int .u64 0, .int .u64 0, .int .u64 0, .int .u64 0, .int .u64 0, .int .u64 0, .int .i64 0, .slice none 0 0, .slice none 0 0, .slice none 0 0, .int .i64 0, .int .i64 0, .int .i64 0, .bool false, .int .u64 0, .slice none 0 0, .int .i64 0, .int .i64 0, .int .u64 0, .int .u64 0, .int .u64 0, .int .u64 0, .int .u64 0, .int .u64 0, .int .i64 0, .slice none 0 0, .slice none 0 0] 57)) := (Below.refl _ _).alloc (Nat.le_refl _) _
  go_enter Tryz.func27, Tryz.ntmps27
  go_upto_region 3 with fail
  generalize w.alloc (.cells #[.int .i64 0, .int .i64 0, .int .i64 0, .int .i64 0, .bool false, .int .u64 0, .int .i64 0, .int .i64 0, .int .i64 0, .int .i64 0, .int .i64 0, .int .u64 0, .int .u64 0, .int .u64 0, .int .u64 0, .int .u64 0, .int .u64 0, .int .i64 0, .slice none 0 0, .slice none 0 0, .slice none 0 0, .int .i64 0, .int .i64 0, .int .i64 0, .bool false, .int .u64 0, .slice none 0 0, .int .i64 0, .int .i64 0, .int .u64 0, .int .u64 0, .int .u64 0, .int .u64 0, .int .u64 0, .int .u64 0, .int .i64 0, .slice none 0 0, .slice none 0 0] 57) = w1 at *
  go_wp2_with fail

  go_loopw [4, 5, 12] (fun ev _ iv wv => ∃ i : Nat, i ≤ 4 ∧ iv = .int .i64 i ∧ ev = .int .i64 (if i = 4 then 12 + (L : Int) else 12) ∧ w1 = wv) (fun _ _ iv _ => 4 - (intOf iv).toNat)
  case atStart => exact ⟨0, by omega, rfl, rfl, rfl⟩
  case round =>
    obtain ⟨i, hi, rfl, rfl, rfl⟩ := hrel
    have hL1 : wrap64 (L : Int) = (L : Int) := by unfold wrap64; omega
    have hL2 : wrap64 (12 + (L : Int)) = 12 + (L : Int) := by unfold wrap64; omega
    have hL3 : IntKind.i64.wrap (L : Int) = (L : Int) := wrapI _ (by omega) (by omega)
    have hL4 : IntKind.i64.wrap (12 + (L : Int)) = 12 + (L : Int) := wrapI _ (by omega) (by omega)
    rcases (show i = 0 ∨ i = 1 ∨ i = 2 ∨ i = 3 ∨ i = 4 by omega) with rfl | rfl | rfl | rfl | rfl
    · simp only [Nat.reduceEqDiff, if_false]
      go_wp2
      exact ⟨⟨1, by omega, rfl, by simp, trivial⟩, by simp [intOf]⟩
    · simp only [Nat.reduceEqDiff, if_false]
      go_wp2
      exact ⟨⟨2, by omega, rfl, by simp, trivial⟩, by simp [intOf]⟩
    · simp only [Nat.reduceEqDiff, if_false]
      go_wp2
      exact ⟨⟨3, by omega, rfl, by simp, trivial⟩, by simp [intOf]⟩
    · simp only [Nat.reduceEqDiff, if_false]
      go_wp2
      exact ⟨⟨4, by omega, rfl, by simp, trivial⟩, by simp [intOf]⟩
    simp only [if_true]
    have hlt2 : ¬ (s.length : Int) < 12 + (L : Int) := by omega
    have ht1 : (12 + (L : Int)).toNat = 12 + L := by omega
    have hb1 : (12 : Int) ≤ 12 + (L : Int) ∧ 12 + (L : Int) ≤ (s.length : Int) := by omega
    go_wp2_with fail
    refine (KF w1).mono ?_
    rintro e w2 ⟨rfl, b2⟩
    go_wp2_with fail
    refine (KH w2).mono ?_
    rintro e w2' ⟨rfl, rfl⟩
    have kR2 := kR.below b2 kR.lt
    have B2 := bR.trans (b2.mono bR.size)
    clear kR bR b2 KF KH x0 x1 x2 x3
    go_upto_region 11 with fail
    refine wp_region_list ?_
    refine wpList_plain rfl (fun K hK => ?_)
    go_simp
    refine hK _ _ ?_
    clear hK K
    refine wpList_plain rfl (fun K hK => ?_)
    go_simp
    refine hK _ _ ?_
    clear hK K
    refine wpList_plain rfl (fun K hK => ?_)
    go_simp
    refine hK _ _ ?_
    clear hK K
    refine wpList_on (by kernel_rfl) (fun K hK => ?_)
    go_simp
    refine (KG w2).mono ?_
    rintro e w3 ⟨rfl, b3⟩
    refine hK _ _ ?_
    clear hK K
    refine wpList_plain rfl (fun K hK => ?_)
    go_simp
    refine hK _ _ ?_
    clear hK K
    refine wpList_plain rfl (fun K hK => ?_)
    go_simp
    refine hK _ _ ?_
    clear hK K
    refine wpList_plain rfl (fun K hK => ?_)
    go_simp
    refine hK _ _ ?_
    clear hK K
    refine wpList_plain rfl (fun K hK => ?_)
    go_simp
    refine hK _ _ ?_
    clear hK K
    have kN := Blk.new w3 #[.int .i64 0, .int .i64 0, .int .i64 0, .int .i64 0, .bool false, .int .u64 0, .int .i64 0, .int .i64 0, .int .i64 0, .int .i64 0, .int .i64 0, .int .u64 0, .int .u64 0, .int .u64 0, .int .u64 0, .int .u64 0, .int .u64 0, .int .i64 0, .slice none 0 0, .slice none 0 0, .slice none 0 0, .int .i64 0, .int .i64 0, .int .i64 0, .bool false, .int .u64 0, .slice none 0 0, .int .i64 0, .int .i64 0, .int .u64 0, .int .u64 0, .int .u64 0, .int .u64 0, .int .u64 0, .int .u64 0, .int .i64 0, .slice none 0 0, .slice none 0 0] 57
    have kR3 := (kR2.below b3 kR2.lt).alloc (.cells #[.int .i64 0, .int .i64 0, .int .i64 0, .int .i64 0, .bool false, .int .u64 0, .int .i64 0, .int .i64 0, .int .i64 0, .int .i64 0, .int .i64 0, .int .u64 0, .int .u64 0, .int .u64 0, .int .u64 0, .int .u64 0, .int .u64 0, .int .i64 0, .slice none 0 0, .slice none 0 0, .slice none 0 0, .int .i64 0, .int .i64 0, .int .i64 0, .bool false, .int .u64 0, .slice none 0 0, .int .i64 0, .int .i64 0, .int .u64 0, .int .u64 0, .int .u64 0, .int .u64 0, .int .u64 0, .int .u64 0, .int .i64 0, .slice none 0 0, .slice none 0 0] 57)
    have B3 := B2.trans (b3.mono B2.size)
    have B4 := B3.alloc B3.size (.cells #[.int .i64 0, .int .i64 0, .int .i64 0, .int .i64 0, .bool false, .int .u64 0, .int .i64 0, .int .i64 0, .int .i64 0, .int .i64 0, .int .i64 0, .int .u64 0, .int .u64 0, .int .u64 0, .int .u64 0, .int .u64 0, .int .u64 0, .int .i64 0, .slice none 0 0, .slice none 0 0, .slice none 0 0, .int .i64 0, .int .i64 0, .int .i64 0, .bool false, .int .u64 0, .slice none 0 0, .int .i64 0, .int .i64 0, .int .u64 0, .int .u64 0, .int .u64 0, .int .u64 0, .int .u64 0, .int .u64 0, .int .i64 0, .slice none 0 0, .slice none 0 0] 57)
    have hz3 := (kR2.below b3 kR2.lt).lt
    clear kR2 b3 B2 KG
    generalize w3.alloc (.cells #[.int .i64 0, .int .i64 0, .int .i64 0, .int .i64 0, .bool false, .int .u64 0, .int .i64 0, .int .i64 0, .int .i64 0, .int .i64 0, .int .i64 0, .int .u64 0, .int .u64 0, .int .u64 0, .int .u64 0, .int .u64 0, .int .u64 0, .int .i64 0, .slice none 0 0, .slice none 0 0, .slice none 0 0, .int .i64 0, .int .i64 0, .int .i64 0, .bool false, .int .u64 0, .slice none 0 0, .int .i64 0, .int .i64 0, .int .u64 0, .int .u64 0, .int .u64 0, .int .u64 0, .int .u64 0, .int .u64 0, .int .i64 0, .slice none 0 0, .slice none 0 0] 57) = w4 at *
    generalize w3.heap.size = nb at *
    refine wpList_store_mid rfl 57 _ _ rfl nb 0 C rfl rfl (kN.there C.size (by rw [hCn]; decide)) (by rw [hCn]; kernel_rfl) hC1 ?_
    refine wpList_plain rfl (fun K hK => ?_)
    go_simp
    refine hK _ _ ?_
    clear hK K
    refine wpList_nil ?_
    simp only [Exit.then]
    have hR4 := World.rangeAt_setCells_same w4 nb 0 C.toList (kN.there _ (by rw [Array.length_toList, hCn]; decide))
    have hBt := but_setCells nb C.toList 0 w4
    have hB4 := hBt.below (B := w.heap.size) B4.size (fun k hk => by omega)
    have kR4 : Blk (w4.setCells nb 0 C.toList) w.heap.size #[.int .i64 0, .int .i64 0, .int .i64 0, .int .i64 0, .bool false, .int .u64 0, .int .i64 0, .int .i64 0, .int .i64 0, .int .i64 0, .int .i64 0, .int .u64 0, .int .u64 0, .int .u64 0, .int .u64 0, .int .u64 0, .int .u64 0, .int .i64 0, .slice none 0 0, .slice none 0 0, .slice none 0 0, .int .i64 0, .int .i64 0, .int .i64 0, .bool false, .int .u64 0, .slice none 0 0, .int .i64 0, .int .i64 0, .int .u64 0, .int .u64 0, .int .u64 0, .int .u64 0, .int .u64 0, .int .u64 0, .int .i64 0, .slice none 0 0, .slice none 0 0] 57 := hBt.blk kR3 (by omega)
    generalize w4.setCells nb 0 C.toList = w5 at *
    have B5 := B4.trans hB4
    clear kN kR3 B3 B4 hBt hB4
    go_upto_region 14 with fail
    refine wp_region_list ?_
    refine wpList_load_mid rfl 57 _ rfl nb 0 rfl C.toList _ hR4 Tryz.underlying57 rfl (by rw [Array.length_toList, hCn]; kernel_rfl) ?_
    rw [Array.toArray_toList]
    refine wpList_plain rfl (fun K hK => ?_)
    go_simp
    refine hK _ _ ?_
    clear hK K
    refine wpList_store_mid rfl 57 _ _ rfl w.heap.size 0 C rfl rfl (kR4.there C.size (by rw [hCn]; decide)) (by rw [hCn]; kernel_rfl) hC1 ?_
    refine wpList_plain rfl (fun K hK => ?_)
    go_simp
    refine hK _ _ ?_
    clear hK K
    refine wpList_nil ?_
    simp only [Exit.then]
    have hR := World.rangeAt_setCells_same w5 w.heap.size 0 C.toList (kR4.there _ (by rw [Array.length_toList, hCn]; decide))
    have hB := (but_setCells w.heap.size C.toList 0 w5).below (B := w.heap.size) B5.size (fun k hk => by omega)
    generalize w5.setCells w.heap.size 0 C.toList = w11 at *
    have hld := run_loadVar_mid (P := Tryz.prog) w11 w.heap.size 0 57 C.toList _ hR Tryz.underlying57 rfl (by rw [Array.length_toList, hCn]; kernel_rfl)
    rw [Array.toArray_toList] at hld
    go_wp2
    exact bodyPost_ret (v := .tuple #[.agg C, .int .i64 (12 + (L : Int))]) (by simp [results, Tryz.results27, asAddr, hld]) rfl ⟨by rw [HC.out], B5.trans hB⟩
end Go.Proofs.YtaifkidpdmhciaaGreat
