/- What stands in a log for a record. -/
import Derived.Test.YtaifkidpdmhciaaGreatEGet
import Derived.Test.YtaifkidpdmhciaaGreatM11
import Derived.Deep.RegionHeld3
import Derived.Deep.RegionLaw
namespace Go.Proofs.YtaifkidpdmhciaaGreat
open Go.RowKit
set_option linter.unusedVariables false
set_option linter.unusedSimpArgs false

/-- The digest of a record's bytes. -/
noncomputable def dg (l : List UInt8) : Int := ofP 8 0 [⟨l.toArray⟩]
/-- A frame. -/
noncomputable def frB (l : List UInt8) : List UInt8 := be l.length 4 ++ (be (dg l) 8 ++ l)
theorem frB_len (l : List UInt8) : (frB l).length = 12 + l.length := by simp [frB, be_len]; omega

set_option maxHeartbeats 1600000 in
theorem frame_any (l : List UInt8) (w : World) (hl : l.length ≤ 100000) :
    Calls Tryz.prog 26 #[.string ⟨l.toArray⟩] w fun e w' => e = .returned (.string ⟨(frB l).toArray⟩) ∧ Below w.heap.size w w' := by
  have sz := str_size' l
  have s5 : (⟨(be (l.length : Int) 5).toArray⟩ : ByteArray).size = 5 := by rw [str_size', be_len]
  have hex : (⟨(be (l.length : Int) 5).toArray⟩ : ByteArray).extract 1 5 = ⟨(be (l.length : Int) 4).toArray⟩ := by
    have h := ext_drop (be (l.length : Int) 5) 1
    rw [be_len] at h
    rw [h]; rfl
  have hlim : ¬ 9223372036854775807 < 12 + l.length := by omega
  have hw1 : IntKind.i64.wrap 1 = 1 := by decide
  have h4 : (be (l.length : Int) 4).length = 4 := be_len _ _
  have h8 : (be (dg l) 8).length = 8 := be_len _ _
  have hc1 : (⟨(be (l.length : Int) 4).toArray⟩ : ByteArray) ++ ⟨(be (dg l) 8).toArray⟩ = ⟨(be (l.length : Int) 4 ++ be (dg l) 8).toArray⟩ := str_app _ _
  have h12 : (be (l.length : Int) 4 ++ be (dg l) 8).length = 12 := by rw [List.length_append, h4, h8]
  have hc2 : (⟨(be (l.length : Int) 4 ++ be (dg l) 8).toArray⟩ : ByteArray) ++ ⟨l.toArray⟩ = ⟨(frB l).toArray⟩ := by rw [str_app, frB, List.append_assoc]
  have hD : 0 ≤ dg l ∧ dg l ≤ 18446744073709551615 := ofP_bd _ _ _
  go_enter Tryz.func26, Tryz.ntmps26
  go_wp2_with fail
  refine (wfive (l.length : Int) w).mono ?_
  rintro e w1 ⟨rfl, b1⟩
  go_upto_region 2 with fail
  go_region_law
    (first
    | (go_simp
       go_at_call 39
       refine (of_any 8 0 (some ⟨w1.heap.size, 0, none⟩) 1 1 [⟨l.toArray⟩] _ (by omega) rfl (by unfold maxLen; omega) ⟨by intro s hs; simp at hs; subst hs; rw [sz]; unfold maxLen; omega, .inr ⟨w1.heap.size, 0, rfl, by simp, fun i h => by
         obtain rfl : i = 0 := by simp at h; omega
         simp⟩⟩).mono ?_
       rintro e w2 ⟨rfl, b2⟩)
    | (go_simp
       go_at_call 38
       refine (weight (dg l) _ hD).mono ?_
       rintro e w3 ⟨rfl, b3⟩))
  all_goals
    go_wp2
    go_ret
    exact ⟨by rfl, b1.trans ((((Below.refl _ _).alloc (Nat.le_refl _) _).drew.trans ((b2.trans (b3.mono b2.size)).mono (by simp))).mono b1.size)⟩

theorem hasPre_v (p r : List UInt8) (w : World) (hp : p.length ≤ 1099511627776) (hr : r.length ≤ 1099511627776) :
    Calls Tryz.prog 40 #[.string ⟨(p ++ r).toArray⟩, .string ⟨p.toArray⟩] w fun e w' => e = .returned (.bool true) ∧ w = w' := by
  have s1 := str_size' (p ++ r)
  have s2 := str_size' p
  rw [List.length_append] at s1
  have hex : (⟨(p ++ r).toArray⟩ : ByteArray).extract 0 p.length = ⟨p.toArray⟩ := by rw [ext_take, List.take_left]
  have hle : (p.length : Int) ≤ ((p.length + r.length : Nat) : Int) := by omega
  have key : ∀ w, Calls Tryz.prog 71 #[.string ⟨(p ++ r).toArray⟩, .string ⟨p.toArray⟩] w fun e w' => e = .returned (.bool true) ∧ w = w' := by
    intro w
    generalize (⟨(p ++ r).toArray⟩ : ByteArray) = S at *
    generalize (⟨p.toArray⟩ : ByteArray) = T at *
    go_enter Tryz.func71, Tryz.ntmps71
    go_wp2
    go_ret
    exact ⟨by simp, rfl⟩
  go_enter Tryz.func40, Tryz.ntmps40
  go_wp2_with fail
  refine (key _).mono ?_
  rintro e w' ⟨rfl, rfl⟩
  go_wp2
  go_ret
  exact ⟨rfl, rfl⟩
end Go.Proofs.YtaifkidpdmhciaaGreat
