/- Whether a header can come behind what is believed; views that are the same. -/
import Derived.Test.YtblnlfcfjbfhiaaGreatM36
import Derived.Deep.RegionHeld3

namespace Go.Proofs.YtblnlfcfjbfhiaaGreat
open Go.RowKit
set_option linter.unusedVariables false
set_option linter.unusedSimpArgs false

/-- Why a header can't come behind. -/
def folP (vc vep vh hc hh : Int) : Int := if hc ≠ vc then 24 else if hh ≤ vh then 19 else if epochP hh vep ≠ epochP (vh + 1) vep then 20 else 0

set_option maxRecDepth 4000 in
set_option maxHeartbeats 800000 in
theorem follows_any (vc vwi vep vh vst : Int) (va : Option Addr) (vn vcap : Nat) (hc hh hpa htx hgu hst hre hbe hpr : Int) (kh kr ks : Int) (khas : Bool) (kbl : Int) (fa sa : Option Addr) (fn fcap sn scap : Nat) (w : World) (b1 : 1 ≤ vep ∧ vep ≤ 1099511627775) (b2 : 0 ≤ vh ∧ vh ≤ 1099511627775) (b3 : 0 ≤ hh ∧ hh ≤ 1099511627775) :
    Calls Tryz.prog 25 #[.agg #[.int .i64 vc, .int .i64 vwi, .int .i64 vep, .int .i64 vh, .int .u64 vst, .slice va vn vcap], .agg #[.int .i64 hc, .int .i64 hh, .int .u64 hpa, .int .u64 htx, .int .u64 hgu, .int .u64 hst, .int .u64 hre, .int .u64 hbe, .int .i64 hpr, .int .i64 kh, .int .i64 kr, .int .i64 ks, .bool khas, .int .u64 kbl, .slice fa fn fcap, .slice sa sn scap]] w fun e w' => e = .returned (.int .i64 (folP vc vep vh hc hh)) ∧ Below w.heap.size w w' := by
  have bA : Below w.heap.size w (((w.alloc (.cells #[.int .i64 vc, .int .i64 vwi, .int .i64 vep, .int .i64 vh, .int .u64 vst, .slice va vn vcap] 26)).alloc (.cells #[.int .i64 hc, .int .i64 hh, .int .u64 hpa, .int .u64 htx, .int .u64 hgu, .int .u64 hst, .int .u64 hre, .int .u64 hbe, .int .i64 hpr, .int .i64 kh, .int .i64 kr, .int .i64 ks, .bool khas, .int .u64 kbl, .slice fa fn fcap, .slice sa sn scap] 34)).alloc (.cells #[.int .i64 hc, .int .i64 hh, .int .u64 hpa, .int .u64 htx, .int .u64 hgu, .int .u64 hst, .int .u64 hre, .int .u64 hbe, .int .i64 hpr] 29)) := (((Below.refl _ _).alloc (Nat.le_refl _) _).alloc (by simp) _).alloc (by simp; omega) _
  have ww := wrapI (vh + 1) (by omega) (by omega)
  by_cases h1 : hc = vc
  rotate_left
  · have HF : Hid (folP vc vep vh hc hh = 24) := by show _ = _; unfold folP; rw [if_pos h1]
    have hd : (hc == vc) = false := by simpa using h1
    go_enter Tryz.func25, Tryz.ntmps25
    go_wp2
    go_ret
    exact ⟨by rw [HF.out]; rfl, bA⟩
  subst h1
  by_cases h2 : hh ≤ vh
  · have HF : Hid (folP hc vep vh hc hh = 19) := by show _ = _; unfold folP; rw [if_neg (by simp), if_pos h2]
    go_enter Tryz.func25, Tryz.ntmps25
    go_wp2
    go_ret
    exact ⟨by rw [HF.out]; rfl, bA⟩
  have h2d : decide (hh ≤ vh) = false := by simpa using h2
  have HF : Hid (folP hc vep vh hc hh = if epochP hh vep ≠ epochP (vh + 1) vep then 20 else 0) := by show _ = _; unfold folP; rw [if_neg (by simp), if_neg h2]
  have E1 := fun w' => epoch_any hh vep w' (by omega) (by omega)
  have E2 := fun w' => epoch_any (vh + 1) vep w' (by omega) (by omega)
  obtain ⟨X, HX⟩ : ∃ z, Hid (epochP hh vep = z) := ⟨_, rfl⟩
  obtain ⟨Y, HY⟩ : ∃ z, Hid (epochP (vh + 1) vep = z) := ⟨_, rfl⟩
  rw [HX.out] at E1
  rw [HY.out] at E2
  go_enter Tryz.func25, Tryz.ntmps25
  go_upto_region 6 with fail
  have kV := ((Blk.new w #[.int .i64 hc, .int .i64 vwi, .int .i64 vep, .int .i64 vh, .int .u64 vst, .slice va vn vcap] 26).alloc (.cells #[.int .i64 hc, .int .i64 hh, .int .u64 hpa, .int .u64 htx, .int .u64 hgu, .int .u64 hst, .int .u64 hre, .int .u64 hbe, .int .i64 hpr, .int .i64 kh, .int .i64 kr, .int .i64 ks, .bool khas, .int .u64 kbl, .slice fa fn fcap, .slice sa sn scap] 34)).alloc (.cells #[.int .i64 hc, .int .i64 hh, .int .u64 hpa, .int .u64 htx, .int .u64 hgu, .int .u64 hst, .int .u64 hre, .int .u64 hbe, .int .i64 hpr] 29)
  have kH := Blk.new ((w.alloc (.cells #[.int .i64 hc, .int .i64 vwi, .int .i64 vep, .int .i64 vh, .int .u64 vst, .slice va vn vcap] 26)).alloc (.cells #[.int .i64 hc, .int .i64 hh, .int .u64 hpa, .int .u64 htx, .int .u64 hgu, .int .u64 hst, .int .u64 hre, .int .u64 hbe, .int .i64 hpr, .int .i64 kh, .int .i64 kr, .int .i64 ks, .bool khas, .int .u64 kbl, .slice fa fn fcap, .slice sa sn scap] 34)) #[.int .i64 hc, .int .i64 hh, .int .u64 hpa, .int .u64 htx, .int .u64 hgu, .int .u64 hst, .int .u64 hre, .int .u64 hbe, .int .i64 hpr] 29
  simp only [World.size_alloc] at kH
  generalize (((w.alloc (.cells #[.int .i64 hc, .int .i64 vwi, .int .i64 vep, .int .i64 vh, .int .u64 vst, .slice va vn vcap] 26)).alloc (.cells #[.int .i64 hc, .int .i64 hh, .int .u64 hpa, .int .u64 htx, .int .u64 hgu, .int .u64 hst, .int .u64 hre, .int .u64 hbe, .int .i64 hpr, .int .i64 kh, .int .i64 kr, .int .i64 ks, .bool khas, .int .u64 kbl, .slice fa fn fcap, .slice sa sn scap] 34)).alloc (.cells #[.int .i64 hc, .int .i64 hh, .int .u64 hpa, .int .u64 htx, .int .u64 hgu, .int .u64 hst, .int .u64 hre, .int .u64 hbe, .int .i64 hpr] 29)) = wA at *
  have C1 : ∀ w', Below wA.heap.size wA w' → w'.cell? ⟨w.heap.size, 2, none⟩ = some (.int .i64 vep) := fun w' hb => ((kV.below hb kV.lt).cell 2).trans rfl
  have C2 : ∀ w', Below wA.heap.size wA w' → w'.cell? ⟨w.heap.size, 3, none⟩ = some (.int .i64 vh) := fun w' hb => ((kV.below hb kV.lt).cell 3).trans rfl
  have C3 : ∀ w', Below wA.heap.size wA w' → w'.cell? ⟨w.heap.size + 1 + 1, 1, none⟩ = some (.int .i64 hh) := fun w' hb => ((kH.below hb kH.lt).cell 1).trans rfl
  have zV := kV.lt
  have zH := kH.lt
  have bw : Below wA.heap.size wA wA := Below.refl _ _
  clear kV kH
  by_cases h3 : X = Y
  · have HG : Hid (folP hc vep vh hc hh = 0) := by show _ = _; rw [HF.out, HX.out, HY.out, if_neg (by simpa using h3)]
    subst h3
    clear HF HX HY
    go_region_held3 (fun w' => Below wA.heap.size wA w') (repeat (first | exact bw.drew | exact hNext | assumption | refine Below.drew ?_ | exact bw | exact Nat.le_refl _))
      (first
      | (go_at_call 14
         with_reducible refine (E1 _).mono ?_
         rintro e w3 ⟨rfl, hw3⟩
         have hNext : Below wA.heap.size wA w3 := hw3 ▸ (by assumption))
      | (go_at_call 14
         with_reducible refine (E2 _).mono ?_
         rintro e w3 ⟨rfl, hw3⟩
         have hNext : Below wA.heap.size wA w3 := hw3 ▸ (by assumption)))
    all_goals
      go_wp2
      go_ret
      exact ⟨by rw [HG.out]; rfl, bA.trans (hNext.mono bA.size)⟩
  · have HG : Hid (folP hc vep vh hc hh = 20) := by show _ = _; rw [HF.out, HX.out, HY.out, if_pos h3]
    have h3d : (X != Y) = true := by simpa using h3
    clear HF HX HY
    go_region_held3 (fun w' => Below wA.heap.size wA w') (repeat (first | exact bw.drew | exact hNext | assumption | refine Below.drew ?_ | exact bw | exact Nat.le_refl _))
      (first
      | (go_at_call 14
         with_reducible refine (E1 _).mono ?_
         rintro e w3 ⟨rfl, hw3⟩
         have hNext : Below wA.heap.size wA w3 := hw3 ▸ (by assumption))
      | (go_at_call 14
         with_reducible refine (E2 _).mono ?_
         rintro e w3 ⟨rfl, hw3⟩
         have hNext : Below wA.heap.size wA w3 := hw3 ▸ (by assumption)))
    all_goals
      go_wp2
      go_ret
      exact ⟨by rw [HG.out]; rfl, bA.trans (hNext.mono bA.size)⟩
end Go.Proofs.YtblnlfcfjbfhiaaGreat

namespace Go.Proofs.YtblnlfcfjbfhiaaGreat
open Go.RowKit
set_option linter.unusedVariables false
set_option linter.unusedSimpArgs false

set_option maxRecDepth 4000 in
set_option maxHeartbeats 800000 in
theorem sameView_eq (c wi ep h st : Int) (la lb : Option Addr) (ca cb : Nat) (l : List (Int × Int)) (w : World) (hl : l.length ≤ 1000000) (h1 : SeatsAt w la l) (h2 : SeatsAt w lb l) :
    Calls Tryz.prog 9 #[.agg #[.int .i64 c, .int .i64 wi, .int .i64 ep, .int .i64 h, .int .u64 st, .slice la l.length ca], .agg #[.int .i64 c, .int .i64 wi, .int .i64 ep, .int .i64 h, .int .u64 st, .slice lb l.length cb]] w fun e w' => e = .returned (.bool true) ∧ Below w.heap.size w w' := by
  have bA : Below w.heap.size w ((w.alloc (.cells #[.int .i64 c, .int .i64 wi, .int .i64 ep, .int .i64 h, .int .u64 st, .slice la l.length ca] 26)).alloc (.cells #[.int .i64 c, .int .i64 wi, .int .i64 ep, .int .i64 h, .int .u64 st, .slice lb l.length cb] 26)) := ((Below.refl _ _).alloc (Nat.le_refl _) _).alloc (by simp) _
  go_enter Tryz.func9, Tryz.ntmps9
  go_wp2_with fail
  refine (sameSeats_any la lb ca cb l l _ hl hl (h1.below bA) (h2.below bA)).mono ?_
  rintro e w1 ⟨rfl, b1⟩
  have B1 := bA.trans (b1.mono bA.size)
  rw [show decide (l = l) = true by simp]
  go_wp2
  go_ret
  exact ⟨rfl, B1⟩

/-- What is wrong with a view and a sight, each for itself. -/
def formP (ve he ke be_ : Int) (vf sf : Bool) : Int := if ve ≠ 0 ∨ vf = false then 2 else if he ≠ 0 then he else if ke ≠ 0 then ke else if be_ ≠ 0 then be_ else if sf = false then 2 else 0

set_option maxRecDepth 4000 in
set_option maxHeartbeats 1600000 in
theorem formed_any (vc vwi vep vh vst : Int) (va : Option Addr) (vcap : Nat) (vl : List (Int × Int)) (hc hh hpa htx hgu hst hre hbe hpr : Int) (kh kr ks : Int) (khas : Bool) (kbl : Int) (fa sa : Option Addr) (fn fcap scap : Nat) (sl : List (Int × Int)) (w : World) (VS HS KS BS : ByteArray) (VE HE KE BE : Int)
    (hv : vl.length ≤ 4096) (hs : sl.length ≤ 4096) (h1 : SeatsAt w va vl) (h2 : SeatsAt w sa sl)
    (K1 : ∀ y : World, Below w.heap.size w y → Calls Tryz.prog 46 #[.agg #[.int .i64 vc, .int .i64 vwi, .int .i64 vep, .int .i64 vh, .int .u64 vst, .slice va vl.length vcap]] y fun e w' => e = .returned (.tuple #[.string VS, .int .i64 VE]) ∧ Below y.heap.size y w')
    (K2 : ∀ y : World, Calls Tryz.prog 20 #[.agg #[.int .i64 hc, .int .i64 hh, .int .u64 hpa, .int .u64 htx, .int .u64 hgu, .int .u64 hst, .int .u64 hre, .int .u64 hbe, .int .i64 hpr]] y fun e w' => e = .returned (.tuple #[.string HS, .int .i64 HE]) ∧ Below y.heap.size y w')
    (K3 : ∀ y : World, Below w.heap.size w y → Calls Tryz.prog 48 #[.agg #[.int .i64 kh, .int .i64 kr, .int .i64 ks, .bool khas, .int .u64 kbl, .slice fa fn fcap]] y fun e w' => e = .returned (.tuple #[.string KS, .int .i64 KE]) ∧ Below y.heap.size y w')
    (K4 : ∀ y : World, Below w.heap.size w y → Calls Tryz.prog 49 #[.slice sa sl.length scap] y fun e w' => e = .returned (.tuple #[.string BS, .int .i64 BE]) ∧ Below y.heap.size y w') :
    Calls Tryz.prog 24 #[.agg #[.int .i64 vc, .int .i64 vwi, .int .i64 vep, .int .i64 vh, .int .u64 vst, .slice va vl.length vcap], .agg #[.int .i64 hc, .int .i64 hh, .int .u64 hpa, .int .u64 htx, .int .u64 hgu, .int .u64 hst, .int .u64 hre, .int .u64 hbe, .int .i64 hpr, .int .i64 kh, .int .i64 kr, .int .i64 ks, .bool khas, .int .u64 kbl, .slice fa fn fcap, .slice sa sl.length scap]] w fun e w' => e = .returned (.int .i64 (formP VE HE KE BE (fitB vl) (fitB sl))) ∧ Below w.heap.size w w' := by
  have bA : Below w.heap.size w ((w.alloc (.cells #[.int .i64 vc, .int .i64 vwi, .int .i64 vep, .int .i64 vh, .int .u64 vst, .slice va vl.length vcap] 26)).alloc (.cells #[.int .i64 hc, .int .i64 hh, .int .u64 hpa, .int .u64 htx, .int .u64 hgu, .int .u64 hst, .int .u64 hre, .int .u64 hbe, .int .i64 hpr, .int .i64 kh, .int .i64 kr, .int .i64 ks, .bool khas, .int .u64 kbl, .slice fa fn fcap, .slice sa sl.length scap] 34)) := ((Below.refl _ _).alloc (Nat.le_refl _) _).alloc (by simp) _
  have kV := (Blk.new w #[.int .i64 vc, .int .i64 vwi, .int .i64 vep, .int .i64 vh, .int .u64 vst, .slice va vl.length vcap] 26).alloc (.cells #[.int .i64 hc, .int .i64 hh, .int .u64 hpa, .int .u64 htx, .int .u64 hgu, .int .u64 hst, .int .u64 hre, .int .u64 hbe, .int .i64 hpr, .int .i64 kh, .int .i64 kr, .int .i64 ks, .bool khas, .int .u64 kbl, .slice fa fn fcap, .slice sa sl.length scap] 34)
  have kS := Blk.new (w.alloc (.cells #[.int .i64 vc, .int .i64 vwi, .int .i64 vep, .int .i64 vh, .int .u64 vst, .slice va vl.length vcap] 26)) #[.int .i64 hc, .int .i64 hh, .int .u64 hpa, .int .u64 htx, .int .u64 hgu, .int .u64 hst, .int .u64 hre, .int .u64 hbe, .int .i64 hpr, .int .i64 kh, .int .i64 kr, .int .i64 ks, .bool khas, .int .u64 kbl, .slice fa fn fcap, .slice sa sl.length scap] 34
  rw [World.size_alloc] at kS
  go_enter Tryz.func24, Tryz.ntmps24
  go_wp2_with fail
  generalize ((w.alloc (.cells #[.int .i64 vc, .int .i64 vwi, .int .i64 vep, .int .i64 vh, .int .u64 vst, .slice va vl.length vcap] 26)).alloc (.cells #[.int .i64 hc, .int .i64 hh, .int .u64 hpa, .int .u64 htx, .int .u64 hgu, .int .u64 hst, .int .u64 hre, .int .u64 hbe, .int .i64 hpr, .int .i64 kh, .int .i64 kr, .int .i64 ks, .bool khas, .int .u64 kbl, .slice fa fn fcap, .slice sa sl.length scap] 34)) = wA at *
  refine (K1 wA bA).mono ?_
  rintro e w1 ⟨rfl, b1⟩
  have B1 := bA.trans (b1.mono bA.size)
  have v1 := kV.below b1 kV.lt
  have s1 := kS.below b1 kS.lt
  have c5 := (v1.cell 5).trans rfl
  have zv := v1.lt
  clear kV kS b1 bA
  by_cases hVE : VE = 0
  rotate_left
  · have HF : Hid (formP VE HE KE BE (fitB vl) (fitB sl) = 2) := by show _ = _; unfold formP; rw [if_pos (.inl hVE)]
    have hd : (VE != 0) = true := by simpa using hVE
    go_wp2
    go_ret
    exact ⟨by rw [HF.out]; rfl, B1⟩
  subst hVE
  go_wp2_with fail
  refine (fits_any va vcap vl w1 (by unfold maxLen; omega) (h1.below B1)).mono ?_
  rintro e w2 ⟨rfl, b2⟩
  have B2 := B1.trans (b2.mono B1.size)
  have s2 := s1.below b2 s1.lt
  clear c5 zv v1 s1 b2 B1
  cases hfv : fitB vl with
  | false =>
    have HF : Hid (formP 0 HE KE BE (fitB vl) (fitB sl) = 2) := by show _ = _; unfold formP; rw [if_pos (.inr hfv)]
    clear hfv
    go_wp2
    go_ret
    exact ⟨by rw [HF.out]; rfl, B2⟩
  | true =>
    have HF0 : Hid (∀ a b c d, formP 0 a b c (fitB vl) d = if a ≠ 0 then a else if b ≠ 0 then b else if c ≠ 0 then c else if d = false then 2 else 0) := fun a b c d => by unfold formP; rw [if_neg (by simp [hfv])]
    clear hfv
    have c0 := (s2.cell 0).trans rfl
    have c1 := (s2.cell 1).trans rfl
    have c2 := (s2.cell 2).trans rfl
    have c3 := (s2.cell 3).trans rfl
    have c4 := (s2.cell 4).trans rfl
    have c5 := (s2.cell 5).trans rfl
    have c6 := (s2.cell 6).trans rfl
    have c7 := (s2.cell 7).trans rfl
    have c8 := (s2.cell 8).trans rfl
    have zs := s2.lt
    go_wp2_with fail
    refine (K2 w2).mono ?_
    rintro e w3 ⟨rfl, b3⟩
    have B3 := B2.trans (b3.mono B2.size)
    have s3 := s2.below b3 s2.lt
    clear c0 c1 c2 c3 c4 c5 c6 c7 c8 zs s2 b3 B2
    by_cases hHE : HE = 0
    rotate_left
    · have HF : Hid (formP 0 HE KE BE (fitB vl) (fitB sl) = HE) := by show _ = _; rw [HF0.out, if_pos hHE]
      have hd : (HE != 0) = true := by simpa using hHE
      clear hHE
      go_wp2
      go_ret
      exact ⟨by rw [HF.out]; rfl, B3⟩
    subst hHE
    have c9 := (s3.cell 9).trans rfl
    have c10 := (s3.cell 10).trans rfl
    have c11 := (s3.cell 11).trans rfl
    have c12 := (s3.cell 12).trans rfl
    have c13 := (s3.cell 13).trans rfl
    have c14 := (s3.cell 14).trans rfl
    have zs := s3.lt
    go_wp2_with fail
    refine (K3 w3 B3).mono ?_
    rintro e w4 ⟨rfl, b4⟩
    have B4 := B3.trans (b4.mono B3.size)
    have s4 := s3.below b4 s3.lt
    clear c9 c10 c11 c12 c13 c14 zs s3 b4 B3
    by_cases hKE : KE = 0
    rotate_left
    · have HF : Hid (formP 0 0 KE BE (fitB vl) (fitB sl) = KE) := by show _ = _; rw [HF0.out, if_neg (by simp), if_pos hKE]
      have hd : (KE != 0) = true := by simpa using hKE
      clear hKE
      go_wp2
      go_ret
      exact ⟨by rw [HF.out]; rfl, B4⟩
    subst hKE
    have c15 := (s4.cell 15).trans rfl
    have zs := s4.lt
    go_wp2_with fail
    refine (K4 w4 B4).mono ?_
    rintro e w5 ⟨rfl, b5⟩
    have B5 := B4.trans (b5.mono B4.size)
    have s5 := s4.below b5 s4.lt
    clear c15 zs s4 b5 B4
    by_cases hBE : BE = 0
    rotate_left
    · have HF : Hid (formP 0 0 0 BE (fitB vl) (fitB sl) = BE) := by show _ = _; rw [HF0.out, if_neg (by simp), if_neg (by simp), if_pos hBE]
      have hd : (BE != 0) = true := by simpa using hBE
      clear hBE
      go_wp2
      go_ret
      exact ⟨by rw [HF.out]; rfl, B5⟩
    subst hBE
    have c15 := (s5.cell 15).trans rfl
    have zs := s5.lt
    go_wp2_with fail
    refine (fits_any sa scap sl w5 (by unfold maxLen; omega) (h2.below B5)).mono ?_
    rintro e w6 ⟨rfl, b6⟩
    have B6 := B5.trans (b6.mono B5.size)
    clear c15 zs s5 b6 B5
    cases hfs : fitB sl with
    | false =>
      have HF : Hid (formP 0 0 0 0 (fitB vl) (fitB sl) = 2) := by show _ = _; rw [HF0.out, if_neg (by simp), if_neg (by simp), if_neg (by simp), if_pos hfs]
      clear hfs
      go_wp2
      go_ret
      exact ⟨by rw [HF.out]; rfl, B6⟩
    | true =>
      have HF : Hid (formP 0 0 0 0 (fitB vl) (fitB sl) = 0) := by show _ = _; rw [HF0.out, if_neg (by simp), if_neg (by simp), if_neg (by simp), if_neg (by rw [hfs]; simp)]
      clear hfs
      go_wp2
      go_ret
      exact ⟨by rw [HF.out]; rfl, B6⟩
end Go.Proofs.YtblnlfcfjbfhiaaGreat
