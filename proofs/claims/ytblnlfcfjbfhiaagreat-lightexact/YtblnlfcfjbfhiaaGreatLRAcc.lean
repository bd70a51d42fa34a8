/- What is believed when a header is shown: the answer's. -/
import Derived.Test.YtblnlfcfjbfhiaaGreatLAcc
import Derived.Test.YtblnlfcfjbfhiaaGreatM38
import Derived.Test.YtblnlfcfjbfhiaaGreatLDec
namespace Go.Proofs.YtblnlfcfjbfhiaaGreat
open Go.RowKit
set_option linter.unusedVariables false
set_option linter.unusedSimpArgs false

set_option maxRecDepth 8000 in
set_option maxHeartbeats 6400000 in
theorem racc_form (vc vwi vep vh vst : Int) (va : Option Addr) (vcap : Nat) (vl : List (Int × Int)) (hc hh hpa htx hgu hst hre hbe hpr : Int) (kh kr ks : Int) (khas : Bool) (kbl : Int) (fa sa : Option Addr) (fcap scap : Nat) (fr : List Int) (sl : List (Int × Int)) (w : World) (VS HS CS BS : ByteArray) (VE HE KE BE : Int) (fv fs : Bool)
    (KV : ∀ y : World, Below w.heap.size w y → Calls Tryz.prog 27 #[.agg #[.int .i64 vc, .int .i64 vwi, .int .i64 vep, .int .i64 vh, .int .u64 vst, .slice va vl.length vcap]] y fun e w' => e = .returned (.tuple #[.string VS, .int .i64 VE]) ∧ Below y.heap.size y w')
    (KF : ∀ y : World, Below w.heap.size w y → Calls Tryz.prog 28 #[.slice va vl.length vcap] y fun e w' => e = .returned (.bool fv) ∧ Below y.heap.size y w')
    (KH : ∀ y : World, Below w.heap.size w y → Calls Tryz.prog 22 #[.agg #[.int .i64 hc, .int .i64 hh, .int .u64 hpa, .int .u64 htx, .int .u64 hgu, .int .u64 hst, .int .u64 hre, .int .u64 hbe, .int .i64 hpr]] y fun e w' => e = .returned (.tuple #[.string HS, .int .i64 HE]) ∧ Below y.heap.size y w')
    (KC : ∀ y : World, Below w.heap.size w y → Calls Tryz.prog 29 #[.agg #[.int .i64 kh, .int .i64 kr, .int .i64 ks, .bool khas, .int .u64 kbl, .slice fa fr.length fcap]] y fun e w' => e = .returned (.tuple #[.string CS, .int .i64 KE]) ∧ Below y.heap.size y w')
    (KB : ∀ y : World, Below w.heap.size w y → Calls Tryz.prog 30 #[.slice sa sl.length scap] y fun e w' => e = .returned (.tuple #[.string BS, .int .i64 BE]) ∧ Below y.heap.size y w')
    (KG : ∀ y : World, Below w.heap.size w y → Calls Tryz.prog 28 #[.slice sa sl.length scap] y fun e w' => e = .returned (.bool fs) ∧ Below y.heap.size y w')
    (hno : formP VE HE KE BE fv fs ≠ 0) :
    Calls Tryz.prog 13 #[.agg #[.int .i64 vc, .int .i64 vwi, .int .i64 vep, .int .i64 vh, .int .u64 vst, .slice va vl.length vcap], .agg #[.int .i64 hc, .int .i64 hh, .int .u64 hpa, .int .u64 htx, .int .u64 hgu, .int .u64 hst, .int .u64 hre, .int .u64 hbe, .int .i64 hpr, .int .i64 kh, .int .i64 kr, .int .i64 ks, .bool khas, .int .u64 kbl, .slice fa fr.length fcap, .slice sa sl.length scap]] w fun e w' => Accepted vc vwi vep hh hst sl (formP VE HE KE BE fv fs) w e w' := by
  have bA : Below w.heap.size w (((w.alloc (.cells #[.int .i64 vc, .int .i64 vwi, .int .i64 vep, .int .i64 vh, .int .u64 vst, .slice va vl.length vcap] 26)).alloc (.cells #[.int .i64 hc, .int .i64 hh, .int .u64 hpa, .int .u64 htx, .int .u64 hgu, .int .u64 hst, .int .u64 hre, .int .u64 hbe, .int .i64 hpr, .int .i64 kh, .int .i64 kr, .int .i64 ks, .bool khas, .int .u64 kbl, .slice fa fr.length fcap, .slice sa sl.length scap] 34)).alloc (.cells #[.int .i64 0, .int .i64 0, .int .i64 0, .int .i64 0, .int .u64 0, .slice none 0 0] 26)) := (((Below.refl _ _).alloc (Nat.le_refl _) _).alloc (by simp) _).alloc (by simp; omega) _
  have kV0 := ((Blk.new w #[.int .i64 vc, .int .i64 vwi, .int .i64 vep, .int .i64 vh, .int .u64 vst, .slice va vl.length vcap] 26).alloc (.cells #[.int .i64 hc, .int .i64 hh, .int .u64 hpa, .int .u64 htx, .int .u64 hgu, .int .u64 hst, .int .u64 hre, .int .u64 hbe, .int .i64 hpr, .int .i64 kh, .int .i64 kr, .int .i64 ks, .bool khas, .int .u64 kbl, .slice fa fr.length fcap, .slice sa sl.length scap] 34)).alloc (.cells #[.int .i64 0, .int .i64 0, .int .i64 0, .int .i64 0, .int .u64 0, .slice none 0 0] 26)
  have kS0 := (Blk.new (w.alloc (.cells #[.int .i64 vc, .int .i64 vwi, .int .i64 vep, .int .i64 vh, .int .u64 vst, .slice va vl.length vcap] 26)) #[.int .i64 hc, .int .i64 hh, .int .u64 hpa, .int .u64 htx, .int .u64 hgu, .int .u64 hst, .int .u64 hre, .int .u64 hbe, .int .i64 hpr, .int .i64 kh, .int .i64 kr, .int .i64 ks, .bool khas, .int .u64 kbl, .slice fa fr.length fcap, .slice sa sl.length scap] 34).alloc (.cells #[.int .i64 0, .int .i64 0, .int .i64 0, .int .i64 0, .int .u64 0, .slice none 0 0] 26)
  have kZ0 := Blk.new ((w.alloc (.cells #[.int .i64 vc, .int .i64 vwi, .int .i64 vep, .int .i64 vh, .int .u64 vst, .slice va vl.length vcap] 26)).alloc (.cells #[.int .i64 hc, .int .i64 hh, .int .u64 hpa, .int .u64 htx, .int .u64 hgu, .int .u64 hst, .int .u64 hre, .int .u64 hbe, .int .i64 hpr, .int .i64 kh, .int .i64 kr, .int .i64 ks, .bool khas, .int .u64 kbl, .slice fa fr.length fcap, .slice sa sl.length scap] 34)) #[.int .i64 0, .int .i64 0, .int .i64 0, .int .i64 0, .int .u64 0, .slice none 0 0] 26
  simp only [World.size_alloc] at kS0 kZ0
  obtain ⟨P, HP⟩ : ∃ z, Hid (formP VE HE KE BE fv fs = z) := ⟨_, rfl⟩
  rw [HP.out]
  go_enter Tryz.func13, Tryz.ntmps13
  go_wp2_with fail
  generalize (((w.alloc (.cells #[.int .i64 vc, .int .i64 vwi, .int .i64 vep, .int .i64 vh, .int .u64 vst, .slice va vl.length vcap] 26)).alloc (.cells #[.int .i64 hc, .int .i64 hh, .int .u64 hpa, .int .u64 htx, .int .u64 hgu, .int .u64 hst, .int .u64 hre, .int .u64 hbe, .int .i64 hpr, .int .i64 kh, .int .i64 kr, .int .i64 ks, .bool khas, .int .u64 kbl, .slice fa fr.length fcap, .slice sa sl.length scap] 34)).alloc (.cells #[.int .i64 0, .int .i64 0, .int .i64 0, .int .i64 0, .int .u64 0, .slice none 0 0] 26)) = w0 at *
  have B0 := bA
  clear bA
  refine (KV _ B0).mono ?_
  rintro e w1 ⟨rfl, b1⟩
  have B1 := B0.trans (b1.mono B0.size)
  have kV1 := kV0.below b1 kV0.lt
  have kS1 := kS0.below b1 kS0.lt
  have kZ1 := kZ0.below b1 kZ0.lt
  clear kV0 kS0 kZ0 b1 B0
  have c5 := (kV1.cell 5).trans rfl
  have zv := kV1.lt
  go_wp2_with fail
  refine (KF _ B1).mono ?_
  rintro e w2 ⟨rfl, b2⟩
  have B2 := B1.trans (b2.mono B1.size)
  have kV2 := kV1.below b2 kV1.lt
  have kS2 := kS1.below b2 kS1.lt
  have kZ2 := kZ1.below b2 kZ1.lt
  clear kV1 kS1 kZ1 b2 B1
  clear c5 zv
  by_cases hVE : VE = 0
  rotate_left
  · have hd : (VE != 0) = true := by simpa using hVE
    have HF : Hid (P = 2) := by show _ = _; rw [← HP.out]; unfold formP; rw [if_pos (.inl hVE)]
    have y0 := (kZ2.cell 0).trans rfl
    have q0 := kZ2.frozen 0
    have y1 := (kZ2.cell 1).trans rfl
    have q1 := kZ2.frozen 1
    have y2 := (kZ2.cell 2).trans rfl
    have q2 := kZ2.frozen 2
    have y3 := (kZ2.cell 3).trans rfl
    have q3 := kZ2.frozen 3
    have y4 := (kZ2.cell 4).trans rfl
    have q4 := kZ2.frozen 4
    have y5 := (kZ2.cell 5).trans rfl
    have q5 := kZ2.frozen 5
    have zz := kZ2.lt
    go_wp2
    refine bodyPost_ret (v := .tuple #[.agg #[.int .i64 0, .int .i64 0, .int .i64 0, .int .i64 0, .int .u64 0, .slice none 0 0], .int .i64 2]) (by simp [results, Tryz.results13, go_sem, y0, y1, y2, y3, y4, y5]) rfl ?_
    refine ⟨?_, Or.inl ⟨by rw [HF.out]; first | exact hE0 | decide, by rw [HF.out]⟩⟩
    iterate 6 refine Below.setCell ?_ (by show w.heap.size ≤ w.heap.size + 1 + 1; omega) _
    exact B2
  subst hVE
  cases fv with
  | false =>
    have HF : Hid (P = 2) := by show _ = _; rw [← HP.out]; unfold formP; rw [if_pos (.inr rfl)]
    have y0 := (kZ2.cell 0).trans rfl
    have q0 := kZ2.frozen 0
    have y1 := (kZ2.cell 1).trans rfl
    have q1 := kZ2.frozen 1
    have y2 := (kZ2.cell 2).trans rfl
    have q2 := kZ2.frozen 2
    have y3 := (kZ2.cell 3).trans rfl
    have q3 := kZ2.frozen 3
    have y4 := (kZ2.cell 4).trans rfl
    have q4 := kZ2.frozen 4
    have y5 := (kZ2.cell 5).trans rfl
    have q5 := kZ2.frozen 5
    have zz := kZ2.lt
    go_wp2
    refine bodyPost_ret (v := .tuple #[.agg #[.int .i64 0, .int .i64 0, .int .i64 0, .int .i64 0, .int .u64 0, .slice none 0 0], .int .i64 2]) (by simp [results, Tryz.results13, go_sem, y0, y1, y2, y3, y4, y5]) rfl ?_
    refine ⟨?_, Or.inl ⟨by rw [HF.out]; first | exact hE0 | decide, by rw [HF.out]⟩⟩
    iterate 6 refine Below.setCell ?_ (by show w.heap.size ≤ w.heap.size + 1 + 1; omega) _
    exact B2
  | true =>
    have s0 := (kS2.cell 0).trans rfl
    have s1 := (kS2.cell 1).trans rfl
    have s2 := (kS2.cell 2).trans rfl
    have s3 := (kS2.cell 3).trans rfl
    have s4 := (kS2.cell 4).trans rfl
    have s5 := (kS2.cell 5).trans rfl
    have s6 := (kS2.cell 6).trans rfl
    have s7 := (kS2.cell 7).trans rfl
    have s8 := (kS2.cell 8).trans rfl
    have zs := kS2.lt
    have bH : Below w2.heap.size w2 (w2.alloc (.cells #[.int .i64 hc, .int .i64 hh, .int .u64 hpa, .int .u64 htx, .int .u64 hgu, .int .u64 hst, .int .u64 hre, .int .u64 hbe, .int .i64 hpr] 29)) := (Below.refl _ _).alloc (Nat.le_refl _) _
    have kH3 := Blk.new w2 #[.int .i64 hc, .int .i64 hh, .int .u64 hpa, .int .u64 htx, .int .u64 hgu, .int .u64 hst, .int .u64 hre, .int .u64 hbe, .int .i64 hpr] 29
    have kV3 := kV2.alloc (.cells #[.int .i64 hc, .int .i64 hh, .int .u64 hpa, .int .u64 htx, .int .u64 hgu, .int .u64 hst, .int .u64 hre, .int .u64 hbe, .int .i64 hpr] 29)
    have kS3 := kS2.alloc (.cells #[.int .i64 hc, .int .i64 hh, .int .u64 hpa, .int .u64 htx, .int .u64 hgu, .int .u64 hst, .int .u64 hre, .int .u64 hbe, .int .i64 hpr] 29)
    have kZ3 := kZ2.alloc (.cells #[.int .i64 hc, .int .i64 hh, .int .u64 hpa, .int .u64 htx, .int .u64 hgu, .int .u64 hst, .int .u64 hre, .int .u64 hbe, .int .i64 hpr] 29)
    have B3 := B2.trans (bH.mono B2.size)
    have zh : w.heap.size + 1 + 1 < w2.heap.size := kZ2.lt
    clear kV2 kS2 kZ2 B2 bH
    go_wp2_with fail
    generalize w2.alloc (.cells #[.int .i64 hc, .int .i64 hh, .int .u64 hpa, .int .u64 htx, .int .u64 hgu, .int .u64 hst, .int .u64 hre, .int .u64 hbe, .int .i64 hpr] 29) = w3 at *
    generalize w2.heap.size = hb at *
    refine (KH _ B3).mono ?_
    rintro e w4 ⟨rfl, b4⟩
    have B4 := B3.trans (b4.mono B3.size)
    have kH4 := kH3.below b4 kH3.lt
    have kV4 := kV3.below b4 kV3.lt
    have kS4 := kS3.below b4 kS3.lt
    have kZ4 := kZ3.below b4 kZ3.lt
    clear kH3 kV3 kS3 kZ3 b4 B3 s0 s1 s2 s3 s4 s5 s6 s7 s8 zs
    by_cases hHE : HE = 0
    rotate_left
    · have hd : (HE != 0) = true := by simpa using hHE
      have hE0 : HE ≠ 0 := hHE
      have HF : Hid (P = HE) := by show _ = _; rw [← HP.out]; unfold formP; rw [if_neg (by simp), if_pos hHE]
      have y0 := (kZ4.cell 0).trans rfl
      have q0 := kZ4.frozen 0
      have y1 := (kZ4.cell 1).trans rfl
      have q1 := kZ4.frozen 1
      have y2 := (kZ4.cell 2).trans rfl
      have q2 := kZ4.frozen 2
      have y3 := (kZ4.cell 3).trans rfl
      have q3 := kZ4.frozen 3
      have y4 := (kZ4.cell 4).trans rfl
      have q4 := kZ4.frozen 4
      have y5 := (kZ4.cell 5).trans rfl
      have q5 := kZ4.frozen 5
      have zz := kZ4.lt
      go_wp2
      refine bodyPost_ret (v := .tuple #[.agg #[.int .i64 0, .int .i64 0, .int .i64 0, .int .i64 0, .int .u64 0, .slice none 0 0], .int .i64 HE]) (by simp [results, Tryz.results13, go_sem, y0, y1, y2, y3, y4, y5]) rfl ?_
      refine ⟨?_, Or.inl ⟨by rw [HF.out]; first | exact hE0 | decide, by rw [HF.out]⟩⟩
      iterate 6 refine Below.setCell ?_ (by show w.heap.size ≤ w.heap.size + 1 + 1; omega) _
      exact B4
    subst hHE
    have s9 := (kS4.cell 9).trans rfl
    have s10 := (kS4.cell 10).trans rfl
    have s11 := (kS4.cell 11).trans rfl
    have s12 := (kS4.cell 12).trans rfl
    have s13 := (kS4.cell 13).trans rfl
    have s14 := (kS4.cell 14).trans rfl
    have zs := kS4.lt
    go_wp2_with fail
    refine (KC _ B4).mono ?_
    rintro e w5 ⟨rfl, b5⟩
    have B5 := B4.trans (b5.mono B4.size)
    have kH5 := kH4.below b5 kH4.lt
    have kV5 := kV4.below b5 kV4.lt
    have kS5 := kS4.below b5 kS4.lt
    have kZ5 := kZ4.below b5 kZ4.lt
    clear kH4 kV4 kS4 kZ4 b5 B4
    clear s9 s10 s11 s12 s13 s14 zs
    by_cases hKE : KE = 0
    rotate_left
    · have hd : (KE != 0) = true := by simpa using hKE
      have hE0 : KE ≠ 0 := hKE
      have HF : Hid (P = KE) := by show _ = _; rw [← HP.out]; unfold formP; rw [if_neg (by simp), if_neg (by simp), if_pos hKE]
      have y0 := (kZ5.cell 0).trans rfl
      have q0 := kZ5.frozen 0
      have y1 := (kZ5.cell 1).trans rfl
      have q1 := kZ5.frozen 1
      have y2 := (kZ5.cell 2).trans rfl
      have q2 := kZ5.frozen 2
      have y3 := (kZ5.cell 3).trans rfl
      have q3 := kZ5.frozen 3
      have y4 := (kZ5.cell 4).trans rfl
      have q4 := kZ5.frozen 4
      have y5 := (kZ5.cell 5).trans rfl
      have q5 := kZ5.frozen 5
      have zz := kZ5.lt
      go_wp2
      refine bodyPost_ret (v := .tuple #[.agg #[.int .i64 0, .int .i64 0, .int .i64 0, .int .i64 0, .int .u64 0, .slice none 0 0], .int .i64 KE]) (by simp [results, Tryz.results13, go_sem, y0, y1, y2, y3, y4, y5]) rfl ?_
      refine ⟨?_, Or.inl ⟨by rw [HF.out]; first | exact hE0 | decide, by rw [HF.out]⟩⟩
      iterate 6 refine Below.setCell ?_ (by show w.heap.size ≤ w.heap.size + 1 + 1; omega) _
      exact B5
    subst hKE
    have s15 := (kS5.cell 15).trans rfl
    have zs := kS5.lt
    go_wp2_with fail
    refine (KB _ B5).mono ?_
    rintro e w6 ⟨rfl, b6⟩
    have B6 := B5.trans (b6.mono B5.size)
    have kH6 := kH5.below b6 kH5.lt
    have kV6 := kV5.below b6 kV5.lt
    have kS6 := kS5.below b6 kS5.lt
    have kZ6 := kZ5.below b6 kZ5.lt
    clear kH5 kV5 kS5 kZ5 b6 B5
    clear s15 zs
    by_cases hBE : BE = 0
    rotate_left
    · have hd : (BE != 0) = true := by simpa using hBE
      have hE0 : BE ≠ 0 := hBE
      have HF : Hid (P = BE) := by show _ = _; rw [← HP.out]; unfold formP; rw [if_neg (by simp), if_neg (by simp), if_neg (by simp), if_pos hBE]
      have y0 := (kZ6.cell 0).trans rfl
      have q0 := kZ6.frozen 0
      have y1 := (kZ6.cell 1).trans rfl
      have q1 := kZ6.frozen 1
      have y2 := (kZ6.cell 2).trans rfl
      have q2 := kZ6.frozen 2
      have y3 := (kZ6.cell 3).trans rfl
      have q3 := kZ6.frozen 3
      have y4 := (kZ6.cell 4).trans rfl
      have q4 := kZ6.frozen 4
      have y5 := (kZ6.cell 5).trans rfl
      have q5 := kZ6.frozen 5
      have zz := kZ6.lt
      go_wp2
      refine bodyPost_ret (v := .tuple #[.agg #[.int .i64 0, .int .i64 0, .int .i64 0, .int .i64 0, .int .u64 0, .slice none 0 0], .int .i64 BE]) (by simp [results, Tryz.results13, go_sem, y0, y1, y2, y3, y4, y5]) rfl ?_
      refine ⟨?_, Or.inl ⟨by rw [HF.out]; first | exact hE0 | decide, by rw [HF.out]⟩⟩
      iterate 6 refine Below.setCell ?_ (by show w.heap.size ≤ w.heap.size + 1 + 1; omega) _
      exact B6
    subst hBE
    have s15 := (kS6.cell 15).trans rfl
    have zs := kS6.lt
    go_wp2_with fail
    refine (KG _ B6).mono ?_
    rintro e w7 ⟨rfl, b7⟩
    have B7 := B6.trans (b7.mono B6.size)
    have kH7 := kH6.below b7 kH6.lt
    have kV7 := kV6.below b7 kV6.lt
    have kS7 := kS6.below b7 kS6.lt
    have kZ7 := kZ6.below b7 kZ6.lt
    clear kH6 kV6 kS6 kZ6 b7 B6
    clear s15 zs
    cases fs with
    | false =>
      have HF : Hid (P = 2) := by show _ = _; rw [← HP.out]; unfold formP; rw [if_neg (by simp), if_neg (by simp), if_neg (by simp), if_neg (by simp), if_pos rfl]
      have y0 := (kZ7.cell 0).trans rfl
      have q0 := kZ7.frozen 0
      have y1 := (kZ7.cell 1).trans rfl
      have q1 := kZ7.frozen 1
      have y2 := (kZ7.cell 2).trans rfl
      have q2 := kZ7.frozen 2
      have y3 := (kZ7.cell 3).trans rfl
      have q3 := kZ7.frozen 3
      have y4 := (kZ7.cell 4).trans rfl
      have q4 := kZ7.frozen 4
      have y5 := (kZ7.cell 5).trans rfl
      have q5 := kZ7.frozen 5
      have zz := kZ7.lt
      go_wp2
      refine bodyPost_ret (v := .tuple #[.agg #[.int .i64 0, .int .i64 0, .int .i64 0, .int .i64 0, .int .u64 0, .slice none 0 0], .int .i64 2]) (by simp [results, Tryz.results13, go_sem, y0, y1, y2, y3, y4, y5]) rfl ?_
      refine ⟨?_, Or.inl ⟨by rw [HF.out]; first | exact hE0 | decide, by rw [HF.out]⟩⟩
      iterate 6 refine Below.setCell ?_ (by show w.heap.size ≤ w.heap.size + 1 + 1; omega) _
      exact B7
    | true => exact absurd (by unfold formP; simp) hno

set_option maxRecDepth 8000 in
set_option maxHeartbeats 6400000 in
theorem racc_fol (vc vwi vep vh vst : Int) (va : Option Addr) (vcap : Nat) (vl : List (Int × Int)) (hc hh hpa htx hgu hst hre hbe hpr : Int) (kh kr ks : Int) (khas : Bool) (kbl : Int) (fa sa : Option Addr) (fcap scap : Nat) (fr : List Int) (sl : List (Int × Int)) (w : World) (VS HS CS BS : ByteArray) (b1 : 1 ≤ vep ∧ vep ≤ 1099511627775) (b2 : 0 ≤ vh ∧ vh ≤ 1099511627775) (b3 : 0 ≤ hh ∧ hh ≤ 1099511627775)
    (KV : ∀ y : World, Below w.heap.size w y → Calls Tryz.prog 27 #[.agg #[.int .i64 vc, .int .i64 vwi, .int .i64 vep, .int .i64 vh, .int .u64 vst, .slice va vl.length vcap]] y fun e w' => e = .returned (.tuple #[.string VS, .int .i64 0]) ∧ Below y.heap.size y w')
    (KF : ∀ y : World, Below w.heap.size w y → Calls Tryz.prog 28 #[.slice va vl.length vcap] y fun e w' => e = .returned (.bool true) ∧ Below y.heap.size y w')
    (KH : ∀ y : World, Below w.heap.size w y → Calls Tryz.prog 22 #[.agg #[.int .i64 hc, .int .i64 hh, .int .u64 hpa, .int .u64 htx, .int .u64 hgu, .int .u64 hst, .int .u64 hre, .int .u64 hbe, .int .i64 hpr]] y fun e w' => e = .returned (.tuple #[.string HS, .int .i64 0]) ∧ Below y.heap.size y w')
    (KC : ∀ y : World, Below w.heap.size w y → Calls Tryz.prog 29 #[.agg #[.int .i64 kh, .int .i64 kr, .int .i64 ks, .bool khas, .int .u64 kbl, .slice fa fr.length fcap]] y fun e w' => e = .returned (.tuple #[.string CS, .int .i64 0]) ∧ Below y.heap.size y w')
    (KB : ∀ y : World, Below w.heap.size w y → Calls Tryz.prog 30 #[.slice sa sl.length scap] y fun e w' => e = .returned (.tuple #[.string BS, .int .i64 0]) ∧ Below y.heap.size y w')
    (KG : ∀ y : World, Below w.heap.size w y → Calls Tryz.prog 28 #[.slice sa sl.length scap] y fun e w' => e = .returned (.bool true) ∧ Below y.heap.size y w')
    (hno : folP vc vep vh hc hh ≠ 0) :
    Calls Tryz.prog 13 #[.agg #[.int .i64 vc, .int .i64 vwi, .int .i64 vep, .int .i64 vh, .int .u64 vst, .slice va vl.length vcap], .agg #[.int .i64 hc, .int .i64 hh, .int .u64 hpa, .int .u64 htx, .int .u64 hgu, .int .u64 hst, .int .u64 hre, .int .u64 hbe, .int .i64 hpr, .int .i64 kh, .int .i64 kr, .int .i64 ks, .bool khas, .int .u64 kbl, .slice fa fr.length fcap, .slice sa sl.length scap]] w fun e w' => Accepted vc vwi vep hh hst sl (folP vc vep vh hc hh) w e w' := by
  have bA : Below w.heap.size w (((w.alloc (.cells #[.int .i64 vc, .int .i64 vwi, .int .i64 vep, .int .i64 vh, .int .u64 vst, .slice va vl.length vcap] 26)).alloc (.cells #[.int .i64 hc, .int .i64 hh, .int .u64 hpa, .int .u64 htx, .int .u64 hgu, .int .u64 hst, .int .u64 hre, .int .u64 hbe, .int .i64 hpr, .int .i64 kh, .int .i64 kr, .int .i64 ks, .bool khas, .int .u64 kbl, .slice fa fr.length fcap, .slice sa sl.length scap] 34)).alloc (.cells #[.int .i64 0, .int .i64 0, .int .i64 0, .int .i64 0, .int .u64 0, .slice none 0 0] 26)) := (((Below.refl _ _).alloc (Nat.le_refl _) _).alloc (by simp) _).alloc (by simp; omega) _
  have kV0 := ((Blk.new w #[.int .i64 vc, .int .i64 vwi, .int .i64 vep, .int .i64 vh, .int .u64 vst, .slice va vl.length vcap] 26).alloc (.cells #[.int .i64 hc, .int .i64 hh, .int .u64 hpa, .int .u64 htx, .int .u64 hgu, .int .u64 hst, .int .u64 hre, .int .u64 hbe, .int .i64 hpr, .int .i64 kh, .int .i64 kr, .int .i64 ks, .bool khas, .int .u64 kbl, .slice fa fr.length fcap, .slice sa sl.length scap] 34)).alloc (.cells #[.int .i64 0, .int .i64 0, .int .i64 0, .int .i64 0, .int .u64 0, .slice none 0 0] 26)
  have kS0 := (Blk.new (w.alloc (.cells #[.int .i64 vc, .int .i64 vwi, .int .i64 vep, .int .i64 vh, .int .u64 vst, .slice va vl.length vcap] 26)) #[.int .i64 hc, .int .i64 hh, .int .u64 hpa, .int .u64 htx, .int .u64 hgu, .int .u64 hst, .int .u64 hre, .int .u64 hbe, .int .i64 hpr, .int .i64 kh, .int .i64 kr, .int .i64 ks, .bool khas, .int .u64 kbl, .slice fa fr.length fcap, .slice sa sl.length scap] 34).alloc (.cells #[.int .i64 0, .int .i64 0, .int .i64 0, .int .i64 0, .int .u64 0, .slice none 0 0] 26)
  have kZ0 := Blk.new ((w.alloc (.cells #[.int .i64 vc, .int .i64 vwi, .int .i64 vep, .int .i64 vh, .int .u64 vst, .slice va vl.length vcap] 26)).alloc (.cells #[.int .i64 hc, .int .i64 hh, .int .u64 hpa, .int .u64 htx, .int .u64 hgu, .int .u64 hst, .int .u64 hre, .int .u64 hbe, .int .i64 hpr, .int .i64 kh, .int .i64 kr, .int .i64 ks, .bool khas, .int .u64 kbl, .slice fa fr.length fcap, .slice sa sl.length scap] 34)) #[.int .i64 0, .int .i64 0, .int .i64 0, .int .i64 0, .int .u64 0, .slice none 0 0] 26
  simp only [World.size_alloc] at kS0 kZ0
  obtain ⟨P, HP⟩ : ∃ z, Hid (folP vc vep vh hc hh = z) := ⟨_, rfl⟩
  rw [HP.out]
  go_enter Tryz.func13, Tryz.ntmps13
  go_wp2_with fail
  generalize (((w.alloc (.cells #[.int .i64 vc, .int .i64 vwi, .int .i64 vep, .int .i64 vh, .int .u64 vst, .slice va vl.length vcap] 26)).alloc (.cells #[.int .i64 hc, .int .i64 hh, .int .u64 hpa, .int .u64 htx, .int .u64 hgu, .int .u64 hst, .int .u64 hre, .int .u64 hbe, .int .i64 hpr, .int .i64 kh, .int .i64 kr, .int .i64 ks, .bool khas, .int .u64 kbl, .slice fa fr.length fcap, .slice sa sl.length scap] 34)).alloc (.cells #[.int .i64 0, .int .i64 0, .int .i64 0, .int .i64 0, .int .u64 0, .slice none 0 0] 26)) = w0 at *
  have B0 := bA
  clear bA
  refine (KV _ B0).mono ?_
  rintro e w1 ⟨rfl, b1⟩
  have B1 := B0.trans (b1.mono B0.size)
  have kV1 := kV0.below b1 kV0.lt
  have kS1 := kS0.below b1 kS0.lt
  have kZ1 := kZ0.below b1 kZ0.lt
  clear kV0 kS0 kZ0 b1 B0
  have c5 := (kV1.cell 5).trans rfl
  have zv := kV1.lt
  go_wp2_with fail
  refine (KF _ B1).mono ?_
  rintro e w2 ⟨rfl, b2⟩
  have B2 := B1.trans (b2.mono B1.size)
  have kV2 := kV1.below b2 kV1.lt
  have kS2 := kS1.below b2 kS1.lt
  have kZ2 := kZ1.below b2 kZ1.lt
  clear kV1 kS1 kZ1 b2 B1
  clear c5 zv
  have s0 := (kS2.cell 0).trans rfl
  have s1 := (kS2.cell 1).trans rfl
  have s2 := (kS2.cell 2).trans rfl
  have s3 := (kS2.cell 3).trans rfl
  have s4 := (kS2.cell 4).trans rfl
  have s5 := (kS2.cell 5).trans rfl
  have s6 := (kS2.cell 6).trans rfl
  have s7 := (kS2.cell 7).trans rfl
  have s8 := (kS2.cell 8).trans rfl
  have zs := kS2.lt
  have bH : Below w2.heap.size w2 (w2.alloc (.cells #[.int .i64 hc, .int .i64 hh, .int .u64 hpa, .int .u64 htx, .int .u64 hgu, .int .u64 hst, .int .u64 hre, .int .u64 hbe, .int .i64 hpr] 29)) := (Below.refl _ _).alloc (Nat.le_refl _) _
  have kH3 := Blk.new w2 #[.int .i64 hc, .int .i64 hh, .int .u64 hpa, .int .u64 htx, .int .u64 hgu, .int .u64 hst, .int .u64 hre, .int .u64 hbe, .int .i64 hpr] 29
  have kV3 := kV2.alloc (.cells #[.int .i64 hc, .int .i64 hh, .int .u64 hpa, .int .u64 htx, .int .u64 hgu, .int .u64 hst, .int .u64 hre, .int .u64 hbe, .int .i64 hpr] 29)
  have kS3 := kS2.alloc (.cells #[.int .i64 hc, .int .i64 hh, .int .u64 hpa, .int .u64 htx, .int .u64 hgu, .int .u64 hst, .int .u64 hre, .int .u64 hbe, .int .i64 hpr] 29)
  have kZ3 := kZ2.alloc (.cells #[.int .i64 hc, .int .i64 hh, .int .u64 hpa, .int .u64 htx, .int .u64 hgu, .int .u64 hst, .int .u64 hre, .int .u64 hbe, .int .i64 hpr] 29)
  have B3 := B2.trans (bH.mono B2.size)
  have zh : w.heap.size + 1 + 1 < w2.heap.size := kZ2.lt
  clear kV2 kS2 kZ2 B2 bH
  go_wp2_with fail
  generalize w2.alloc (.cells #[.int .i64 hc, .int .i64 hh, .int .u64 hpa, .int .u64 htx, .int .u64 hgu, .int .u64 hst, .int .u64 hre, .int .u64 hbe, .int .i64 hpr] 29) = w3 at *
  generalize w2.heap.size = hb at *
  refine (KH _ B3).mono ?_
  rintro e w4 ⟨rfl, b4⟩
  have B4 := B3.trans (b4.mono B3.size)
  have kH4 := kH3.below b4 kH3.lt
  have kV4 := kV3.below b4 kV3.lt
  have kS4 := kS3.below b4 kS3.lt
  have kZ4 := kZ3.below b4 kZ3.lt
  clear kH3 kV3 kS3 kZ3 b4 B3 s0 s1 s2 s3 s4 s5 s6 s7 s8 zs
  have s9 := (kS4.cell 9).trans rfl
  have s10 := (kS4.cell 10).trans rfl
  have s11 := (kS4.cell 11).trans rfl
  have s12 := (kS4.cell 12).trans rfl
  have s13 := (kS4.cell 13).trans rfl
  have s14 := (kS4.cell 14).trans rfl
  have zs := kS4.lt
  go_wp2_with fail
  refine (KC _ B4).mono ?_
  rintro e w5 ⟨rfl, b5⟩
  have B5 := B4.trans (b5.mono B4.size)
  have kH5 := kH4.below b5 kH4.lt
  have kV5 := kV4.below b5 kV4.lt
  have kS5 := kS4.below b5 kS4.lt
  have kZ5 := kZ4.below b5 kZ4.lt
  clear kH4 kV4 kS4 kZ4 b5 B4
  clear s9 s10 s11 s12 s13 s14 zs
  have s15 := (kS5.cell 15).trans rfl
  have zs := kS5.lt
  go_wp2_with fail
  refine (KB _ B5).mono ?_
  rintro e w6 ⟨rfl, b6⟩
  have B6 := B5.trans (b6.mono B5.size)
  have kH6 := kH5.below b6 kH5.lt
  have kV6 := kV5.below b6 kV5.lt
  have kS6 := kS5.below b6 kS5.lt
  have kZ6 := kZ5.below b6 kZ5.lt
  clear kH5 kV5 kS5 kZ5 b6 B5
  clear s15 zs
  have s15 := (kS6.cell 15).trans rfl
  have zs := kS6.lt
  go_wp2_with fail
  refine (KG _ B6).mono ?_
  rintro e w7 ⟨rfl, b7⟩
  have B7 := B6.trans (b7.mono B6.size)
  have kH7 := kH6.below b7 kH6.lt
  have kV7 := kV6.below b7 kV6.lt
  have kS7 := kS6.below b7 kS6.lt
  have kZ7 := kZ6.below b7 kZ6.lt
  clear kH6 kV6 kS6 kZ6 b7 B6
  clear s15 zs
  have h0 := (kH7.cell 0).trans rfl
  have h1 := (kH7.cell 1).trans rfl
  have v0 := (kV7.cell 0).trans rfl
  have v2 := (kV7.cell 2).trans rfl
  have v3 := (kV7.cell 3).trans rfl
  have zv := kV7.lt
  have zH := kH7.lt
  by_cases hC : hc = vc
  rotate_left
  · have hd : (hc != vc) = true := by simpa using hC
    have HF : Hid (P = 24) := by show _ = _; rw [← HP.out]; unfold folP; rw [if_pos hC]
    have y0 := (kZ7.cell 0).trans rfl
    have q0 := kZ7.frozen 0
    have y1 := (kZ7.cell 1).trans rfl
    have q1 := kZ7.frozen 1
    have y2 := (kZ7.cell 2).trans rfl
    have q2 := kZ7.frozen 2
    have y3 := (kZ7.cell 3).trans rfl
    have q3 := kZ7.frozen 3
    have y4 := (kZ7.cell 4).trans rfl
    have q4 := kZ7.frozen 4
    have y5 := (kZ7.cell 5).trans rfl
    have q5 := kZ7.frozen 5
    have zz := kZ7.lt
    go_wp2
    refine bodyPost_ret (v := .tuple #[.agg #[.int .i64 0, .int .i64 0, .int .i64 0, .int .i64 0, .int .u64 0, .slice none 0 0], .int .i64 24]) (by simp [results, Tryz.results13, go_sem, y0, y1, y2, y3, y4, y5]) rfl ?_
    refine ⟨?_, Or.inl ⟨by rw [HF.out]; first | exact hE0 | decide, by rw [HF.out]⟩⟩
    iterate 6 refine Below.setCell ?_ (by show w.heap.size ≤ w.heap.size + 1 + 1; omega) _
    exact B7
  subst hC
  by_cases hH : hh ≤ vh
  · have HF : Hid (P = 19) := by show _ = _; rw [← HP.out]; unfold folP; rw [if_neg (by simp), if_pos hH]
    have y0 := (kZ7.cell 0).trans rfl
    have q0 := kZ7.frozen 0
    have y1 := (kZ7.cell 1).trans rfl
    have q1 := kZ7.frozen 1
    have y2 := (kZ7.cell 2).trans rfl
    have q2 := kZ7.frozen 2
    have y3 := (kZ7.cell 3).trans rfl
    have q3 := kZ7.frozen 3
    have y4 := (kZ7.cell 4).trans rfl
    have q4 := kZ7.frozen 4
    have y5 := (kZ7.cell 5).trans rfl
    have q5 := kZ7.frozen 5
    have zz := kZ7.lt
    go_wp2
    refine bodyPost_ret (v := .tuple #[.agg #[.int .i64 0, .int .i64 0, .int .i64 0, .int .i64 0, .int .u64 0, .slice none 0 0], .int .i64 19]) (by simp [results, Tryz.results13, go_sem, y0, y1, y2, y3, y4, y5]) rfl ?_
    refine ⟨?_, Or.inl ⟨by rw [HF.out]; first | exact hE0 | decide, by rw [HF.out]⟩⟩
    iterate 6 refine Below.setCell ?_ (by show w.heap.size ≤ w.heap.size + 1 + 1; omega) _
    exact B7
  have hHd : decide (hh ≤ vh) = false := by simpa using hH
  have e1 : epochP hh vep = (hh - 1) / vep := by unfold epochP; rw [if_neg (by omega)]
  have e2 : epochP (vh + 1) vep = vh / vep := by unfold epochP; rw [if_neg (by omega)]; congr 1; omega
  have d1 : (hh - 1).tdiv vep = (hh - 1) / vep := Int.tdiv_eq_ediv_of_nonneg (by omega)
  have d2 : vh.tdiv vep = vh / vep := Int.tdiv_eq_ediv_of_nonneg (by omega)
  have d3 : 0 ≤ (hh - 1) / vep := Int.ediv_nonneg (by omega) (by omega)
  have d4 : (hh - 1) / vep ≤ hh - 1 := Int.ediv_le_self _ (by omega)
  have d5 : 0 ≤ vh / vep := Int.ediv_nonneg (by omega) (by omega)
  have d6 : vh / vep ≤ vh := Int.ediv_le_self _ (by omega)
  have HE1 : Hid (epochP hh vep = (hh - 1) / vep) := e1
  have HE2 : Hid (epochP (vh + 1) vep = vh / vep) := e2
  clear e1 e2
  obtain ⟨X, HX⟩ : ∃ z, Hid ((hh - 1) / vep = z) := ⟨_, rfl⟩
  obtain ⟨Y, HY⟩ : ∃ z, Hid (vh / vep = z) := ⟨_, rfl⟩
  rw [HX.out] at d1 d3 d4
  rw [HY.out] at d2 d5 d6
  have ww := wrapI (hh - 1) (by omega) (by omega)
  have wx := wrapI X (by omega) (by omega)
  have wy := wrapI Y (by omega) (by omega)
  by_cases hX : X = Y
  · exact absurd (by unfold folP; rw [if_neg (by simp), if_neg (by omega), HE1.out, HE2.out, HX.out, HY.out, if_neg (by simpa using hX)]) hno
  have hXd : (X != Y) = true := by simpa using hX
  go_upto_region 22 with fail
  go_quiet (fail)
  generalize hwq : w7.drewN _ = w8 at *
  have b8 : Below w7.heap.size w7 w8 := hwq ▸ below_drewN (Below.refl _ _) _
  have B8 := B7.trans (b8.mono B7.size)
  have kZ8 := kZ7.below b8 kZ7.lt
  clear hwq b8 kZ7 kV7 kS7 kH7 h0 h1 v0 v2 v3
  have HF : Hid (P = 20) := by show _ = _; rw [← HP.out]; unfold folP; rw [if_neg (by simp), if_neg (by omega), HE1.out, HE2.out, HX.out, HY.out, if_pos hX]
  have y0 := (kZ8.cell 0).trans rfl
  have q0 := kZ8.frozen 0
  have y1 := (kZ8.cell 1).trans rfl
  have q1 := kZ8.frozen 1
  have y2 := (kZ8.cell 2).trans rfl
  have q2 := kZ8.frozen 2
  have y3 := (kZ8.cell 3).trans rfl
  have q3 := kZ8.frozen 3
  have y4 := (kZ8.cell 4).trans rfl
  have q4 := kZ8.frozen 4
  have y5 := (kZ8.cell 5).trans rfl
  have q5 := kZ8.frozen 5
  have zz := kZ8.lt
  go_wp2
  refine bodyPost_ret (v := .tuple #[.agg #[.int .i64 0, .int .i64 0, .int .i64 0, .int .i64 0, .int .u64 0, .slice none 0 0], .int .i64 20]) (by simp [results, Tryz.results13, go_sem, y0, y1, y2, y3, y4, y5]) rfl ?_
  refine ⟨?_, Or.inl ⟨by rw [HF.out]; first | exact hE0 | decide, by rw [HF.out]⟩⟩
  iterate 6 refine Below.setCell ?_ (by show w.heap.size ≤ w.heap.size + 1 + 1; omega) _
  exact B8

set_option maxRecDepth 8000 in
set_option maxHeartbeats 6400000 in
theorem racc_dec (vc vwi vep vh vst : Int) (va : Option Addr) (vcap : Nat) (vl : List (Int × Int)) (hc hh hpa htx hgu hst hre hbe hpr : Int) (kh kr ks : Int) (khas : Bool) (kbl : Int) (fa sa : Option Addr) (fcap scap : Nat) (fr : List Int) (sl : List (Int × Int)) (w : World) (VS HS CS BS : ByteArray) (NM CE BD : Int) (b1 : 1 ≤ vep ∧ vep ≤ 1099511627775) (b2 : 0 ≤ vh ∧ vh ≤ 1099511627775) (b3 : 0 ≤ hh ∧ hh ≤ 1099511627775) (hC : hc = vc) (hH : ¬ hh ≤ vh) (hep : epochP hh vep = epochP (vh + 1) vep)
    (KV : ∀ y : World, Below w.heap.size w y → Calls Tryz.prog 27 #[.agg #[.int .i64 vc, .int .i64 vwi, .int .i64 vep, .int .i64 vh, .int .u64 vst, .slice va vl.length vcap]] y fun e w' => e = .returned (.tuple #[.string VS, .int .i64 0]) ∧ Below y.heap.size y w')
    (KF : ∀ y : World, Below w.heap.size w y → Calls Tryz.prog 28 #[.slice va vl.length vcap] y fun e w' => e = .returned (.bool true) ∧ Below y.heap.size y w')
    (KH : ∀ y : World, Below w.heap.size w y → Calls Tryz.prog 22 #[.agg #[.int .i64 hc, .int .i64 hh, .int .u64 hpa, .int .u64 htx, .int .u64 hgu, .int .u64 hst, .int .u64 hre, .int .u64 hbe, .int .i64 hpr]] y fun e w' => e = .returned (.tuple #[.string HS, .int .i64 0]) ∧ Below y.heap.size y w')
    (KC : ∀ y : World, Below w.heap.size w y → Calls Tryz.prog 29 #[.agg #[.int .i64 kh, .int .i64 kr, .int .i64 ks, .bool khas, .int .u64 kbl, .slice fa fr.length fcap]] y fun e w' => e = .returned (.tuple #[.string CS, .int .i64 0]) ∧ Below y.heap.size y w')
    (KB : ∀ y : World, Below w.heap.size w y → Calls Tryz.prog 30 #[.slice sa sl.length scap] y fun e w' => e = .returned (.tuple #[.string BS, .int .i64 0]) ∧ Below y.heap.size y w')
    (KG : ∀ y : World, Below w.heap.size w y → Calls Tryz.prog 28 #[.slice sa sl.length scap] y fun e w' => e = .returned (.bool true) ∧ Below y.heap.size y w')
    (KN : ∀ y : World, Below w.heap.size w y → Calls Tryz.prog 11 #[.int .i64 vwi, .agg #[.int .i64 hc, .int .i64 hh, .int .u64 hpa, .int .u64 htx, .int .u64 hgu, .int .u64 hst, .int .u64 hre, .int .u64 hbe, .int .i64 hpr]] y fun e w' => e = .returned (.int .u64 NM) ∧ Below y.heap.size y w')
    (KK : ∀ y : World, Below w.heap.size w y → Calls Tryz.prog 31 #[.slice va vl.length vcap, .agg #[.int .i64 kh, .int .i64 kr, .int .i64 ks, .bool khas, .int .u64 kbl, .slice fa fr.length fcap]] y fun e w' => e = .returned (.int .i64 CE) ∧ Below y.heap.size y w')
    (KD : ∀ y : World, Below w.heap.size w y → Calls Tryz.prog 16 #[.int .i64 vwi, .slice sa sl.length scap] y fun e w' => e = .returned (.int .u64 BD) ∧ Below y.heap.size y w')
    (hno : decP kh ks khas kbl hh NM CE BD hbe ≠ 0) :
    Calls Tryz.prog 13 #[.agg #[.int .i64 vc, .int .i64 vwi, .int .i64 vep, .int .i64 vh, .int .u64 vst, .slice va vl.length vcap], .agg #[.int .i64 hc, .int .i64 hh, .int .u64 hpa, .int .u64 htx, .int .u64 hgu, .int .u64 hst, .int .u64 hre, .int .u64 hbe, .int .i64 hpr, .int .i64 kh, .int .i64 kr, .int .i64 ks, .bool khas, .int .u64 kbl, .slice fa fr.length fcap, .slice sa sl.length scap]] w fun e w' => Accepted vc vwi vep hh hst sl (decP kh ks khas kbl hh NM CE BD hbe) w e w' := by
  subst hC
  have bA : Below w.heap.size w (((w.alloc (.cells #[.int .i64 hc, .int .i64 vwi, .int .i64 vep, .int .i64 vh, .int .u64 vst, .slice va vl.length vcap] 26)).alloc (.cells #[.int .i64 hc, .int .i64 hh, .int .u64 hpa, .int .u64 htx, .int .u64 hgu, .int .u64 hst, .int .u64 hre, .int .u64 hbe, .int .i64 hpr, .int .i64 kh, .int .i64 kr, .int .i64 ks, .bool khas, .int .u64 kbl, .slice fa fr.length fcap, .slice sa sl.length scap] 34)).alloc (.cells #[.int .i64 0, .int .i64 0, .int .i64 0, .int .i64 0, .int .u64 0, .slice none 0 0] 26)) := (((Below.refl _ _).alloc (Nat.le_refl _) _).alloc (by simp) _).alloc (by simp; omega) _
  have kV0 := ((Blk.new w #[.int .i64 hc, .int .i64 vwi, .int .i64 vep, .int .i64 vh, .int .u64 vst, .slice va vl.length vcap] 26).alloc (.cells #[.int .i64 hc, .int .i64 hh, .int .u64 hpa, .int .u64 htx, .int .u64 hgu, .int .u64 hst, .int .u64 hre, .int .u64 hbe, .int .i64 hpr, .int .i64 kh, .int .i64 kr, .int .i64 ks, .bool khas, .int .u64 kbl, .slice fa fr.length fcap, .slice sa sl.length scap] 34)).alloc (.cells #[.int .i64 0, .int .i64 0, .int .i64 0, .int .i64 0, .int .u64 0, .slice none 0 0] 26)
  have kS0 := (Blk.new (w.alloc (.cells #[.int .i64 hc, .int .i64 vwi, .int .i64 vep, .int .i64 vh, .int .u64 vst, .slice va vl.length vcap] 26)) #[.int .i64 hc, .int .i64 hh, .int .u64 hpa, .int .u64 htx, .int .u64 hgu, .int .u64 hst, .int .u64 hre, .int .u64 hbe, .int .i64 hpr, .int .i64 kh, .int .i64 kr, .int .i64 ks, .bool khas, .int .u64 kbl, .slice fa fr.length fcap, .slice sa sl.length scap] 34).alloc (.cells #[.int .i64 0, .int .i64 0, .int .i64 0, .int .i64 0, .int .u64 0, .slice none 0 0] 26)
  have kZ0 := Blk.new ((w.alloc (.cells #[.int .i64 hc, .int .i64 vwi, .int .i64 vep, .int .i64 vh, .int .u64 vst, .slice va vl.length vcap] 26)).alloc (.cells #[.int .i64 hc, .int .i64 hh, .int .u64 hpa, .int .u64 htx, .int .u64 hgu, .int .u64 hst, .int .u64 hre, .int .u64 hbe, .int .i64 hpr, .int .i64 kh, .int .i64 kr, .int .i64 ks, .bool khas, .int .u64 kbl, .slice fa fr.length fcap, .slice sa sl.length scap] 34)) #[.int .i64 0, .int .i64 0, .int .i64 0, .int .i64 0, .int .u64 0, .slice none 0 0] 26
  simp only [World.size_alloc] at kS0 kZ0
  obtain ⟨P, HP⟩ : ∃ z, Hid (decP kh ks khas kbl hh NM CE BD hbe = z) := ⟨_, rfl⟩
  rw [HP.out]
  go_enter Tryz.func13, Tryz.ntmps13
  go_wp2_with fail
  generalize (((w.alloc (.cells #[.int .i64 hc, .int .i64 vwi, .int .i64 vep, .int .i64 vh, .int .u64 vst, .slice va vl.length vcap] 26)).alloc (.cells #[.int .i64 hc, .int .i64 hh, .int .u64 hpa, .int .u64 htx, .int .u64 hgu, .int .u64 hst, .int .u64 hre, .int .u64 hbe, .int .i64 hpr, .int .i64 kh, .int .i64 kr, .int .i64 ks, .bool khas, .int .u64 kbl, .slice fa fr.length fcap, .slice sa sl.length scap] 34)).alloc (.cells #[.int .i64 0, .int .i64 0, .int .i64 0, .int .i64 0, .int .u64 0, .slice none 0 0] 26)) = w0 at *
  have B0 := bA
  clear bA
  refine (KV _ B0).mono ?_
  rintro e w1 ⟨rfl, b1⟩
  have B1 := B0.trans (b1.mono B0.size)
  have kV1 := kV0.below b1 kV0.lt
  have kS1 := kS0.below b1 kS0.lt
  have kZ1 := kZ0.below b1 kZ0.lt
  clear kV0 kS0 kZ0 b1 B0
  have c5 := (kV1.cell 5).trans rfl
  have zv := kV1.lt
  go_wp2_with fail
  refine (KF _ B1).mono ?_
  rintro e w2 ⟨rfl, b2⟩
  have B2 := B1.trans (b2.mono B1.size)
  have kV2 := kV1.below b2 kV1.lt
  have kS2 := kS1.below b2 kS1.lt
  have kZ2 := kZ1.below b2 kZ1.lt
  clear kV1 kS1 kZ1 b2 B1
  clear c5 zv
  have s0 := (kS2.cell 0).trans rfl
  have s1 := (kS2.cell 1).trans rfl
  have s2 := (kS2.cell 2).trans rfl
  have s3 := (kS2.cell 3).trans rfl
  have s4 := (kS2.cell 4).trans rfl
  have s5 := (kS2.cell 5).trans rfl
  have s6 := (kS2.cell 6).trans rfl
  have s7 := (kS2.cell 7).trans rfl
  have s8 := (kS2.cell 8).trans rfl
  have zs := kS2.lt
  have bH : Below w2.heap.size w2 (w2.alloc (.cells #[.int .i64 hc, .int .i64 hh, .int .u64 hpa, .int .u64 htx, .int .u64 hgu, .int .u64 hst, .int .u64 hre, .int .u64 hbe, .int .i64 hpr] 29)) := (Below.refl _ _).alloc (Nat.le_refl _) _
  have kH3 := Blk.new w2 #[.int .i64 hc, .int .i64 hh, .int .u64 hpa, .int .u64 htx, .int .u64 hgu, .int .u64 hst, .int .u64 hre, .int .u64 hbe, .int .i64 hpr] 29
  have kV3 := kV2.alloc (.cells #[.int .i64 hc, .int .i64 hh, .int .u64 hpa, .int .u64 htx, .int .u64 hgu, .int .u64 hst, .int .u64 hre, .int .u64 hbe, .int .i64 hpr] 29)
  have kS3 := kS2.alloc (.cells #[.int .i64 hc, .int .i64 hh, .int .u64 hpa, .int .u64 htx, .int .u64 hgu, .int .u64 hst, .int .u64 hre, .int .u64 hbe, .int .i64 hpr] 29)
  have kZ3 := kZ2.alloc (.cells #[.int .i64 hc, .int .i64 hh, .int .u64 hpa, .int .u64 htx, .int .u64 hgu, .int .u64 hst, .int .u64 hre, .int .u64 hbe, .int .i64 hpr] 29)
  have B3 := B2.trans (bH.mono B2.size)
  have zh : w.heap.size + 1 + 1 < w2.heap.size := kZ2.lt
  clear kV2 kS2 kZ2 B2 bH
  go_wp2_with fail
  generalize w2.alloc (.cells #[.int .i64 hc, .int .i64 hh, .int .u64 hpa, .int .u64 htx, .int .u64 hgu, .int .u64 hst, .int .u64 hre, .int .u64 hbe, .int .i64 hpr] 29) = w3 at *
  generalize w2.heap.size = hb at *
  refine (KH _ B3).mono ?_
  rintro e w4 ⟨rfl, b4⟩
  have B4 := B3.trans (b4.mono B3.size)
  have kH4 := kH3.below b4 kH3.lt
  have kV4 := kV3.below b4 kV3.lt
  have kS4 := kS3.below b4 kS3.lt
  have kZ4 := kZ3.below b4 kZ3.lt
  clear kH3 kV3 kS3 kZ3 b4 B3 s0 s1 s2 s3 s4 s5 s6 s7 s8 zs
  have s9 := (kS4.cell 9).trans rfl
  have s10 := (kS4.cell 10).trans rfl
  have s11 := (kS4.cell 11).trans rfl
  have s12 := (kS4.cell 12).trans rfl
  have s13 := (kS4.cell 13).trans rfl
  have s14 := (kS4.cell 14).trans rfl
  have zs := kS4.lt
  go_wp2_with fail
  refine (KC _ B4).mono ?_
  rintro e w5 ⟨rfl, b5⟩
  have B5 := B4.trans (b5.mono B4.size)
  have kH5 := kH4.below b5 kH4.lt
  have kV5 := kV4.below b5 kV4.lt
  have kS5 := kS4.below b5 kS4.lt
  have kZ5 := kZ4.below b5 kZ4.lt
  clear kH4 kV4 kS4 kZ4 b5 B4
  clear s9 s10 s11 s12 s13 s14 zs
  have s15 := (kS5.cell 15).trans rfl
  have zs := kS5.lt
  go_wp2_with fail
  refine (KB _ B5).mono ?_
  rintro e w6 ⟨rfl, b6⟩
  have B6 := B5.trans (b6.mono B5.size)
  have kH6 := kH5.below b6 kH5.lt
  have kV6 := kV5.below b6 kV5.lt
  have kS6 := kS5.below b6 kS5.lt
  have kZ6 := kZ5.below b6 kZ5.lt
  clear kH5 kV5 kS5 kZ5 b6 B5
  clear s15 zs
  have s15 := (kS6.cell 15).trans rfl
  have zs := kS6.lt
  go_wp2_with fail
  refine (KG _ B6).mono ?_
  rintro e w7 ⟨rfl, b7⟩
  have B7 := B6.trans (b7.mono B6.size)
  have kH7 := kH6.below b7 kH6.lt
  have kV7 := kV6.below b7 kV6.lt
  have kS7 := kS6.below b7 kS6.lt
  have kZ7 := kZ6.below b7 kZ6.lt
  clear kH6 kV6 kS6 kZ6 b7 B6
  clear s15 zs
  have h0 := (kH7.cell 0).trans rfl
  have h1 := (kH7.cell 1).trans rfl
  have v0 := (kV7.cell 0).trans rfl
  have v2 := (kV7.cell 2).trans rfl
  have v3 := (kV7.cell 3).trans rfl
  have zv := kV7.lt
  have zH := kH7.lt
  have hHd : decide (hh ≤ vh) = false := by simpa using hH
  have e1 : epochP hh vep = (hh - 1) / vep := by unfold epochP; rw [if_neg (by omega)]
  have e2 : epochP (vh + 1) vep = vh / vep := by unfold epochP; rw [if_neg (by omega)]; congr 1; omega
  have d1 : (hh - 1).tdiv vep = (hh - 1) / vep := Int.tdiv_eq_ediv_of_nonneg (by omega)
  have d2 : vh.tdiv vep = vh / vep := Int.tdiv_eq_ediv_of_nonneg (by omega)
  have d3 : 0 ≤ (hh - 1) / vep := Int.ediv_nonneg (by omega) (by omega)
  have d4 : (hh - 1) / vep ≤ hh - 1 := Int.ediv_le_self _ (by omega)
  have d5 : 0 ≤ vh / vep := Int.ediv_nonneg (by omega) (by omega)
  have d6 : vh / vep ≤ vh := Int.ediv_le_self _ (by omega)
  have HE1 : Hid (epochP hh vep = (hh - 1) / vep) := e1
  have HE2 : Hid (epochP (vh + 1) vep = vh / vep) := e2
  clear e1 e2
  obtain ⟨X, HX⟩ : ∃ z, Hid ((hh - 1) / vep = z) := ⟨_, rfl⟩
  obtain ⟨Y, HY⟩ : ∃ z, Hid (vh / vep = z) := ⟨_, rfl⟩
  rw [HX.out] at d1 d3 d4
  rw [HY.out] at d2 d5 d6
  have ww := wrapI (hh - 1) (by omega) (by omega)
  have wx := wrapI X (by omega) (by omega)
  have wy := wrapI Y (by omega) (by omega)
  have hX : X = Y := by rw [← HX.out, ← HY.out, ← HE1.out, ← HE2.out]; exact hep
  subst hX
  go_upto_region 22 with fail
  go_quiet (fail)
  generalize hwq : w7.drewN _ = w8 at *
  have b8 : Below w7.heap.size w7 w8 := hwq ▸ below_drewN (Below.refl _ _) _
  have B8 := B7.trans (b8.mono B7.size)
  have kZ8 := kZ7.below b8 kZ7.lt
  have kV8 := kV7.below b8 kV7.lt
  have kS8 := kS7.below b8 kS7.lt
  have kH8 := kH7.below b8 kH7.lt
  clear hwq b8 kZ7 kV7 kS7 kH7 h0 h1 v0 v2 v3 zv zH B7 HE1 HE2 HX HY ww wx wy d1 d2 d3 d4 d5 d6
  have s9 := (kS8.cell 9).trans rfl
  have s10 := (kS8.cell 10).trans rfl
  have s11 := (kS8.cell 11).trans rfl
  have s12 := (kS8.cell 12).trans rfl
  have s13 := (kS8.cell 13).trans rfl
  have s14 := (kS8.cell 14).trans rfl
  have zs := kS8.lt
  have v1 := (kV8.cell 1).trans rfl
  have zv := kV8.lt
  have zH := kH8.lt
  have h0 := (kH8.cell 0).trans rfl
  have h1 := (kH8.cell 1).trans rfl
  have h2 := (kH8.cell 2).trans rfl
  have h3 := (kH8.cell 3).trans rfl
  have h4 := (kH8.cell 4).trans rfl
  have h5 := (kH8.cell 5).trans rfl
  have h6 := (kH8.cell 6).trans rfl
  have h7 := (kH8.cell 7).trans rfl
  have h8 := (kH8.cell 8).trans rfl
  have bC : Below w8.heap.size w8 (w8.alloc (.cells #[.int .i64 kh, .int .i64 kr, .int .i64 ks, .bool khas, .int .u64 kbl, .slice fa fr.length fcap] 32)) := (Below.refl _ _).alloc (Nat.le_refl _) _
  have kC9 := Blk.new w8 #[.int .i64 kh, .int .i64 kr, .int .i64 ks, .bool khas, .int .u64 kbl, .slice fa fr.length fcap] 32
  have kV9 := kV8.alloc (.cells #[.int .i64 kh, .int .i64 kr, .int .i64 ks, .bool khas, .int .u64 kbl, .slice fa fr.length fcap] 32)
  have kS9 := kS8.alloc (.cells #[.int .i64 kh, .int .i64 kr, .int .i64 ks, .bool khas, .int .u64 kbl, .slice fa fr.length fcap] 32)
  have kZ9 := kZ8.alloc (.cells #[.int .i64 kh, .int .i64 kr, .int .i64 ks, .bool khas, .int .u64 kbl, .slice fa fr.length fcap] 32)
  have kH9 := kH8.alloc (.cells #[.int .i64 kh, .int .i64 kr, .int .i64 ks, .bool khas, .int .u64 kbl, .slice fa fr.length fcap] 32)
  have B9 := B8.trans (bC.mono B8.size)
  have zh8 : hb < w8.heap.size := kH8.lt
  have zz8 : w.heap.size + 1 + 1 < w8.heap.size := kZ8.lt
  clear kV8 kS8 kZ8 kH8 B8 bC
  go_wp2_with fail
  generalize w8.alloc (.cells #[.int .i64 kh, .int .i64 kr, .int .i64 ks, .bool khas, .int .u64 kbl, .slice fa fr.length fcap] 32) = w9 at *
  generalize w8.heap.size = cb at *
  refine (KN _ B9).mono ?_
  rintro e w10 ⟨rfl, b10⟩
  have B10 := B9.trans (b10.mono B9.size)
  have kC10 := kC9.below b10 kC9.lt
  have kH10 := kH9.below b10 kH9.lt
  have kV10 := kV9.below b10 kV9.lt
  have kS10 := kS9.below b10 kS9.lt
  have kZ10 := kZ9.below b10 kZ9.lt
  clear kC9 kH9 kV9 kS9 kZ9 b10 B9 s9 s10 s11 s12 s13 s14 zs v1 zv h0 h1 h2 h3 h4 h5 h6 h7 h8
  have c0 := (kC10.cell 0).trans rfl
  have c2 := (kC10.cell 2).trans rfl
  have c3 := (kC10.cell 3).trans rfl
  have c4 := (kC10.cell 4).trans rfl
  have h1 := (kH10.cell 1).trans rfl
  have zc := kC10.lt
  have zH := kH10.lt
  by_cases hA : kh = hh
  rotate_left
  · have hd : (kh != hh) = true := by simpa using hA
    have HF : Hid (P = 5) := by show _ = _; rw [← HP.out]; unfold decP; rw [if_pos hA]
    have y0 := (kZ10.cell 0).trans rfl
    have q0 := kZ10.frozen 0
    have y1 := (kZ10.cell 1).trans rfl
    have q1 := kZ10.frozen 1
    have y2 := (kZ10.cell 2).trans rfl
    have q2 := kZ10.frozen 2
    have y3 := (kZ10.cell 3).trans rfl
    have q3 := kZ10.frozen 3
    have y4 := (kZ10.cell 4).trans rfl
    have q4 := kZ10.frozen 4
    have y5 := (kZ10.cell 5).trans rfl
    have q5 := kZ10.frozen 5
    have zz := kZ10.lt
    go_wp2
    refine bodyPost_ret (v := .tuple #[.agg #[.int .i64 0, .int .i64 0, .int .i64 0, .int .i64 0, .int .u64 0, .slice none 0 0], .int .i64 5]) (by simp [results, Tryz.results13, go_sem, y0, y1, y2, y3, y4, y5]) rfl ?_
    refine ⟨?_, Or.inl ⟨by rw [HF.out]; first | exact hE0 | decide, by rw [HF.out]⟩⟩
    iterate 6 refine Below.setCell ?_ (by show w.heap.size ≤ w.heap.size + 1 + 1; omega) _
    exact B10
  subst hA
  by_cases hB : ks = 2
  rotate_left
  · have hd : (ks != 2) = true := by simpa using hB
    have HF : Hid (P = 5) := by show _ = _; rw [← HP.out]; unfold decP; rw [if_neg (by simp), if_pos hB]
    have y0 := (kZ10.cell 0).trans rfl
    have q0 := kZ10.frozen 0
    have y1 := (kZ10.cell 1).trans rfl
    have q1 := kZ10.frozen 1
    have y2 := (kZ10.cell 2).trans rfl
    have q2 := kZ10.frozen 2
    have y3 := (kZ10.cell 3).trans rfl
    have q3 := kZ10.frozen 3
    have y4 := (kZ10.cell 4).trans rfl
    have q4 := kZ10.frozen 4
    have y5 := (kZ10.cell 5).trans rfl
    have q5 := kZ10.frozen 5
    have zz := kZ10.lt
    go_wp2
    refine bodyPost_ret (v := .tuple #[.agg #[.int .i64 0, .int .i64 0, .int .i64 0, .int .i64 0, .int .u64 0, .slice none 0 0], .int .i64 5]) (by simp [results, Tryz.results13, go_sem, y0, y1, y2, y3, y4, y5]) rfl ?_
    refine ⟨?_, Or.inl ⟨by rw [HF.out]; first | exact hE0 | decide, by rw [HF.out]⟩⟩
    iterate 6 refine Below.setCell ?_ (by show w.heap.size ≤ w.heap.size + 1 + 1; omega) _
    exact B10
  subst hB
  cases khas with
  | false =>
    have HF : Hid (P = 5) := by show _ = _; rw [← HP.out]; unfold decP; rw [if_neg (by simp), if_neg (by simp), if_pos rfl]
    have y0 := (kZ10.cell 0).trans rfl
    have q0 := kZ10.frozen 0
    have y1 := (kZ10.cell 1).trans rfl
    have q1 := kZ10.frozen 1
    have y2 := (kZ10.cell 2).trans rfl
    have q2 := kZ10.frozen 2
    have y3 := (kZ10.cell 3).trans rfl
    have q3 := kZ10.frozen 3
    have y4 := (kZ10.cell 4).trans rfl
    have q4 := kZ10.frozen 4
    have y5 := (kZ10.cell 5).trans rfl
    have q5 := kZ10.frozen 5
    have zz := kZ10.lt
    go_wp2
    refine bodyPost_ret (v := .tuple #[.agg #[.int .i64 0, .int .i64 0, .int .i64 0, .int .i64 0, .int .u64 0, .slice none 0 0], .int .i64 5]) (by simp [results, Tryz.results13, go_sem, y0, y1, y2, y3, y4, y5]) rfl ?_
    refine ⟨?_, Or.inl ⟨by rw [HF.out]; first | exact hE0 | decide, by rw [HF.out]⟩⟩
    iterate 6 refine Below.setCell ?_ (by show w.heap.size ≤ w.heap.size + 1 + 1; omega) _
    exact B10
  | true =>
    by_cases hD : kbl = NM
    rotate_left
    · have hd : (kbl != NM) = true := by simpa using hD
      have HF : Hid (P = 5) := by show _ = _; rw [← HP.out]; unfold decP; rw [if_neg (by simp), if_neg (by simp), if_neg (by simp), if_pos hD]
      have y0 := (kZ10.cell 0).trans rfl
      have q0 := kZ10.frozen 0
      have y1 := (kZ10.cell 1).trans rfl
      have q1 := kZ10.frozen 1
      have y2 := (kZ10.cell 2).trans rfl
      have q2 := kZ10.frozen 2
      have y3 := (kZ10.cell 3).trans rfl
      have q3 := kZ10.frozen 3
      have y4 := (kZ10.cell 4).trans rfl
      have q4 := kZ10.frozen 4
      have y5 := (kZ10.cell 5).trans rfl
      have q5 := kZ10.frozen 5
      have zz := kZ10.lt
      go_wp2
      refine bodyPost_ret (v := .tuple #[.agg #[.int .i64 0, .int .i64 0, .int .i64 0, .int .i64 0, .int .u64 0, .slice none 0 0], .int .i64 5]) (by simp [results, Tryz.results13, go_sem, y0, y1, y2, y3, y4, y5]) rfl ?_
      refine ⟨?_, Or.inl ⟨by rw [HF.out]; first | exact hE0 | decide, by rw [HF.out]⟩⟩
      iterate 6 refine Below.setCell ?_ (by show w.heap.size ≤ w.heap.size + 1 + 1; omega) _
      exact B10
    subst hD
    have v5 := (kV10.cell 5).trans rfl
    have zv := kV10.lt
    have c1 := (kC10.cell 1).trans rfl
    have c5 := (kC10.cell 5).trans rfl
    go_wp2_with fail
    refine (KK _ B10).mono ?_
    rintro e w11 ⟨rfl, b11⟩
    have B11 := B10.trans (b11.mono B10.size)
    have kH11 := kH10.below b11 kH10.lt
    have kV11 := kV10.below b11 kV10.lt
    have kS11 := kS10.below b11 kS10.lt
    have kZ11 := kZ10.below b11 kZ10.lt
    clear kC10 kH10 kV10 kS10 kZ10 b11 B10 c0 c1 c2 c3 c4 c5 h1 v5 zv zc zH
    by_cases hCE : CE = 0
    rotate_left
    · have hd : (CE != 0) = true := by simpa using hCE
      have hE0 : CE ≠ 0 := hCE
      have HF : Hid (P = CE) := by show _ = _; rw [← HP.out]; unfold decP; rw [if_neg (by simp), if_neg (by simp), if_neg (by simp), if_neg (by simp), if_pos hCE]
      have y0 := (kZ11.cell 0).trans rfl
      have q0 := kZ11.frozen 0
      have y1 := (kZ11.cell 1).trans rfl
      have q1 := kZ11.frozen 1
      have y2 := (kZ11.cell 2).trans rfl
      have q2 := kZ11.frozen 2
      have y3 := (kZ11.cell 3).trans rfl
      have q3 := kZ11.frozen 3
      have y4 := (kZ11.cell 4).trans rfl
      have q4 := kZ11.frozen 4
      have y5 := (kZ11.cell 5).trans rfl
      have q5 := kZ11.frozen 5
      have zz := kZ11.lt
      go_wp2
      refine bodyPost_ret (v := .tuple #[.agg #[.int .i64 0, .int .i64 0, .int .i64 0, .int .i64 0, .int .u64 0, .slice none 0 0], .int .i64 CE]) (by simp [results, Tryz.results13, go_sem, y0, y1, y2, y3, y4, y5]) rfl ?_
      refine ⟨?_, Or.inl ⟨by rw [HF.out]; first | exact hE0 | decide, by rw [HF.out]⟩⟩
      iterate 6 refine Below.setCell ?_ (by show w.heap.size ≤ w.heap.size + 1 + 1; omega) _
      exact B11
    subst hCE
    have v1 := (kV11.cell 1).trans rfl
    have zv := kV11.lt
    have s15 := (kS11.cell 15).trans rfl
    have zs := kS11.lt
    go_wp2_with fail
    refine (KD _ B11).mono ?_
    rintro e w12 ⟨rfl, b12⟩
    have B12 := B11.trans (b12.mono B11.size)
    have kH12 := kH11.below b12 kH11.lt
    have kV12 := kV11.below b12 kV11.lt
    have kS12 := kS11.below b12 kS11.lt
    have kZ12 := kZ11.below b12 kZ11.lt
    clear kH11 kV11 kS11 kZ11 b12 B11 v1 zv s15 zs
    have h7 := (kH12.cell 7).trans rfl
    have zH := kH12.lt
    by_cases hBD : BD = hbe
    · exact absurd (by unfold decP; rw [if_neg (by simp), if_neg (by simp), if_neg (by simp), if_neg (by simp), if_neg (by simp), if_neg (by simpa using hBD)]) hno
    · have hd : (BD != hbe) = true := by simpa using hBD
      have HF : Hid (P = 5) := by show _ = _; rw [← HP.out]; unfold decP; rw [if_neg (by simp), if_neg (by simp), if_neg (by simp), if_neg (by simp), if_neg (by simp), if_pos hBD]
      have y0 := (kZ12.cell 0).trans rfl
      have q0 := kZ12.frozen 0
      have y1 := (kZ12.cell 1).trans rfl
      have q1 := kZ12.frozen 1
      have y2 := (kZ12.cell 2).trans rfl
      have q2 := kZ12.frozen 2
      have y3 := (kZ12.cell 3).trans rfl
      have q3 := kZ12.frozen 3
      have y4 := (kZ12.cell 4).trans rfl
      have q4 := kZ12.frozen 4
      have y5 := (kZ12.cell 5).trans rfl
      have q5 := kZ12.frozen 5
      have zz := kZ12.lt
      go_wp2
      refine bodyPost_ret (v := .tuple #[.agg #[.int .i64 0, .int .i64 0, .int .i64 0, .int .i64 0, .int .u64 0, .slice none 0 0], .int .i64 5]) (by simp [results, Tryz.results13, go_sem, y0, y1, y2, y3, y4, y5]) rfl ?_
      refine ⟨?_, Or.inl ⟨by rw [HF.out]; first | exact hE0 | decide, by rw [HF.out]⟩⟩
      iterate 6 refine Below.setCell ?_ (by show w.heap.size ≤ w.heap.size + 1 + 1; omega) _
      exact B12

set_option maxRecDepth 8000 in
set_option maxHeartbeats 6400000 in
theorem racc_ok (vc vwi vep vh vst : Int) (va : Option Addr) (vcap : Nat) (vl : List (Int × Int)) (hc hh hpa htx hgu hst hre hbe hpr : Int) (kh kr ks : Int) (khas : Bool) (kbl : Int) (fa sa : Option Addr) (fcap scap : Nat) (fr : List Int) (sl : List (Int × Int)) (w : World) (VS HS CS BS : ByteArray) (NM : Int) (b1 : 1 ≤ vep ∧ vep ≤ 1099511627775) (b2 : 0 ≤ vh ∧ vh ≤ 1099511627775) (b3 : 0 ≤ hh ∧ hh ≤ 1099511627775) (hH : ¬ hh ≤ vh) (hep : epochP hh vep = epochP (vh + 1) vep) (hl : sl.length ≤ 4096) (hsl : SL w sa sl scap)
    (KV : ∀ y : World, Below w.heap.size w y → Calls Tryz.prog 27 #[.agg #[.int .i64 vc, .int .i64 vwi, .int .i64 vep, .int .i64 vh, .int .u64 vst, .slice va vl.length vcap]] y fun e w' => e = .returned (.tuple #[.string VS, .int .i64 0]) ∧ Below y.heap.size y w')
    (KF : ∀ y : World, Below w.heap.size w y → Calls Tryz.prog 28 #[.slice va vl.length vcap] y fun e w' => e = .returned (.bool true) ∧ Below y.heap.size y w')
    (KH : ∀ y : World, Below w.heap.size w y → Calls Tryz.prog 22 #[.agg #[.int .i64 vc, .int .i64 hh, .int .u64 hpa, .int .u64 htx, .int .u64 hgu, .int .u64 hst, .int .u64 hre, .int .u64 hbe, .int .i64 hpr]] y fun e w' => e = .returned (.tuple #[.string HS, .int .i64 0]) ∧ Below y.heap.size y w')
    (KC : ∀ y : World, Below w.heap.size w y → Calls Tryz.prog 29 #[.agg #[.int .i64 hh, .int .i64 kr, .int .i64 2, .bool true, .int .u64 NM, .slice fa fr.length fcap]] y fun e w' => e = .returned (.tuple #[.string CS, .int .i64 0]) ∧ Below y.heap.size y w')
    (KB : ∀ y : World, Below w.heap.size w y → Calls Tryz.prog 30 #[.slice sa sl.length scap] y fun e w' => e = .returned (.tuple #[.string BS, .int .i64 0]) ∧ Below y.heap.size y w')
    (KG : ∀ y : World, Below w.heap.size w y → Calls Tryz.prog 28 #[.slice sa sl.length scap] y fun e w' => e = .returned (.bool true) ∧ Below y.heap.size y w')
    (KN : ∀ y : World, Below w.heap.size w y → Calls Tryz.prog 11 #[.int .i64 vwi, .agg #[.int .i64 vc, .int .i64 hh, .int .u64 hpa, .int .u64 htx, .int .u64 hgu, .int .u64 hst, .int .u64 hre, .int .u64 hbe, .int .i64 hpr]] y fun e w' => e = .returned (.int .u64 NM) ∧ Below y.heap.size y w')
    (KK : ∀ y : World, Below w.heap.size w y → Calls Tryz.prog 31 #[.slice va vl.length vcap, .agg #[.int .i64 hh, .int .i64 kr, .int .i64 2, .bool true, .int .u64 NM, .slice fa fr.length fcap]] y fun e w' => e = .returned (.int .i64 0) ∧ Below y.heap.size y w')
    (KD : ∀ y : World, Below w.heap.size w y → Calls Tryz.prog 16 #[.int .i64 vwi, .slice sa sl.length scap] y fun e w' => e = .returned (.int .u64 hbe) ∧ Below y.heap.size y w')
    : Calls Tryz.prog 13 #[.agg #[.int .i64 vc, .int .i64 vwi, .int .i64 vep, .int .i64 vh, .int .u64 vst, .slice va vl.length vcap], .agg #[.int .i64 vc, .int .i64 hh, .int .u64 hpa, .int .u64 htx, .int .u64 hgu, .int .u64 hst, .int .u64 hre, .int .u64 hbe, .int .i64 hpr, .int .i64 hh, .int .i64 kr, .int .i64 2, .bool true, .int .u64 NM, .slice fa fr.length fcap, .slice sa sl.length scap]] w fun e w' => Accepted vc vwi vep hh hst sl (0) w e w' := by
  have bA : Below w.heap.size w (((w.alloc (.cells #[.int .i64 vc, .int .i64 vwi, .int .i64 vep, .int .i64 vh, .int .u64 vst, .slice va vl.length vcap] 26)).alloc (.cells #[.int .i64 vc, .int .i64 hh, .int .u64 hpa, .int .u64 htx, .int .u64 hgu, .int .u64 hst, .int .u64 hre, .int .u64 hbe, .int .i64 hpr, .int .i64 hh, .int .i64 kr, .int .i64 2, .bool true, .int .u64 NM, .slice fa fr.length fcap, .slice sa sl.length scap] 34)).alloc (.cells #[.int .i64 0, .int .i64 0, .int .i64 0, .int .i64 0, .int .u64 0, .slice none 0 0] 26)) := (((Below.refl _ _).alloc (Nat.le_refl _) _).alloc (by simp) _).alloc (by simp; omega) _
  have kV0 := ((Blk.new w #[.int .i64 vc, .int .i64 vwi, .int .i64 vep, .int .i64 vh, .int .u64 vst, .slice va vl.length vcap] 26).alloc (.cells #[.int .i64 vc, .int .i64 hh, .int .u64 hpa, .int .u64 htx, .int .u64 hgu, .int .u64 hst, .int .u64 hre, .int .u64 hbe, .int .i64 hpr, .int .i64 hh, .int .i64 kr, .int .i64 2, .bool true, .int .u64 NM, .slice fa fr.length fcap, .slice sa sl.length scap] 34)).alloc (.cells #[.int .i64 0, .int .i64 0, .int .i64 0, .int .i64 0, .int .u64 0, .slice none 0 0] 26)
  have kS0 := (Blk.new (w.alloc (.cells #[.int .i64 vc, .int .i64 vwi, .int .i64 vep, .int .i64 vh, .int .u64 vst, .slice va vl.length vcap] 26)) #[.int .i64 vc, .int .i64 hh, .int .u64 hpa, .int .u64 htx, .int .u64 hgu, .int .u64 hst, .int .u64 hre, .int .u64 hbe, .int .i64 hpr, .int .i64 hh, .int .i64 kr, .int .i64 2, .bool true, .int .u64 NM, .slice fa fr.length fcap, .slice sa sl.length scap] 34).alloc (.cells #[.int .i64 0, .int .i64 0, .int .i64 0, .int .i64 0, .int .u64 0, .slice none 0 0] 26)
  have kZ0 := Blk.new ((w.alloc (.cells #[.int .i64 vc, .int .i64 vwi, .int .i64 vep, .int .i64 vh, .int .u64 vst, .slice va vl.length vcap] 26)).alloc (.cells #[.int .i64 vc, .int .i64 hh, .int .u64 hpa, .int .u64 htx, .int .u64 hgu, .int .u64 hst, .int .u64 hre, .int .u64 hbe, .int .i64 hpr, .int .i64 hh, .int .i64 kr, .int .i64 2, .bool true, .int .u64 NM, .slice fa fr.length fcap, .slice sa sl.length scap] 34)) #[.int .i64 0, .int .i64 0, .int .i64 0, .int .i64 0, .int .u64 0, .slice none 0 0] 26
  simp only [World.size_alloc] at kS0 kZ0
  go_enter Tryz.func13, Tryz.ntmps13
  go_wp2_with fail
  generalize (((w.alloc (.cells #[.int .i64 vc, .int .i64 vwi, .int .i64 vep, .int .i64 vh, .int .u64 vst, .slice va vl.length vcap] 26)).alloc (.cells #[.int .i64 vc, .int .i64 hh, .int .u64 hpa, .int .u64 htx, .int .u64 hgu, .int .u64 hst, .int .u64 hre, .int .u64 hbe, .int .i64 hpr, .int .i64 hh, .int .i64 kr, .int .i64 2, .bool true, .int .u64 NM, .slice fa fr.length fcap, .slice sa sl.length scap] 34)).alloc (.cells #[.int .i64 0, .int .i64 0, .int .i64 0, .int .i64 0, .int .u64 0, .slice none 0 0] 26)) = w0 at *
  have B0 := bA
  clear bA
  refine (KV _ B0).mono ?_
  rintro e w1 ⟨rfl, b1⟩
  have B1 := B0.trans (b1.mono B0.size)
  have kV1 := kV0.below b1 kV0.lt
  have kS1 := kS0.below b1 kS0.lt
  have kZ1 := kZ0.below b1 kZ0.lt
  clear kV0 kS0 kZ0 b1 B0
  have c5 := (kV1.cell 5).trans rfl
  have zv := kV1.lt
  go_wp2_with fail
  refine (KF _ B1).mono ?_
  rintro e w2 ⟨rfl, b2⟩
  have B2 := B1.trans (b2.mono B1.size)
  have kV2 := kV1.below b2 kV1.lt
  have kS2 := kS1.below b2 kS1.lt
  have kZ2 := kZ1.below b2 kZ1.lt
  clear kV1 kS1 kZ1 b2 B1
  clear c5 zv
  have s0 := (kS2.cell 0).trans rfl
  have s1 := (kS2.cell 1).trans rfl
  have s2 := (kS2.cell 2).trans rfl
  have s3 := (kS2.cell 3).trans rfl
  have s4 := (kS2.cell 4).trans rfl
  have s5 := (kS2.cell 5).trans rfl
  have s6 := (kS2.cell 6).trans rfl
  have s7 := (kS2.cell 7).trans rfl
  have s8 := (kS2.cell 8).trans rfl
  have zs := kS2.lt
  have bH : Below w2.heap.size w2 (w2.alloc (.cells #[.int .i64 vc, .int .i64 hh, .int .u64 hpa, .int .u64 htx, .int .u64 hgu, .int .u64 hst, .int .u64 hre, .int .u64 hbe, .int .i64 hpr] 29)) := (Below.refl _ _).alloc (Nat.le_refl _) _
  have kH3 := Blk.new w2 #[.int .i64 vc, .int .i64 hh, .int .u64 hpa, .int .u64 htx, .int .u64 hgu, .int .u64 hst, .int .u64 hre, .int .u64 hbe, .int .i64 hpr] 29
  have kV3 := kV2.alloc (.cells #[.int .i64 vc, .int .i64 hh, .int .u64 hpa, .int .u64 htx, .int .u64 hgu, .int .u64 hst, .int .u64 hre, .int .u64 hbe, .int .i64 hpr] 29)
  have kS3 := kS2.alloc (.cells #[.int .i64 vc, .int .i64 hh, .int .u64 hpa, .int .u64 htx, .int .u64 hgu, .int .u64 hst, .int .u64 hre, .int .u64 hbe, .int .i64 hpr] 29)
  have kZ3 := kZ2.alloc (.cells #[.int .i64 vc, .int .i64 hh, .int .u64 hpa, .int .u64 htx, .int .u64 hgu, .int .u64 hst, .int .u64 hre, .int .u64 hbe, .int .i64 hpr] 29)
  have B3 := B2.trans (bH.mono B2.size)
  have zh : w.heap.size + 1 + 1 < w2.heap.size := kZ2.lt
  clear kV2 kS2 kZ2 B2 bH
  go_wp2_with fail
  generalize w2.alloc (.cells #[.int .i64 vc, .int .i64 hh, .int .u64 hpa, .int .u64 htx, .int .u64 hgu, .int .u64 hst, .int .u64 hre, .int .u64 hbe, .int .i64 hpr] 29) = w3 at *
  generalize w2.heap.size = hb at *
  refine (KH _ B3).mono ?_
  rintro e w4 ⟨rfl, b4⟩
  have B4 := B3.trans (b4.mono B3.size)
  have kH4 := kH3.below b4 kH3.lt
  have kV4 := kV3.below b4 kV3.lt
  have kS4 := kS3.below b4 kS3.lt
  have kZ4 := kZ3.below b4 kZ3.lt
  clear kH3 kV3 kS3 kZ3 b4 B3 s0 s1 s2 s3 s4 s5 s6 s7 s8 zs
  have s9 := (kS4.cell 9).trans rfl
  have s10 := (kS4.cell 10).trans rfl
  have s11 := (kS4.cell 11).trans rfl
  have s12 := (kS4.cell 12).trans rfl
  have s13 := (kS4.cell 13).trans rfl
  have s14 := (kS4.cell 14).trans rfl
  have zs := kS4.lt
  go_wp2_with fail
  refine (KC _ B4).mono ?_
  rintro e w5 ⟨rfl, b5⟩
  have B5 := B4.trans (b5.mono B4.size)
  have kH5 := kH4.below b5 kH4.lt
  have kV5 := kV4.below b5 kV4.lt
  have kS5 := kS4.below b5 kS4.lt
  have kZ5 := kZ4.below b5 kZ4.lt
  clear kH4 kV4 kS4 kZ4 b5 B4
  clear s9 s10 s11 s12 s13 s14 zs
  have s15 := (kS5.cell 15).trans rfl
  have zs := kS5.lt
  go_wp2_with fail
  refine (KB _ B5).mono ?_
  rintro e w6 ⟨rfl, b6⟩
  have B6 := B5.trans (b6.mono B5.size)
  have kH6 := kH5.below b6 kH5.lt
  have kV6 := kV5.below b6 kV5.lt
  have kS6 := kS5.below b6 kS5.lt
  have kZ6 := kZ5.below b6 kZ5.lt
  clear kH5 kV5 kS5 kZ5 b6 B5
  clear s15 zs
  have s15 := (kS6.cell 15).trans rfl
  have zs := kS6.lt
  go_wp2_with fail
  refine (KG _ B6).mono ?_
  rintro e w7 ⟨rfl, b7⟩
  have B7 := B6.trans (b7.mono B6.size)
  have kH7 := kH6.below b7 kH6.lt
  have kV7 := kV6.below b7 kV6.lt
  have kS7 := kS6.below b7 kS6.lt
  have kZ7 := kZ6.below b7 kZ6.lt
  clear kH6 kV6 kS6 kZ6 b7 B6
  clear s15 zs
  have h0 := (kH7.cell 0).trans rfl
  have h1 := (kH7.cell 1).trans rfl
  have v0 := (kV7.cell 0).trans rfl
  have v2 := (kV7.cell 2).trans rfl
  have v3 := (kV7.cell 3).trans rfl
  have zv := kV7.lt
  have zH := kH7.lt
  have hHd : decide (hh ≤ vh) = false := by simpa using hH
  have e1 : epochP hh vep = (hh - 1) / vep := by unfold epochP; rw [if_neg (by omega)]
  have e2 : epochP (vh + 1) vep = vh / vep := by unfold epochP; rw [if_neg (by omega)]; congr 1; omega
  have d1 : (hh - 1).tdiv vep = (hh - 1) / vep := Int.tdiv_eq_ediv_of_nonneg (by omega)
  have d2 : vh.tdiv vep = vh / vep := Int.tdiv_eq_ediv_of_nonneg (by omega)
  have d3 : 0 ≤ (hh - 1) / vep := Int.ediv_nonneg (by omega) (by omega)
  have d4 : (hh - 1) / vep ≤ hh - 1 := Int.ediv_le_self _ (by omega)
  have d5 : 0 ≤ vh / vep := Int.ediv_nonneg (by omega) (by omega)
  have d6 : vh / vep ≤ vh := Int.ediv_le_self _ (by omega)
  have HE1 : Hid (epochP hh vep = (hh - 1) / vep) := e1
  have HE2 : Hid (epochP (vh + 1) vep = vh / vep) := e2
  clear e1 e2
  obtain ⟨X, HX⟩ : ∃ z, Hid ((hh - 1) / vep = z) := ⟨_, rfl⟩
  obtain ⟨Y, HY⟩ : ∃ z, Hid (vh / vep = z) := ⟨_, rfl⟩
  rw [HX.out] at d1 d3 d4
  rw [HY.out] at d2 d5 d6
  have ww := wrapI (hh - 1) (by omega) (by omega)
  have wx := wrapI X (by omega) (by omega)
  have wy := wrapI Y (by omega) (by omega)
  have hX : X = Y := by rw [← HX.out, ← HY.out, ← HE1.out, ← HE2.out]; exact hep
  subst hX
  go_upto_region 22 with fail
  go_quiet (fail)
  generalize hwq : w7.drewN _ = w8 at *
  have b8 : Below w7.heap.size w7 w8 := hwq ▸ below_drewN (Below.refl _ _) _
  have B8 := B7.trans (b8.mono B7.size)
  have kZ8 := kZ7.below b8 kZ7.lt
  have kV8 := kV7.below b8 kV7.lt
  have kS8 := kS7.below b8 kS7.lt
  have kH8 := kH7.below b8 kH7.lt
  clear hwq b8 kZ7 kV7 kS7 kH7 h0 h1 v0 v2 v3 zv zH B7 HE1 HE2 HX HY ww wx wy d1 d2 d3 d4 d5 d6
  have s9 := (kS8.cell 9).trans rfl
  have s10 := (kS8.cell 10).trans rfl
  have s11 := (kS8.cell 11).trans rfl
  have s12 := (kS8.cell 12).trans rfl
  have s13 := (kS8.cell 13).trans rfl
  have s14 := (kS8.cell 14).trans rfl
  have zs := kS8.lt
  have v1 := (kV8.cell 1).trans rfl
  have zv := kV8.lt
  have zH := kH8.lt
  have h0 := (kH8.cell 0).trans rfl
  have h1 := (kH8.cell 1).trans rfl
  have h2 := (kH8.cell 2).trans rfl
  have h3 := (kH8.cell 3).trans rfl
  have h4 := (kH8.cell 4).trans rfl
  have h5 := (kH8.cell 5).trans rfl
  have h6 := (kH8.cell 6).trans rfl
  have h7 := (kH8.cell 7).trans rfl
  have h8 := (kH8.cell 8).trans rfl
  have bC : Below w8.heap.size w8 (w8.alloc (.cells #[.int .i64 hh, .int .i64 kr, .int .i64 2, .bool true, .int .u64 NM, .slice fa fr.length fcap] 32)) := (Below.refl _ _).alloc (Nat.le_refl _) _
  have kC9 := Blk.new w8 #[.int .i64 hh, .int .i64 kr, .int .i64 2, .bool true, .int .u64 NM, .slice fa fr.length fcap] 32
  have kV9 := kV8.alloc (.cells #[.int .i64 hh, .int .i64 kr, .int .i64 2, .bool true, .int .u64 NM, .slice fa fr.length fcap] 32)
  have kS9 := kS8.alloc (.cells #[.int .i64 hh, .int .i64 kr, .int .i64 2, .bool true, .int .u64 NM, .slice fa fr.length fcap] 32)
  have kZ9 := kZ8.alloc (.cells #[.int .i64 hh, .int .i64 kr, .int .i64 2, .bool true, .int .u64 NM, .slice fa fr.length fcap] 32)
  have kH9 := kH8.alloc (.cells #[.int .i64 hh, .int .i64 kr, .int .i64 2, .bool true, .int .u64 NM, .slice fa fr.length fcap] 32)
  have B9 := B8.trans (bC.mono B8.size)
  have zh8 : hb < w8.heap.size := kH8.lt
  have zz8 : w.heap.size + 1 + 1 < w8.heap.size := kZ8.lt
  clear kV8 kS8 kZ8 kH8 B8 bC
  go_wp2_with fail
  generalize w8.alloc (.cells #[.int .i64 hh, .int .i64 kr, .int .i64 2, .bool true, .int .u64 NM, .slice fa fr.length fcap] 32) = w9 at *
  generalize w8.heap.size = cb at *
  refine (KN _ B9).mono ?_
  rintro e w10 ⟨rfl, b10⟩
  have B10 := B9.trans (b10.mono B9.size)
  have kC10 := kC9.below b10 kC9.lt
  have kH10 := kH9.below b10 kH9.lt
  have kV10 := kV9.below b10 kV9.lt
  have kS10 := kS9.below b10 kS9.lt
  have kZ10 := kZ9.below b10 kZ9.lt
  clear kC9 kH9 kV9 kS9 kZ9 b10 B9 s9 s10 s11 s12 s13 s14 zs v1 zv h0 h1 h2 h3 h4 h5 h6 h7 h8
  have c0 := (kC10.cell 0).trans rfl
  have c2 := (kC10.cell 2).trans rfl
  have c3 := (kC10.cell 3).trans rfl
  have c4 := (kC10.cell 4).trans rfl
  have h1 := (kH10.cell 1).trans rfl
  have zc := kC10.lt
  have zH := kH10.lt
  have v5 := (kV10.cell 5).trans rfl
  have zv := kV10.lt
  have c1 := (kC10.cell 1).trans rfl
  have c5 := (kC10.cell 5).trans rfl
  go_wp2_with fail
  refine (KK _ B10).mono ?_
  rintro e w11 ⟨rfl, b11⟩
  have B11 := B10.trans (b11.mono B10.size)
  have kH11 := kH10.below b11 kH10.lt
  have kV11 := kV10.below b11 kV10.lt
  have kS11 := kS10.below b11 kS10.lt
  have kZ11 := kZ10.below b11 kZ10.lt
  clear kC10 kH10 kV10 kS10 kZ10 b11 B10 c0 c1 c2 c3 c4 c5 h1 v5 zv zc zH
  have v1 := (kV11.cell 1).trans rfl
  have zv := kV11.lt
  have s15 := (kS11.cell 15).trans rfl
  have zs := kS11.lt
  go_wp2_with fail
  refine (KD _ B11).mono ?_
  rintro e w12 ⟨rfl, b12⟩
  have B12 := B11.trans (b12.mono B11.size)
  have kH12 := kH11.below b12 kH11.lt
  have kV12 := kV11.below b12 kV11.lt
  have kS12 := kS11.below b12 kS11.lt
  have kZ12 := kZ11.below b12 kZ11.lt
  clear kH11 kV11 kS11 kZ11 b12 B11 v1 zv s15 zs
  have h7 := (kH12.cell 7).trans rfl
  have zH := kH12.lt
  have hd : (hbe != hbe) = false := by simp
  have v0 := (kV12.cell 0).trans rfl
  have v1 := (kV12.cell 1).trans rfl
  have v2 := (kV12.cell 2).trans rfl
  have v3 := (kV12.cell 3).trans rfl
  have v4 := (kV12.cell 4).trans rfl
  have v5 := (kV12.cell 5).trans rfl
  have zv := kV12.lt
  have h1 := (kH12.cell 1).trans rfl
  have h5 := (kH12.cell 5).trans rfl
  have s15 := (kS12.cell 15).trans rfl
  have zs := kS12.lt
  have bO : Below w12.heap.size w12 (w12.alloc (.cells #[.int .i64 vc, .int .i64 vwi, .int .i64 vep, .int .i64 vh, .int .u64 vst, .slice va vl.length vcap] 26)) := (Below.refl _ _).alloc (Nat.le_refl _) _
  have kO := Blk.new w12 #[.int .i64 vc, .int .i64 vwi, .int .i64 vep, .int .i64 vh, .int .u64 vst, .slice va vl.length vcap] 26
  have kS13 := kS12.alloc (.cells #[.int .i64 vc, .int .i64 vwi, .int .i64 vep, .int .i64 vh, .int .u64 vst, .slice va vl.length vcap] 26)
  have kZ13 := kZ12.alloc (.cells #[.int .i64 vc, .int .i64 vwi, .int .i64 vep, .int .i64 vh, .int .u64 vst, .slice va vl.length vcap] 26)
  have kH13 := kH12.alloc (.cells #[.int .i64 vc, .int .i64 vwi, .int .i64 vep, .int .i64 vh, .int .u64 vst, .slice va vl.length vcap] 26)
  have B13 := B12.trans (bO.mono B12.size)
  have zo1 : w.heap.size + 1 + 1 < w12.heap.size := kZ12.lt
  have zo2 : hb < w12.heap.size := kH12.lt
  clear kV12 kS12 kZ12 kH12 B12 bO
  go_upto_region 35 with fail
  generalize w12.alloc (.cells #[.int .i64 vc, .int .i64 vwi, .int .i64 vep, .int .i64 vh, .int .u64 vst, .slice va vl.length vcap] 26) = w13 at *
  generalize w12.heap.size = ob at *
  have k1 := ((kO.set 3 (.int .i64 hh)).set 4 (.int .u64 hst))
  have kS14 := (kS13.setOther ⟨ob, 3, none⟩ (by simp only; omega) (.int .i64 hh)).setOther ⟨ob, 4, none⟩ (by simp only; omega) (.int .u64 hst)
  have kZ14 := (kZ13.setOther ⟨ob, 3, none⟩ (by simp only; omega) (.int .i64 hh)).setOther ⟨ob, 4, none⟩ (by simp only; omega) (.int .u64 hst)
  have B14 : Below w.heap.size w ((w13.setCell ⟨ob, 3, none⟩ (.int .i64 hh)).setCell ⟨ob, 4, none⟩ (.int .u64 hst)) := (B13.setCell (by simp only; omega) _).setCell (by simp only; omega) _
  have g1 := (kH13.cell 1).trans rfl
  have g5 := (kH13.cell 5).trans rfl
  have zg := kH13.lt
  have o3 := (kO.cell 3).trans rfl
  have o4 := (kO.cell 4).trans rfl
  have f3 := kO.frozen 3
  have f4 := kO.frozen 4
  have zo := kO.lt
  clear v0 v1 v2 v3 v4 v5 zv h7 zH s15 zs h5
  go_upto_region 37 with fail
  generalize ((w13.setCell ⟨ob, 3, none⟩ (.int .i64 hh)).setCell ⟨ob, 4, none⟩ (.int .u64 hst)) = w14 at *
  clear g1 g5 zg o3 o4 f3 f4 zo kO kS13 kZ13 kH13 B13
  have bM : Below w14.heap.size w14 (w14.alloc (.cells #[] 52)) := (Below.refl _ _).alloc (Nat.le_refl _) _
  have BM := B14.trans (bM.mono B14.size)
  obtain ⟨v, w15, hr, ho, hg⟩ := app_seats (w14.alloc (.cells #[] 52)) w14.heap.size _ [] (World.ownsRow_made w14 #[] 0 (Nat.le_refl _) (Nat.zero_le _) rfl) sa scap sl (hsl.at_.below BM) (by simp) (by omega) bM.size sl.length rfl
  simp only [List.nil_append] at ho
  have b15 : Below w14.heap.size w14 w15 := bM.grown hg bM.size (fun k e => by simp [Value.ownBlock] at e; omega)
  obtain ⟨lb, cb, rfl, hs, hf⟩ := SL.of_owns ho
  have B15 := B14.trans (b15.mono B14.size)
  have s15 := (kS14.cell 15).trans rfl
  have zs := kS14.lt
  have kO5 := k1.below b15 k1.lt
  have kZ5 := kZ14.below b15 kZ14.lt
  have o5 := (kO5.cell 5).trans rfl
  have f5 := kO5.frozen 5
  have zo5 := kO5.lt
  have kO6 := kO5.set 5 (.slice lb sl.length cb)
  have kZ6 := kZ5.setOther ⟨ob, 5, none⟩ (by simp only; omega) (.slice lb sl.length cb)
  have zl : ob < w14.heap.size := k1.lt
  have hs6 : SL (w15.setCell ⟨ob, 5, none⟩ (.slice lb sl.length cb)) lb sl cb := hs.setCell (fun x hx => by have := hf x hx; simp only; omega) _
  have B16 : Below w.heap.size w (w15.setCell ⟨ob, 5, none⟩ (.slice lb sl.length cb)) := B15.setCell (by simp only; omega) _
  clear ho hg hsl h1
  go_upto_region 38 with (at_builtin; refine wpList_append_run rfl _ _ 24 rfl _ _ _ w15 rfl rfl hr ?_)
  generalize w15.setCell ⟨ob, 5, none⟩ (.slice lb sl.length cb) = w16 at *
  have x0 := (kO6.cell 0).trans rfl
  have x1 := (kO6.cell 1).trans rfl
  have x2 := (kO6.cell 2).trans rfl
  have x3 := (kO6.cell 3).trans rfl
  have x4 := (kO6.cell 4).trans rfl
  have x5 := (kO6.cell 5).trans rfl
  have zx := kO6.lt
  have y0 := (kZ6.cell 0).trans rfl
  have q0 := kZ6.frozen 0
  have y1 := (kZ6.cell 1).trans rfl
  have q1 := kZ6.frozen 1
  have y2 := (kZ6.cell 2).trans rfl
  have q2 := kZ6.frozen 2
  have y3 := (kZ6.cell 3).trans rfl
  have q3 := kZ6.frozen 3
  have y4 := (kZ6.cell 4).trans rfl
  have q4 := kZ6.frozen 4
  have y5 := (kZ6.cell 5).trans rfl
  have q5 := kZ6.frozen 5
  have zz := kZ6.lt
  clear kO5 kO6 kZ5 k1 kS14 kZ14 s15 zs o5 f5 zo5 hs hr bM BM b15 B15
  go_wp2
  refine bodyPost_ret (v := .tuple #[.agg #[.int .i64 vc, .int .i64 vwi, .int .i64 vep, .int .i64 hh, .int .u64 hst, .slice lb sl.length cb], .int .i64 0]) (by simp [results, Tryz.results13, go_sem, y0, y1, y2, y3, y4, y5]) rfl ?_
  refine ⟨?_, Or.inr ⟨rfl, lb, cb, rfl, ?_, fun a ha => by have := hf a ha; have := B14.size; omega⟩⟩
  · iterate 6 refine Below.setCell ?_ (by show w.heap.size ≤ w.heap.size + 1 + 1; omega) _
    exact B16
  · iterate 6 refine SL.setCell ?_ (fun x hx => by have := hf x hx; simp only; omega) _
    exact hs6

end Go.Proofs.YtblnlfcfjbfhiaaGreat
