/- Whether a bench has decided what is shown. -/
import Derived.Test.YtblnlfcfjbfhiaaGreatM36
import Derived.Deep.RegionHeld3
namespace Go.Proofs.YtblnlfcfjbfhiaaGreat
open Go.RowKit
set_option linter.unusedVariables false
set_option linter.unusedSimpArgs false

/-- Why it has not. -/
def decP (kh ks : Int) (khas : Bool) (kbl hh nm ce bd hbe : Int) : Int := if kh ≠ hh then 5 else if ks ≠ 2 then 5 else if khas = false then 5 else if kbl ≠ nm then 5 else if ce ≠ 0 then ce else if bd ≠ hbe then 5 else 0

set_option maxRecDepth 8000 in
set_option maxHeartbeats 3200000 in
theorem decided_any (vc vwi vep vh vst : Int) (va : Option Addr) (vcap : Nat) (vl : List (Int × Int)) (hc hh hpa htx hgu hst hre hbe hpr : Int) (kh kr ks : Int) (khas : Bool) (kbl : Int) (fa sa : Option Addr) (fcap scap : Nat) (fr : List Int) (sl : List (Int × Int)) (w : World) (NM CE BD : Int)
    (KN : ∀ y : World, Below w.heap.size w y → Calls Tryz.prog 10 #[.int .i64 vwi, .agg #[.int .i64 hc, .int .i64 hh, .int .u64 hpa, .int .u64 htx, .int .u64 hgu, .int .u64 hst, .int .u64 hre, .int .u64 hbe, .int .i64 hpr]] y fun e w' => e = .returned (.int .u64 NM) ∧ Below y.heap.size y w')
    (KC : ∀ y : World, Below w.heap.size w y → Calls Tryz.prog 50 #[.slice va vl.length vcap, .agg #[.int .i64 kh, .int .i64 kr, .int .i64 ks, .bool khas, .int .u64 kbl, .slice fa fr.length fcap]] y fun e w' => e = .returned (.int .i64 CE) ∧ Below y.heap.size y w')
    (KB : ∀ y : World, Below w.heap.size w y → Calls Tryz.prog 51 #[.int .i64 vwi, .slice sa sl.length scap] y fun e w' => e = .returned (.int .u64 BD) ∧ Below y.heap.size y w') :
    Calls Tryz.prog 26 #[.agg #[.int .i64 vc, .int .i64 vwi, .int .i64 vep, .int .i64 vh, .int .u64 vst, .slice va vl.length vcap], .agg #[.int .i64 hc, .int .i64 hh, .int .u64 hpa, .int .u64 htx, .int .u64 hgu, .int .u64 hst, .int .u64 hre, .int .u64 hbe, .int .i64 hpr, .int .i64 kh, .int .i64 kr, .int .i64 ks, .bool khas, .int .u64 kbl, .slice fa fr.length fcap, .slice sa sl.length scap]] w fun e w' => e = .returned (.int .i64 (decP kh ks khas kbl hh NM CE BD hbe)) ∧ Below w.heap.size w w' := by
  have bA : Below w.heap.size w (((w.alloc (.cells #[.int .i64 vc, .int .i64 vwi, .int .i64 vep, .int .i64 vh, .int .u64 vst, .slice va vl.length vcap] 26)).alloc (.cells #[.int .i64 hc, .int .i64 hh, .int .u64 hpa, .int .u64 htx, .int .u64 hgu, .int .u64 hst, .int .u64 hre, .int .u64 hbe, .int .i64 hpr, .int .i64 kh, .int .i64 kr, .int .i64 ks, .bool khas, .int .u64 kbl, .slice fa fr.length fcap, .slice sa sl.length scap] 34)).alloc (.cells #[.int .i64 kh, .int .i64 kr, .int .i64 ks, .bool khas, .int .u64 kbl, .slice fa fr.length fcap] 32)) := (((Below.refl _ _).alloc (Nat.le_refl _) _).alloc (by simp) _).alloc (by simp; omega) _
  have kV := ((Blk.new w #[.int .i64 vc, .int .i64 vwi, .int .i64 vep, .int .i64 vh, .int .u64 vst, .slice va vl.length vcap] 26).alloc (.cells #[.int .i64 hc, .int .i64 hh, .int .u64 hpa, .int .u64 htx, .int .u64 hgu, .int .u64 hst, .int .u64 hre, .int .u64 hbe, .int .i64 hpr, .int .i64 kh, .int .i64 kr, .int .i64 ks, .bool khas, .int .u64 kbl, .slice fa fr.length fcap, .slice sa sl.length scap] 34)).alloc (.cells #[.int .i64 kh, .int .i64 kr, .int .i64 ks, .bool khas, .int .u64 kbl, .slice fa fr.length fcap] 32)
  have kS := (Blk.new (w.alloc (.cells #[.int .i64 vc, .int .i64 vwi, .int .i64 vep, .int .i64 vh, .int .u64 vst, .slice va vl.length vcap] 26)) #[.int .i64 hc, .int .i64 hh, .int .u64 hpa, .int .u64 htx, .int .u64 hgu, .int .u64 hst, .int .u64 hre, .int .u64 hbe, .int .i64 hpr, .int .i64 kh, .int .i64 kr, .int .i64 ks, .bool khas, .int .u64 kbl, .slice fa fr.length fcap, .slice sa sl.length scap] 34).alloc (.cells #[.int .i64 kh, .int .i64 kr, .int .i64 ks, .bool khas, .int .u64 kbl, .slice fa fr.length fcap] 32)
  have kC := Blk.new ((w.alloc (.cells #[.int .i64 vc, .int .i64 vwi, .int .i64 vep, .int .i64 vh, .int .u64 vst, .slice va vl.length vcap] 26)).alloc (.cells #[.int .i64 hc, .int .i64 hh, .int .u64 hpa, .int .u64 htx, .int .u64 hgu, .int .u64 hst, .int .u64 hre, .int .u64 hbe, .int .i64 hpr, .int .i64 kh, .int .i64 kr, .int .i64 ks, .bool khas, .int .u64 kbl, .slice fa fr.length fcap, .slice sa sl.length scap] 34)) #[.int .i64 kh, .int .i64 kr, .int .i64 ks, .bool khas, .int .u64 kbl, .slice fa fr.length fcap] 32
  simp only [World.size_alloc] at kS kC
  obtain ⟨P, HP⟩ : ∃ z, Hid (decP kh ks khas kbl hh NM CE BD hbe = z) := ⟨_, rfl⟩
  rw [HP.out]
  go_enter Tryz.func26, Tryz.ntmps26
  go_upto_region 2 with fail
  generalize (((w.alloc (.cells #[.int .i64 vc, .int .i64 vwi, .int .i64 vep, .int .i64 vh, .int .u64 vst, .slice va vl.length vcap] 26)).alloc (.cells #[.int .i64 hc, .int .i64 hh, .int .u64 hpa, .int .u64 htx, .int .u64 hgu, .int .u64 hst, .int .u64 hre, .int .u64 hbe, .int .i64 hpr, .int .i64 kh, .int .i64 kr, .int .i64 ks, .bool khas, .int .u64 kbl, .slice fa fr.length fcap, .slice sa sl.length scap] 34)).alloc (.cells #[.int .i64 kh, .int .i64 kr, .int .i64 ks, .bool khas, .int .u64 kbl, .slice fa fr.length fcap] 32)) = wA at *
  have S0 : ∀ w', Below wA.heap.size wA w' → w'.cell? ⟨w.heap.size + 1, 0, none⟩ = some (.int .i64 hc) := fun w' hb => ((kS.below hb kS.lt).cell 0).trans rfl
  have S1 : ∀ w', Below wA.heap.size wA w' → w'.cell? ⟨w.heap.size + 1, 1, none⟩ = some (.int .i64 hh) := fun w' hb => ((kS.below hb kS.lt).cell 1).trans rfl
  have S2 : ∀ w', Below wA.heap.size wA w' → w'.cell? ⟨w.heap.size + 1, 2, none⟩ = some (.int .u64 hpa) := fun w' hb => ((kS.below hb kS.lt).cell 2).trans rfl
  have S3 : ∀ w', Below wA.heap.size wA w' → w'.cell? ⟨w.heap.size + 1, 3, none⟩ = some (.int .u64 htx) := fun w' hb => ((kS.below hb kS.lt).cell 3).trans rfl
  have S4 : ∀ w', Below wA.heap.size wA w' → w'.cell? ⟨w.heap.size + 1, 4, none⟩ = some (.int .u64 hgu) := fun w' hb => ((kS.below hb kS.lt).cell 4).trans rfl
  have S5 : ∀ w', Below wA.heap.size wA w' → w'.cell? ⟨w.heap.size + 1, 5, none⟩ = some (.int .u64 hst) := fun w' hb => ((kS.below hb kS.lt).cell 5).trans rfl
  have S6 : ∀ w', Below wA.heap.size wA w' → w'.cell? ⟨w.heap.size + 1, 6, none⟩ = some (.int .u64 hre) := fun w' hb => ((kS.below hb kS.lt).cell 6).trans rfl
  have S7 : ∀ w', Below wA.heap.size wA w' → w'.cell? ⟨w.heap.size + 1, 7, none⟩ = some (.int .u64 hbe) := fun w' hb => ((kS.below hb kS.lt).cell 7).trans rfl
  have S8 : ∀ w', Below wA.heap.size wA w' → w'.cell? ⟨w.heap.size + 1, 8, none⟩ = some (.int .i64 hpr) := fun w' hb => ((kS.below hb kS.lt).cell 8).trans rfl
  have C0 : ∀ w', Below wA.heap.size wA w' → w'.cell? ⟨w.heap.size + 1 + 1, 0, none⟩ = some (.int .i64 kh) := fun w' hb => ((kC.below hb kC.lt).cell 0).trans rfl
  have C1 : ∀ w', Below wA.heap.size wA w' → w'.cell? ⟨w.heap.size + 1 + 1, 1, none⟩ = some (.int .i64 kr) := fun w' hb => ((kC.below hb kC.lt).cell 1).trans rfl
  have C2 : ∀ w', Below wA.heap.size wA w' → w'.cell? ⟨w.heap.size + 1 + 1, 2, none⟩ = some (.int .i64 ks) := fun w' hb => ((kC.below hb kC.lt).cell 2).trans rfl
  have C3 : ∀ w', Below wA.heap.size wA w' → w'.cell? ⟨w.heap.size + 1 + 1, 3, none⟩ = some (.bool khas) := fun w' hb => ((kC.below hb kC.lt).cell 3).trans rfl
  have C4 : ∀ w', Below wA.heap.size wA w' → w'.cell? ⟨w.heap.size + 1 + 1, 4, none⟩ = some (.int .u64 kbl) := fun w' hb => ((kC.below hb kC.lt).cell 4).trans rfl
  have C5 : ∀ w', Below wA.heap.size wA w' → w'.cell? ⟨w.heap.size + 1 + 1, 5, none⟩ = some (.slice fa fr.length fcap) := fun w' hb => ((kC.below hb kC.lt).cell 5).trans rfl
  have V1 : ∀ w', Below wA.heap.size wA w' → w'.cell? ⟨w.heap.size, 1, none⟩ = some (.int .i64 vwi) := fun w' hb => ((kV.below hb kV.lt).cell 1).trans rfl
  have zV := kV.lt
  have zS := kS.lt
  have zC := kC.lt
  have bw : Below wA.heap.size wA wA := Below.refl _ _
  have KN := fun y (hb : Below wA.heap.size wA y) => KN y (bA.trans (hb.mono bA.size))
  by_cases h1 : kh = hh
  rotate_left
  · have HF : Hid (P = 5) := by show _ = _; rw [← HP.out]; unfold decP; rw [if_pos h1]
    have hd : (kh == hh) = false := by simpa using h1
    clear HP KN KC KB kV kS kC
    have bw0 : Below wA.heap.size wA wA.drew := bw.drew
    refine wp_region_held (S := fun w' => Below wA.heap.size wA w') (by kernel_rfl) ?_
    refine wpAnyH_take (i := 0) (v := ?_) rfl (by kernel_rfl) (by kernel_rfl) (by kernel_rfl) (fun _ _ _ h => h) (Or.inl ⟨by kernel_rfl, ?_⟩) (by assumption) ?_
    rotate_left
    · intro w' hSw
      have yS0 := S0 _ hSw
      have yS1 := S1 _ hSw
      have yS2 := S2 _ hSw
      have yS3 := S3 _ hSw
      have yS4 := S4 _ hSw
      have yS5 := S5 _ hSw
      have yS6 := S6 _ hSw
      have yS7 := S7 _ hSw
      have yS8 := S8 _ hSw
      have yC0 := C0 _ hSw
      have yC1 := C1 _ hSw
      have yC2 := C2 _ hSw
      have yC3 := C3 _ hSw
      have yC4 := C4 _ hSw
      have yC5 := C5 _ hSw
      have yV1 := V1 _ hSw
      go_simp
      first | (with_reducible rfl) | done | assumption | skip
    simp only [Act.put, List.getElem_toArray, List.getElem_cons_succ, List.getElem_cons_zero, List.setIfInBounds_toArray, List.set_cons_zero, List.set_cons_succ]
    refine wpAnyH_take (i := 1) (v := ?_) rfl (by kernel_rfl) (by kernel_rfl) (by kernel_rfl) (fun _ _ _ h => h) (Or.inl ⟨by kernel_rfl, ?_⟩) (by assumption) ?_
    rotate_left
    · intro w' hSw
      have yS0 := S0 _ hSw
      have yS1 := S1 _ hSw
      have yS2 := S2 _ hSw
      have yS3 := S3 _ hSw
      have yS4 := S4 _ hSw
      have yS5 := S5 _ hSw
      have yS6 := S6 _ hSw
      have yS7 := S7 _ hSw
      have yS8 := S8 _ hSw
      have yC0 := C0 _ hSw
      have yC1 := C1 _ hSw
      have yC2 := C2 _ hSw
      have yC3 := C3 _ hSw
      have yC4 := C4 _ hSw
      have yC5 := C5 _ hSw
      have yV1 := V1 _ hSw
      go_simp
      first | (with_reducible rfl) | done | assumption | skip
    simp only [Act.put, List.getElem_toArray, List.getElem_cons_succ, List.getElem_cons_zero, List.setIfInBounds_toArray, List.set_cons_zero, List.set_cons_succ]
    refine wpAnyH_take (i := 2) (v := ?_) rfl (by kernel_rfl) (by kernel_rfl) (by kernel_rfl) (fun _ _ _ h => h) (Or.inl ⟨by kernel_rfl, ?_⟩) (by assumption) ?_
    rotate_left
    · intro w' hSw
      have yS0 := S0 _ hSw
      have yS1 := S1 _ hSw
      have yS2 := S2 _ hSw
      have yS3 := S3 _ hSw
      have yS4 := S4 _ hSw
      have yS5 := S5 _ hSw
      have yS6 := S6 _ hSw
      have yS7 := S7 _ hSw
      have yS8 := S8 _ hSw
      have yC0 := C0 _ hSw
      have yC1 := C1 _ hSw
      have yC2 := C2 _ hSw
      have yC3 := C3 _ hSw
      have yC4 := C4 _ hSw
      have yC5 := C5 _ hSw
      have yV1 := V1 _ hSw
      go_simp
      first | (with_reducible rfl) | done | assumption | skip
    simp only [Act.put, List.getElem_toArray, List.getElem_cons_succ, List.getElem_cons_zero, List.setIfInBounds_toArray, List.set_cons_zero, List.set_cons_succ]
    refine wpAnyH_take (i := 3) (v := ?_) rfl (by kernel_rfl) (by kernel_rfl) (by kernel_rfl) (fun _ _ _ h => h) (Or.inl ⟨by kernel_rfl, ?_⟩) (by assumption) ?_
    rotate_left
    · intro w' hSw
      have yS0 := S0 _ hSw
      have yS1 := S1 _ hSw
      have yS2 := S2 _ hSw
      have yS3 := S3 _ hSw
      have yS4 := S4 _ hSw
      have yS5 := S5 _ hSw
      have yS6 := S6 _ hSw
      have yS7 := S7 _ hSw
      have yS8 := S8 _ hSw
      have yC0 := C0 _ hSw
      have yC1 := C1 _ hSw
      have yC2 := C2 _ hSw
      have yC3 := C3 _ hSw
      have yC4 := C4 _ hSw
      have yC5 := C5 _ hSw
      have yV1 := V1 _ hSw
      go_simp
      first | (with_reducible rfl) | done | assumption | skip
    simp only [Act.put, List.getElem_toArray, List.getElem_cons_succ, List.getElem_cons_zero, List.setIfInBounds_toArray, List.set_cons_zero, List.set_cons_succ]
    refine wpAnyH_take (i := 4) (v := ?_) rfl (by kernel_rfl) (by kernel_rfl) (by kernel_rfl) (fun _ _ _ h => h) (Or.inl ⟨by kernel_rfl, ?_⟩) (by assumption) ?_
    rotate_left
    · intro w' hSw
      have yS0 := S0 _ hSw
      have yS1 := S1 _ hSw
      have yS2 := S2 _ hSw
      have yS3 := S3 _ hSw
      have yS4 := S4 _ hSw
      have yS5 := S5 _ hSw
      have yS6 := S6 _ hSw
      have yS7 := S7 _ hSw
      have yS8 := S8 _ hSw
      have yC0 := C0 _ hSw
      have yC1 := C1 _ hSw
      have yC2 := C2 _ hSw
      have yC3 := C3 _ hSw
      have yC4 := C4 _ hSw
      have yC5 := C5 _ hSw
      have yV1 := V1 _ hSw
      go_simp
      first | (with_reducible rfl) | done | assumption | skip
    simp only [Act.put, List.getElem_toArray, List.getElem_cons_succ, List.getElem_cons_zero, List.setIfInBounds_toArray, List.set_cons_zero, List.set_cons_succ]
    refine wpAnyH_take (i := 5) (v := .bool true) rfl (by kernel_rfl) (by kernel_rfl) (by kernel_rfl) (fun _ _ _ h => h) (Or.inl ⟨by kernel_rfl, ?_⟩) (by assumption) ?_
    · intro w' hSw
      have yS0 := S0 _ hSw
      have yS1 := S1 _ hSw
      have yS2 := S2 _ hSw
      have yS3 := S3 _ hSw
      have yS4 := S4 _ hSw
      have yS5 := S5 _ hSw
      have yS6 := S6 _ hSw
      have yS7 := S7 _ hSw
      have yS8 := S8 _ hSw
      have yC0 := C0 _ hSw
      have yC1 := C1 _ hSw
      have yC2 := C2 _ hSw
      have yC3 := C3 _ hSw
      have yC4 := C4 _ hSw
      have yC5 := C5 _ hSw
      have yV1 := V1 _ hSw
      go_simp
      first | (with_reducible rfl) | done | assumption | skip
    simp only [Act.put, List.getElem_toArray, List.getElem_cons_succ, List.getElem_cons_zero, List.setIfInBounds_toArray, List.set_cons_zero, List.set_cons_succ]
    refine wpAnyH_take (i := 6) (v := .bool true) rfl (by kernel_rfl) (by kernel_rfl) (by kernel_rfl) (fun _ _ _ h => h) (Or.inl ⟨by kernel_rfl, ?_⟩) (by assumption) ?_
    · intro w' hSw
      have yS0 := S0 _ hSw
      have yS1 := S1 _ hSw
      have yS2 := S2 _ hSw
      have yS3 := S3 _ hSw
      have yS4 := S4 _ hSw
      have yS5 := S5 _ hSw
      have yS6 := S6 _ hSw
      have yS7 := S7 _ hSw
      have yS8 := S8 _ hSw
      have yC0 := C0 _ hSw
      have yC1 := C1 _ hSw
      have yC2 := C2 _ hSw
      have yC3 := C3 _ hSw
      have yC4 := C4 _ hSw
      have yC5 := C5 _ hSw
      have yV1 := V1 _ hSw
      go_simp
      first | (with_reducible rfl) | done | assumption | skip
    simp only [Act.put, List.getElem_toArray, List.getElem_cons_succ, List.getElem_cons_zero, List.setIfInBounds_toArray, List.set_cons_zero, List.set_cons_succ]
    refine wpAnyH_take (i := 7) (v := undef) rfl (by kernel_rfl) (by kernel_rfl) (by kernel_rfl) (fun _ _ _ h => h) (Or.inr ⟨by kernel_rfl, rfl⟩) (by assumption) ?_
    simp only [Act.put, List.getElem_toArray, List.getElem_cons_succ, List.getElem_cons_zero, List.setIfInBounds_toArray, List.set_cons_zero, List.set_cons_succ]
    refine wpAnyH_take (i := 8) (v := undef) rfl (by kernel_rfl) (by kernel_rfl) (by kernel_rfl) (fun _ _ _ h => h) (Or.inr ⟨by kernel_rfl, rfl⟩) (by assumption) ?_
    simp only [Act.put, List.getElem_toArray, List.getElem_cons_succ, List.getElem_cons_zero, List.setIfInBounds_toArray, List.set_cons_zero, List.set_cons_succ]
    refine wpAnyH_take (i := 9) (v := undef) rfl (by kernel_rfl) (by kernel_rfl) (by kernel_rfl) (fun _ _ _ h => h) (Or.inr ⟨by kernel_rfl, rfl⟩) (by assumption) ?_
    simp only [Act.put, List.getElem_toArray, List.getElem_cons_succ, List.getElem_cons_zero, List.setIfInBounds_toArray, List.set_cons_zero, List.set_cons_succ]
    refine wpAnyH_take (i := 10) (v := .bool true) rfl (by kernel_rfl) (by kernel_rfl) (by kernel_rfl) (fun _ _ _ h => h) (Or.inl ⟨by kernel_rfl, ?_⟩) (by assumption) ?_
    · intro w' hSw
      have yS0 := S0 _ hSw
      have yS1 := S1 _ hSw
      have yS2 := S2 _ hSw
      have yS3 := S3 _ hSw
      have yS4 := S4 _ hSw
      have yS5 := S5 _ hSw
      have yS6 := S6 _ hSw
      have yS7 := S7 _ hSw
      have yS8 := S8 _ hSw
      have yC0 := C0 _ hSw
      have yC1 := C1 _ hSw
      have yC2 := C2 _ hSw
      have yC3 := C3 _ hSw
      have yC4 := C4 _ hSw
      have yC5 := C5 _ hSw
      have yV1 := V1 _ hSw
      go_simp
      first | (with_reducible rfl) | done | assumption | skip
    simp only [Act.put, List.getElem_toArray, List.getElem_cons_succ, List.getElem_cons_zero, List.setIfInBounds_toArray, List.set_cons_zero, List.set_cons_succ]
    refine wpAnyH_take (i := 11) (v := .bool true) rfl (by kernel_rfl) (by kernel_rfl) (by kernel_rfl) (fun _ _ _ h => h) (Or.inl ⟨by kernel_rfl, ?_⟩) (by assumption) ?_
    · intro w' hSw
      have yS0 := S0 _ hSw
      have yS1 := S1 _ hSw
      have yS2 := S2 _ hSw
      have yS3 := S3 _ hSw
      have yS4 := S4 _ hSw
      have yS5 := S5 _ hSw
      have yS6 := S6 _ hSw
      have yS7 := S7 _ hSw
      have yS8 := S8 _ hSw
      have yC0 := C0 _ hSw
      have yC1 := C1 _ hSw
      have yC2 := C2 _ hSw
      have yC3 := C3 _ hSw
      have yC4 := C4 _ hSw
      have yC5 := C5 _ hSw
      have yV1 := V1 _ hSw
      go_simp
      first | (with_reducible rfl) | done | assumption | skip
    simp only [Act.put, List.getElem_toArray, List.getElem_cons_succ, List.getElem_cons_zero, List.setIfInBounds_toArray, List.set_cons_zero, List.set_cons_succ]
    refine wpAnyH_take (i := 12) (v := undef) rfl (by kernel_rfl) (by kernel_rfl) (by kernel_rfl) (fun _ _ _ h => h) (Or.inr ⟨by kernel_rfl, rfl⟩) (by assumption) ?_
    simp only [Act.put, List.getElem_toArray, List.getElem_cons_succ, List.getElem_cons_zero, List.setIfInBounds_toArray, List.set_cons_zero, List.set_cons_succ]
    refine wpAnyH_take (i := 13) (v := undef) rfl (by kernel_rfl) (by kernel_rfl) (by kernel_rfl) (fun _ _ _ h => h) (Or.inr ⟨by kernel_rfl, rfl⟩) (by assumption) ?_
    simp only [Act.put, List.getElem_toArray, List.getElem_cons_succ, List.getElem_cons_zero, List.setIfInBounds_toArray, List.set_cons_zero, List.set_cons_succ]
    refine wpAnyH_take (i := 14) (v := undef) rfl (by kernel_rfl) (by kernel_rfl) (by kernel_rfl) (fun _ _ _ h => h) (Or.inr ⟨by kernel_rfl, rfl⟩) (by assumption) ?_
    simp only [Act.put, List.getElem_toArray, List.getElem_cons_succ, List.getElem_cons_zero, List.setIfInBounds_toArray, List.set_cons_zero, List.set_cons_succ]
    refine wpAnyH_take (i := 15) (v := .bool true) rfl (by kernel_rfl) (by kernel_rfl) (by kernel_rfl) (fun _ _ _ h => h) (Or.inl ⟨by kernel_rfl, ?_⟩) (by assumption) ?_
    · intro w' hSw
      have yS0 := S0 _ hSw
      have yS1 := S1 _ hSw
      have yS2 := S2 _ hSw
      have yS3 := S3 _ hSw
      have yS4 := S4 _ hSw
      have yS5 := S5 _ hSw
      have yS6 := S6 _ hSw
      have yS7 := S7 _ hSw
      have yS8 := S8 _ hSw
      have yC0 := C0 _ hSw
      have yC1 := C1 _ hSw
      have yC2 := C2 _ hSw
      have yC3 := C3 _ hSw
      have yC4 := C4 _ hSw
      have yC5 := C5 _ hSw
      have yV1 := V1 _ hSw
      go_simp
      first | (with_reducible rfl) | done | assumption | skip
    simp only [Act.put, List.getElem_toArray, List.getElem_cons_succ, List.getElem_cons_zero, List.setIfInBounds_toArray, List.set_cons_zero, List.set_cons_succ]
    refine wpAnyH_take (i := 16) (v := .bool true) rfl (by kernel_rfl) (by kernel_rfl) (by kernel_rfl) (fun _ _ _ h => h) (Or.inl ⟨by kernel_rfl, ?_⟩) (by assumption) ?_
    · intro w' hSw
      have yS0 := S0 _ hSw
      have yS1 := S1 _ hSw
      have yS2 := S2 _ hSw
      have yS3 := S3 _ hSw
      have yS4 := S4 _ hSw
      have yS5 := S5 _ hSw
      have yS6 := S6 _ hSw
      have yS7 := S7 _ hSw
      have yS8 := S8 _ hSw
      have yC0 := C0 _ hSw
      have yC1 := C1 _ hSw
      have yC2 := C2 _ hSw
      have yC3 := C3 _ hSw
      have yC4 := C4 _ hSw
      have yC5 := C5 _ hSw
      have yV1 := V1 _ hSw
      go_simp
      first | (with_reducible rfl) | done | assumption | skip
    simp only [Act.put, List.getElem_toArray, List.getElem_cons_succ, List.getElem_cons_zero, List.setIfInBounds_toArray, List.set_cons_zero, List.set_cons_succ]
    refine wpAnyH_take (i := 17) (v := undef) rfl (by kernel_rfl) (by kernel_rfl) (by kernel_rfl) (fun _ _ _ h => h) (Or.inr ⟨by kernel_rfl, rfl⟩) (by assumption) ?_
    simp only [Act.put, List.getElem_toArray, List.getElem_cons_succ, List.getElem_cons_zero, List.setIfInBounds_toArray, List.set_cons_zero, List.set_cons_succ]
    refine wpAnyH_take (i := 18) (v := undef) rfl (by kernel_rfl) (by kernel_rfl) (by kernel_rfl) (fun _ _ _ h => h) (Or.inr ⟨by kernel_rfl, rfl⟩) (by assumption) ?_
    simp only [Act.put, List.getElem_toArray, List.getElem_cons_succ, List.getElem_cons_zero, List.setIfInBounds_toArray, List.set_cons_zero, List.set_cons_succ]
    refine wpAnyH_take (i := 19) (v := undef) rfl (by kernel_rfl) (by kernel_rfl) (by kernel_rfl) (fun _ _ _ h => h) (Or.inr ⟨by kernel_rfl, rfl⟩) (by assumption) ?_
    simp only [Act.put, List.getElem_toArray, List.getElem_cons_succ, List.getElem_cons_zero, List.setIfInBounds_toArray, List.set_cons_zero, List.set_cons_succ]
    refine wpAnyH_take (i := 20) (v := undef) rfl (by kernel_rfl) (by kernel_rfl) (by kernel_rfl) (fun _ _ _ h => h) (Or.inr ⟨by kernel_rfl, rfl⟩) (by assumption) ?_
    simp only [Act.put, List.getElem_toArray, List.getElem_cons_succ, List.getElem_cons_zero, List.setIfInBounds_toArray, List.set_cons_zero, List.set_cons_succ]
    refine wpAnyH_take (i := 21) (v := undef) rfl (by kernel_rfl) (by kernel_rfl) (by kernel_rfl) (fun _ _ _ h => h) (Or.inr ⟨by kernel_rfl, rfl⟩) (by assumption) ?_
    simp only [Act.put, List.getElem_toArray, List.getElem_cons_succ, List.getElem_cons_zero, List.setIfInBounds_toArray, List.set_cons_zero, List.set_cons_succ]
    refine wpAnyH_take (i := 22) (v := undef) rfl (by kernel_rfl) (by kernel_rfl) (by kernel_rfl) (fun _ _ _ h => h) (Or.inr ⟨by kernel_rfl, rfl⟩) (by assumption) ?_
    simp only [Act.put, List.getElem_toArray, List.getElem_cons_succ, List.getElem_cons_zero, List.setIfInBounds_toArray, List.set_cons_zero, List.set_cons_succ]
    refine wpAnyH_ready (rs := [23]) (by kernel_rfl) (by simp) ?_
    refine AllReadyH.cons rfl (fun K hK => ?_) AllReadyH.nil
    go_simp
    refine hK.out _ _ (by assumption) (fun _ => ?_)
    clear hK K
    try simp only [Act.put, List.getElem_toArray, List.getElem_cons_succ, List.getElem_cons_zero, List.setIfInBounds_toArray, List.set_cons_zero, List.set_cons_succ]
    refine wpAnyH_take (i := 24) (v := undef) rfl (by kernel_rfl) (by kernel_rfl) (by kernel_rfl) (fun _ _ _ h => h) (Or.inr ⟨by kernel_rfl, rfl⟩) (by assumption) ?_
    simp only [Act.put, List.getElem_toArray, List.getElem_cons_succ, List.getElem_cons_zero, List.setIfInBounds_toArray, List.set_cons_zero, List.set_cons_succ]
    refine wpAnyH_take (i := 25) (v := .bool true) rfl (by kernel_rfl) (by kernel_rfl) (by kernel_rfl) (fun _ _ _ h => h) (Or.inl ⟨by kernel_rfl, ?_⟩) (by assumption) ?_
    · intro w' hSw
      have yS0 := S0 _ hSw
      have yS1 := S1 _ hSw
      have yS2 := S2 _ hSw
      have yS3 := S3 _ hSw
      have yS4 := S4 _ hSw
      have yS5 := S5 _ hSw
      have yS6 := S6 _ hSw
      have yS7 := S7 _ hSw
      have yS8 := S8 _ hSw
      have yC0 := C0 _ hSw
      have yC1 := C1 _ hSw
      have yC2 := C2 _ hSw
      have yC3 := C3 _ hSw
      have yC4 := C4 _ hSw
      have yC5 := C5 _ hSw
      have yV1 := V1 _ hSw
      go_simp
      first | (with_reducible rfl) | done | assumption | skip
    simp only [Act.put, List.getElem_toArray, List.getElem_cons_succ, List.getElem_cons_zero, List.setIfInBounds_toArray, List.set_cons_zero, List.set_cons_succ]
    refine wpAnyH_done (by kernel_rfl) ?_ _
    go_wp2
    go_ret
    exact ⟨by rw [HF.out]; rfl, bA.trans (bw0.mono bA.size)⟩
  subst h1
  by_cases h2 : ks = 2
  rotate_left
  · have HF : Hid (P = 5) := by show _ = _; rw [← HP.out]; unfold decP; rw [if_neg (by simp), if_pos h2]
    have hd : (ks == 2) = false := by simpa using h2
    clear HP KN KC KB kV kS kC
    have bw0 : Below wA.heap.size wA wA.drew := bw.drew
    refine wp_region_held (S := fun w' => Below wA.heap.size wA w') (by kernel_rfl) ?_
    refine wpAnyH_take (i := 0) (v := ?_) rfl (by kernel_rfl) (by kernel_rfl) (by kernel_rfl) (fun _ _ _ h => h) (Or.inl ⟨by kernel_rfl, ?_⟩) (by assumption) ?_
    rotate_left
    · intro w' hSw
      have yS0 := S0 _ hSw
      have yS1 := S1 _ hSw
      have yS2 := S2 _ hSw
      have yS3 := S3 _ hSw
      have yS4 := S4 _ hSw
      have yS5 := S5 _ hSw
      have yS6 := S6 _ hSw
      have yS7 := S7 _ hSw
      have yS8 := S8 _ hSw
      have yC0 := C0 _ hSw
      have yC1 := C1 _ hSw
      have yC2 := C2 _ hSw
      have yC3 := C3 _ hSw
      have yC4 := C4 _ hSw
      have yC5 := C5 _ hSw
      have yV1 := V1 _ hSw
      go_simp
      first | (with_reducible rfl) | done | assumption | skip
    simp only [Act.put, List.getElem_toArray, List.getElem_cons_succ, List.getElem_cons_zero, List.setIfInBounds_toArray, List.set_cons_zero, List.set_cons_succ]
    refine wpAnyH_take (i := 1) (v := ?_) rfl (by kernel_rfl) (by kernel_rfl) (by kernel_rfl) (fun _ _ _ h => h) (Or.inl ⟨by kernel_rfl, ?_⟩) (by assumption) ?_
    rotate_left
    · intro w' hSw
      have yS0 := S0 _ hSw
      have yS1 := S1 _ hSw
      have yS2 := S2 _ hSw
      have yS3 := S3 _ hSw
      have yS4 := S4 _ hSw
      have yS5 := S5 _ hSw
      have yS6 := S6 _ hSw
      have yS7 := S7 _ hSw
      have yS8 := S8 _ hSw
      have yC0 := C0 _ hSw
      have yC1 := C1 _ hSw
      have yC2 := C2 _ hSw
      have yC3 := C3 _ hSw
      have yC4 := C4 _ hSw
      have yC5 := C5 _ hSw
      have yV1 := V1 _ hSw
      go_simp
      first | (with_reducible rfl) | done | assumption | skip
    simp only [Act.put, List.getElem_toArray, List.getElem_cons_succ, List.getElem_cons_zero, List.setIfInBounds_toArray, List.set_cons_zero, List.set_cons_succ]
    refine wpAnyH_take (i := 2) (v := ?_) rfl (by kernel_rfl) (by kernel_rfl) (by kernel_rfl) (fun _ _ _ h => h) (Or.inl ⟨by kernel_rfl, ?_⟩) (by assumption) ?_
    rotate_left
    · intro w' hSw
      have yS0 := S0 _ hSw
      have yS1 := S1 _ hSw
      have yS2 := S2 _ hSw
      have yS3 := S3 _ hSw
      have yS4 := S4 _ hSw
      have yS5 := S5 _ hSw
      have yS6 := S6 _ hSw
      have yS7 := S7 _ hSw
      have yS8 := S8 _ hSw
      have yC0 := C0 _ hSw
      have yC1 := C1 _ hSw
      have yC2 := C2 _ hSw
      have yC3 := C3 _ hSw
      have yC4 := C4 _ hSw
      have yC5 := C5 _ hSw
      have yV1 := V1 _ hSw
      go_simp
      first | (with_reducible rfl) | done | assumption | skip
    simp only [Act.put, List.getElem_toArray, List.getElem_cons_succ, List.getElem_cons_zero, List.setIfInBounds_toArray, List.set_cons_zero, List.set_cons_succ]
    refine wpAnyH_take (i := 3) (v := ?_) rfl (by kernel_rfl) (by kernel_rfl) (by kernel_rfl) (fun _ _ _ h => h) (Or.inl ⟨by kernel_rfl, ?_⟩) (by assumption) ?_
    rotate_left
    · intro w' hSw
      have yS0 := S0 _ hSw
      have yS1 := S1 _ hSw
      have yS2 := S2 _ hSw
      have yS3 := S3 _ hSw
      have yS4 := S4 _ hSw
      have yS5 := S5 _ hSw
      have yS6 := S6 _ hSw
      have yS7 := S7 _ hSw
      have yS8 := S8 _ hSw
      have yC0 := C0 _ hSw
      have yC1 := C1 _ hSw
      have yC2 := C2 _ hSw
      have yC3 := C3 _ hSw
      have yC4 := C4 _ hSw
      have yC5 := C5 _ hSw
      have yV1 := V1 _ hSw
      go_simp
      first | (with_reducible rfl) | done | assumption | skip
    simp only [Act.put, List.getElem_toArray, List.getElem_cons_succ, List.getElem_cons_zero, List.setIfInBounds_toArray, List.set_cons_zero, List.set_cons_succ]
    refine wpAnyH_take (i := 4) (v := ?_) rfl (by kernel_rfl) (by kernel_rfl) (by kernel_rfl) (fun _ _ _ h => h) (Or.inl ⟨by kernel_rfl, ?_⟩) (by assumption) ?_
    rotate_left
    · intro w' hSw
      have yS0 := S0 _ hSw
      have yS1 := S1 _ hSw
      have yS2 := S2 _ hSw
      have yS3 := S3 _ hSw
      have yS4 := S4 _ hSw
      have yS5 := S5 _ hSw
      have yS6 := S6 _ hSw
      have yS7 := S7 _ hSw
      have yS8 := S8 _ hSw
      have yC0 := C0 _ hSw
      have yC1 := C1 _ hSw
      have yC2 := C2 _ hSw
      have yC3 := C3 _ hSw
      have yC4 := C4 _ hSw
      have yC5 := C5 _ hSw
      have yV1 := V1 _ hSw
      go_simp
      first | (with_reducible rfl) | done | assumption | skip
    simp only [Act.put, List.getElem_toArray, List.getElem_cons_succ, List.getElem_cons_zero, List.setIfInBounds_toArray, List.set_cons_zero, List.set_cons_succ]
    refine wpAnyH_take (i := 5) (v := .bool false) rfl (by kernel_rfl) (by kernel_rfl) (by kernel_rfl) (fun _ _ _ h => h) (Or.inl ⟨by kernel_rfl, ?_⟩) (by assumption) ?_
    · intro w' hSw
      have yS0 := S0 _ hSw
      have yS1 := S1 _ hSw
      have yS2 := S2 _ hSw
      have yS3 := S3 _ hSw
      have yS4 := S4 _ hSw
      have yS5 := S5 _ hSw
      have yS6 := S6 _ hSw
      have yS7 := S7 _ hSw
      have yS8 := S8 _ hSw
      have yC0 := C0 _ hSw
      have yC1 := C1 _ hSw
      have yC2 := C2 _ hSw
      have yC3 := C3 _ hSw
      have yC4 := C4 _ hSw
      have yC5 := C5 _ hSw
      have yV1 := V1 _ hSw
      go_simp
      first | (with_reducible rfl) | done | assumption | skip
    simp only [Act.put, List.getElem_toArray, List.getElem_cons_succ, List.getElem_cons_zero, List.setIfInBounds_toArray, List.set_cons_zero, List.set_cons_succ]
    refine wpAnyH_take (i := 6) (v := .bool false) rfl (by kernel_rfl) (by kernel_rfl) (by kernel_rfl) (fun _ _ _ h => h) (Or.inl ⟨by kernel_rfl, ?_⟩) (by assumption) ?_
    · intro w' hSw
      have yS0 := S0 _ hSw
      have yS1 := S1 _ hSw
      have yS2 := S2 _ hSw
      have yS3 := S3 _ hSw
      have yS4 := S4 _ hSw
      have yS5 := S5 _ hSw
      have yS6 := S6 _ hSw
      have yS7 := S7 _ hSw
      have yS8 := S8 _ hSw
      have yC0 := C0 _ hSw
      have yC1 := C1 _ hSw
      have yC2 := C2 _ hSw
      have yC3 := C3 _ hSw
      have yC4 := C4 _ hSw
      have yC5 := C5 _ hSw
      have yV1 := V1 _ hSw
      go_simp
      first | (with_reducible rfl) | done | assumption | skip
    simp only [Act.put, List.getElem_toArray, List.getElem_cons_succ, List.getElem_cons_zero, List.setIfInBounds_toArray, List.set_cons_zero, List.set_cons_succ]
    refine wpAnyH_take (i := 7) (v := ?_) rfl (by kernel_rfl) (by kernel_rfl) (by kernel_rfl) (fun _ _ _ h => h) (Or.inl ⟨by kernel_rfl, ?_⟩) (by assumption) ?_
    rotate_left
    · intro w' hSw
      have yS0 := S0 _ hSw
      have yS1 := S1 _ hSw
      have yS2 := S2 _ hSw
      have yS3 := S3 _ hSw
      have yS4 := S4 _ hSw
      have yS5 := S5 _ hSw
      have yS6 := S6 _ hSw
      have yS7 := S7 _ hSw
      have yS8 := S8 _ hSw
      have yC0 := C0 _ hSw
      have yC1 := C1 _ hSw
      have yC2 := C2 _ hSw
      have yC3 := C3 _ hSw
      have yC4 := C4 _ hSw
      have yC5 := C5 _ hSw
      have yV1 := V1 _ hSw
      go_simp
      first | (with_reducible rfl) | done | assumption | skip
    simp only [Act.put, List.getElem_toArray, List.getElem_cons_succ, List.getElem_cons_zero, List.setIfInBounds_toArray, List.set_cons_zero, List.set_cons_succ]
    refine wpAnyH_take (i := 8) (v := ?_) rfl (by kernel_rfl) (by kernel_rfl) (by kernel_rfl) (fun _ _ _ h => h) (Or.inl ⟨by kernel_rfl, ?_⟩) (by assumption) ?_
    rotate_left
    · intro w' hSw
      have yS0 := S0 _ hSw
      have yS1 := S1 _ hSw
      have yS2 := S2 _ hSw
      have yS3 := S3 _ hSw
      have yS4 := S4 _ hSw
      have yS5 := S5 _ hSw
      have yS6 := S6 _ hSw
      have yS7 := S7 _ hSw
      have yS8 := S8 _ hSw
      have yC0 := C0 _ hSw
      have yC1 := C1 _ hSw
      have yC2 := C2 _ hSw
      have yC3 := C3 _ hSw
      have yC4 := C4 _ hSw
      have yC5 := C5 _ hSw
      have yV1 := V1 _ hSw
      go_simp
      first | (with_reducible rfl) | done | assumption | skip
    simp only [Act.put, List.getElem_toArray, List.getElem_cons_succ, List.getElem_cons_zero, List.setIfInBounds_toArray, List.set_cons_zero, List.set_cons_succ]
    refine wpAnyH_take (i := 9) (v := .bool true) rfl (by kernel_rfl) (by kernel_rfl) (by kernel_rfl) (fun _ _ _ h => h) (Or.inl ⟨by kernel_rfl, ?_⟩) (by assumption) ?_
    · intro w' hSw
      have yS0 := S0 _ hSw
      have yS1 := S1 _ hSw
      have yS2 := S2 _ hSw
      have yS3 := S3 _ hSw
      have yS4 := S4 _ hSw
      have yS5 := S5 _ hSw
      have yS6 := S6 _ hSw
      have yS7 := S7 _ hSw
      have yS8 := S8 _ hSw
      have yC0 := C0 _ hSw
      have yC1 := C1 _ hSw
      have yC2 := C2 _ hSw
      have yC3 := C3 _ hSw
      have yC4 := C4 _ hSw
      have yC5 := C5 _ hSw
      have yV1 := V1 _ hSw
      go_simp
      first | (with_reducible rfl) | done | assumption | skip
    simp only [Act.put, List.getElem_toArray, List.getElem_cons_succ, List.getElem_cons_zero, List.setIfInBounds_toArray, List.set_cons_zero, List.set_cons_succ]
    refine wpAnyH_take (i := 10) (v := .bool true) rfl (by kernel_rfl) (by kernel_rfl) (by kernel_rfl) (fun _ _ _ h => h) (Or.inl ⟨by kernel_rfl, ?_⟩) (by assumption) ?_
    · intro w' hSw
      have yS0 := S0 _ hSw
      have yS1 := S1 _ hSw
      have yS2 := S2 _ hSw
      have yS3 := S3 _ hSw
      have yS4 := S4 _ hSw
      have yS5 := S5 _ hSw
      have yS6 := S6 _ hSw
      have yS7 := S7 _ hSw
      have yS8 := S8 _ hSw
      have yC0 := C0 _ hSw
      have yC1 := C1 _ hSw
      have yC2 := C2 _ hSw
      have yC3 := C3 _ hSw
      have yC4 := C4 _ hSw
      have yC5 := C5 _ hSw
      have yV1 := V1 _ hSw
      go_simp
      first | (with_reducible rfl) | done | assumption | skip
    simp only [Act.put, List.getElem_toArray, List.getElem_cons_succ, List.getElem_cons_zero, List.setIfInBounds_toArray, List.set_cons_zero, List.set_cons_succ]
    refine wpAnyH_take (i := 11) (v := .bool true) rfl (by kernel_rfl) (by kernel_rfl) (by kernel_rfl) (fun _ _ _ h => h) (Or.inl ⟨by kernel_rfl, ?_⟩) (by assumption) ?_
    · intro w' hSw
      have yS0 := S0 _ hSw
      have yS1 := S1 _ hSw
      have yS2 := S2 _ hSw
      have yS3 := S3 _ hSw
      have yS4 := S4 _ hSw
      have yS5 := S5 _ hSw
      have yS6 := S6 _ hSw
      have yS7 := S7 _ hSw
      have yS8 := S8 _ hSw
      have yC0 := C0 _ hSw
      have yC1 := C1 _ hSw
      have yC2 := C2 _ hSw
      have yC3 := C3 _ hSw
      have yC4 := C4 _ hSw
      have yC5 := C5 _ hSw
      have yV1 := V1 _ hSw
      go_simp
      first | (with_reducible rfl) | done | assumption | skip
    simp only [Act.put, List.getElem_toArray, List.getElem_cons_succ, List.getElem_cons_zero, List.setIfInBounds_toArray, List.set_cons_zero, List.set_cons_succ]
    refine wpAnyH_take (i := 12) (v := undef) rfl (by kernel_rfl) (by kernel_rfl) (by kernel_rfl) (fun _ _ _ h => h) (Or.inr ⟨by kernel_rfl, rfl⟩) (by assumption) ?_
    simp only [Act.put, List.getElem_toArray, List.getElem_cons_succ, List.getElem_cons_zero, List.setIfInBounds_toArray, List.set_cons_zero, List.set_cons_succ]
    refine wpAnyH_take (i := 13) (v := undef) rfl (by kernel_rfl) (by kernel_rfl) (by kernel_rfl) (fun _ _ _ h => h) (Or.inr ⟨by kernel_rfl, rfl⟩) (by assumption) ?_
    simp only [Act.put, List.getElem_toArray, List.getElem_cons_succ, List.getElem_cons_zero, List.setIfInBounds_toArray, List.set_cons_zero, List.set_cons_succ]
    refine wpAnyH_take (i := 14) (v := undef) rfl (by kernel_rfl) (by kernel_rfl) (by kernel_rfl) (fun _ _ _ h => h) (Or.inr ⟨by kernel_rfl, rfl⟩) (by assumption) ?_
    simp only [Act.put, List.getElem_toArray, List.getElem_cons_succ, List.getElem_cons_zero, List.setIfInBounds_toArray, List.set_cons_zero, List.set_cons_succ]
    refine wpAnyH_take (i := 15) (v := .bool true) rfl (by kernel_rfl) (by kernel_rfl) (by kernel_rfl) (fun _ _ _ h => h) (Or.inl ⟨by kernel_rfl, ?_⟩) (by assumption) ?_
    · intro w' hSw
      have yS0 := S0 _ hSw
      have yS1 := S1 _ hSw
      have yS2 := S2 _ hSw
      have yS3 := S3 _ hSw
      have yS4 := S4 _ hSw
      have yS5 := S5 _ hSw
      have yS6 := S6 _ hSw
      have yS7 := S7 _ hSw
      have yS8 := S8 _ hSw
      have yC0 := C0 _ hSw
      have yC1 := C1 _ hSw
      have yC2 := C2 _ hSw
      have yC3 := C3 _ hSw
      have yC4 := C4 _ hSw
      have yC5 := C5 _ hSw
      have yV1 := V1 _ hSw
      go_simp
      first | (with_reducible rfl) | done | assumption | skip
    simp only [Act.put, List.getElem_toArray, List.getElem_cons_succ, List.getElem_cons_zero, List.setIfInBounds_toArray, List.set_cons_zero, List.set_cons_succ]
    refine wpAnyH_take (i := 16) (v := .bool true) rfl (by kernel_rfl) (by kernel_rfl) (by kernel_rfl) (fun _ _ _ h => h) (Or.inl ⟨by kernel_rfl, ?_⟩) (by assumption) ?_
    · intro w' hSw
      have yS0 := S0 _ hSw
      have yS1 := S1 _ hSw
      have yS2 := S2 _ hSw
      have yS3 := S3 _ hSw
      have yS4 := S4 _ hSw
      have yS5 := S5 _ hSw
      have yS6 := S6 _ hSw
      have yS7 := S7 _ hSw
      have yS8 := S8 _ hSw
      have yC0 := C0 _ hSw
      have yC1 := C1 _ hSw
      have yC2 := C2 _ hSw
      have yC3 := C3 _ hSw
      have yC4 := C4 _ hSw
      have yC5 := C5 _ hSw
      have yV1 := V1 _ hSw
      go_simp
      first | (with_reducible rfl) | done | assumption | skip
    simp only [Act.put, List.getElem_toArray, List.getElem_cons_succ, List.getElem_cons_zero, List.setIfInBounds_toArray, List.set_cons_zero, List.set_cons_succ]
    refine wpAnyH_take (i := 17) (v := undef) rfl (by kernel_rfl) (by kernel_rfl) (by kernel_rfl) (fun _ _ _ h => h) (Or.inr ⟨by kernel_rfl, rfl⟩) (by assumption) ?_
    simp only [Act.put, List.getElem_toArray, List.getElem_cons_succ, List.getElem_cons_zero, List.setIfInBounds_toArray, List.set_cons_zero, List.set_cons_succ]
    refine wpAnyH_take (i := 18) (v := undef) rfl (by kernel_rfl) (by kernel_rfl) (by kernel_rfl) (fun _ _ _ h => h) (Or.inr ⟨by kernel_rfl, rfl⟩) (by assumption) ?_
    simp only [Act.put, List.getElem_toArray, List.getElem_cons_succ, List.getElem_cons_zero, List.setIfInBounds_toArray, List.set_cons_zero, List.set_cons_succ]
    refine wpAnyH_take (i := 19) (v := undef) rfl (by kernel_rfl) (by kernel_rfl) (by kernel_rfl) (fun _ _ _ h => h) (Or.inr ⟨by kernel_rfl, rfl⟩) (by assumption) ?_
    simp only [Act.put, List.getElem_toArray, List.getElem_cons_succ, List.getElem_cons_zero, List.setIfInBounds_toArray, List.set_cons_zero, List.set_cons_succ]
    refine wpAnyH_take (i := 20) (v := undef) rfl (by kernel_rfl) (by kernel_rfl) (by kernel_rfl) (fun _ _ _ h => h) (Or.inr ⟨by kernel_rfl, rfl⟩) (by assumption) ?_
    simp only [Act.put, List.getElem_toArray, List.getElem_cons_succ, List.getElem_cons_zero, List.setIfInBounds_toArray, List.set_cons_zero, List.set_cons_succ]
    refine wpAnyH_take (i := 21) (v := undef) rfl (by kernel_rfl) (by kernel_rfl) (by kernel_rfl) (fun _ _ _ h => h) (Or.inr ⟨by kernel_rfl, rfl⟩) (by assumption) ?_
    simp only [Act.put, List.getElem_toArray, List.getElem_cons_succ, List.getElem_cons_zero, List.setIfInBounds_toArray, List.set_cons_zero, List.set_cons_succ]
    refine wpAnyH_take (i := 22) (v := undef) rfl (by kernel_rfl) (by kernel_rfl) (by kernel_rfl) (fun _ _ _ h => h) (Or.inr ⟨by kernel_rfl, rfl⟩) (by assumption) ?_
    simp only [Act.put, List.getElem_toArray, List.getElem_cons_succ, List.getElem_cons_zero, List.setIfInBounds_toArray, List.set_cons_zero, List.set_cons_succ]
    refine wpAnyH_ready (rs := [23]) (by kernel_rfl) (by simp) ?_
    refine AllReadyH.cons rfl (fun K hK => ?_) AllReadyH.nil
    go_simp
    refine hK.out _ _ (by assumption) (fun _ => ?_)
    clear hK K
    try simp only [Act.put, List.getElem_toArray, List.getElem_cons_succ, List.getElem_cons_zero, List.setIfInBounds_toArray, List.set_cons_zero, List.set_cons_succ]
    refine wpAnyH_take (i := 24) (v := undef) rfl (by kernel_rfl) (by kernel_rfl) (by kernel_rfl) (fun _ _ _ h => h) (Or.inr ⟨by kernel_rfl, rfl⟩) (by assumption) ?_
    simp only [Act.put, List.getElem_toArray, List.getElem_cons_succ, List.getElem_cons_zero, List.setIfInBounds_toArray, List.set_cons_zero, List.set_cons_succ]
    refine wpAnyH_take (i := 25) (v := .bool true) rfl (by kernel_rfl) (by kernel_rfl) (by kernel_rfl) (fun _ _ _ h => h) (Or.inl ⟨by kernel_rfl, ?_⟩) (by assumption) ?_
    · intro w' hSw
      have yS0 := S0 _ hSw
      have yS1 := S1 _ hSw
      have yS2 := S2 _ hSw
      have yS3 := S3 _ hSw
      have yS4 := S4 _ hSw
      have yS5 := S5 _ hSw
      have yS6 := S6 _ hSw
      have yS7 := S7 _ hSw
      have yS8 := S8 _ hSw
      have yC0 := C0 _ hSw
      have yC1 := C1 _ hSw
      have yC2 := C2 _ hSw
      have yC3 := C3 _ hSw
      have yC4 := C4 _ hSw
      have yC5 := C5 _ hSw
      have yV1 := V1 _ hSw
      go_simp
      first | (with_reducible rfl) | done | assumption | skip
    simp only [Act.put, List.getElem_toArray, List.getElem_cons_succ, List.getElem_cons_zero, List.setIfInBounds_toArray, List.set_cons_zero, List.set_cons_succ]
    refine wpAnyH_done (by kernel_rfl) ?_ _
    go_wp2
    go_ret
    exact ⟨by rw [HF.out]; rfl, bA.trans (bw0.mono bA.size)⟩
  subst h2
  cases khas with
  | false =>
    have HF : Hid (P = 5) := by show _ = _; rw [← HP.out]; unfold decP; rw [if_neg (by simp), if_neg (by simp), if_pos rfl]
    clear HP KN KC KB kV kS kC
    have bw0 : Below wA.heap.size wA wA.drew := bw.drew
    refine wp_region_held (S := fun w' => Below wA.heap.size wA w') (by kernel_rfl) ?_
    refine wpAnyH_take (i := 0) (v := ?_) rfl (by kernel_rfl) (by kernel_rfl) (by kernel_rfl) (fun _ _ _ h => h) (Or.inl ⟨by kernel_rfl, ?_⟩) (by assumption) ?_
    rotate_left
    · intro w' hSw
      have yS0 := S0 _ hSw
      have yS1 := S1 _ hSw
      have yS2 := S2 _ hSw
      have yS3 := S3 _ hSw
      have yS4 := S4 _ hSw
      have yS5 := S5 _ hSw
      have yS6 := S6 _ hSw
      have yS7 := S7 _ hSw
      have yS8 := S8 _ hSw
      have yC0 := C0 _ hSw
      have yC1 := C1 _ hSw
      have yC2 := C2 _ hSw
      have yC3 := C3 _ hSw
      have yC4 := C4 _ hSw
      have yC5 := C5 _ hSw
      have yV1 := V1 _ hSw
      go_simp
      first | (with_reducible rfl) | done | assumption | skip
    simp only [Act.put, List.getElem_toArray, List.getElem_cons_succ, List.getElem_cons_zero, List.setIfInBounds_toArray, List.set_cons_zero, List.set_cons_succ]
    refine wpAnyH_take (i := 1) (v := ?_) rfl (by kernel_rfl) (by kernel_rfl) (by kernel_rfl) (fun _ _ _ h => h) (Or.inl ⟨by kernel_rfl, ?_⟩) (by assumption) ?_
    rotate_left
    · intro w' hSw
      have yS0 := S0 _ hSw
      have yS1 := S1 _ hSw
      have yS2 := S2 _ hSw
      have yS3 := S3 _ hSw
      have yS4 := S4 _ hSw
      have yS5 := S5 _ hSw
      have yS6 := S6 _ hSw
      have yS7 := S7 _ hSw
      have yS8 := S8 _ hSw
      have yC0 := C0 _ hSw
      have yC1 := C1 _ hSw
      have yC2 := C2 _ hSw
      have yC3 := C3 _ hSw
      have yC4 := C4 _ hSw
      have yC5 := C5 _ hSw
      have yV1 := V1 _ hSw
      go_simp
      first | (with_reducible rfl) | done | assumption | skip
    simp only [Act.put, List.getElem_toArray, List.getElem_cons_succ, List.getElem_cons_zero, List.setIfInBounds_toArray, List.set_cons_zero, List.set_cons_succ]
    refine wpAnyH_take (i := 2) (v := ?_) rfl (by kernel_rfl) (by kernel_rfl) (by kernel_rfl) (fun _ _ _ h => h) (Or.inl ⟨by kernel_rfl, ?_⟩) (by assumption) ?_
    rotate_left
    · intro w' hSw
      have yS0 := S0 _ hSw
      have yS1 := S1 _ hSw
      have yS2 := S2 _ hSw
      have yS3 := S3 _ hSw
      have yS4 := S4 _ hSw
      have yS5 := S5 _ hSw
      have yS6 := S6 _ hSw
      have yS7 := S7 _ hSw
      have yS8 := S8 _ hSw
      have yC0 := C0 _ hSw
      have yC1 := C1 _ hSw
      have yC2 := C2 _ hSw
      have yC3 := C3 _ hSw
      have yC4 := C4 _ hSw
      have yC5 := C5 _ hSw
      have yV1 := V1 _ hSw
      go_simp
      first | (with_reducible rfl) | done | assumption | skip
    simp only [Act.put, List.getElem_toArray, List.getElem_cons_succ, List.getElem_cons_zero, List.setIfInBounds_toArray, List.set_cons_zero, List.set_cons_succ]
    refine wpAnyH_take (i := 3) (v := ?_) rfl (by kernel_rfl) (by kernel_rfl) (by kernel_rfl) (fun _ _ _ h => h) (Or.inl ⟨by kernel_rfl, ?_⟩) (by assumption) ?_
    rotate_left
    · intro w' hSw
      have yS0 := S0 _ hSw
      have yS1 := S1 _ hSw
      have yS2 := S2 _ hSw
      have yS3 := S3 _ hSw
      have yS4 := S4 _ hSw
      have yS5 := S5 _ hSw
      have yS6 := S6 _ hSw
      have yS7 := S7 _ hSw
      have yS8 := S8 _ hSw
      have yC0 := C0 _ hSw
      have yC1 := C1 _ hSw
      have yC2 := C2 _ hSw
      have yC3 := C3 _ hSw
      have yC4 := C4 _ hSw
      have yC5 := C5 _ hSw
      have yV1 := V1 _ hSw
      go_simp
      first | (with_reducible rfl) | done | assumption | skip
    simp only [Act.put, List.getElem_toArray, List.getElem_cons_succ, List.getElem_cons_zero, List.setIfInBounds_toArray, List.set_cons_zero, List.set_cons_succ]
    refine wpAnyH_take (i := 4) (v := ?_) rfl (by kernel_rfl) (by kernel_rfl) (by kernel_rfl) (fun _ _ _ h => h) (Or.inl ⟨by kernel_rfl, ?_⟩) (by assumption) ?_
    rotate_left
    · intro w' hSw
      have yS0 := S0 _ hSw
      have yS1 := S1 _ hSw
      have yS2 := S2 _ hSw
      have yS3 := S3 _ hSw
      have yS4 := S4 _ hSw
      have yS5 := S5 _ hSw
      have yS6 := S6 _ hSw
      have yS7 := S7 _ hSw
      have yS8 := S8 _ hSw
      have yC0 := C0 _ hSw
      have yC1 := C1 _ hSw
      have yC2 := C2 _ hSw
      have yC3 := C3 _ hSw
      have yC4 := C4 _ hSw
      have yC5 := C5 _ hSw
      have yV1 := V1 _ hSw
      go_simp
      first | (with_reducible rfl) | done | assumption | skip
    simp only [Act.put, List.getElem_toArray, List.getElem_cons_succ, List.getElem_cons_zero, List.setIfInBounds_toArray, List.set_cons_zero, List.set_cons_succ]
    refine wpAnyH_take (i := 5) (v := .bool false) rfl (by kernel_rfl) (by kernel_rfl) (by kernel_rfl) (fun _ _ _ h => h) (Or.inl ⟨by kernel_rfl, ?_⟩) (by assumption) ?_
    · intro w' hSw
      have yS0 := S0 _ hSw
      have yS1 := S1 _ hSw
      have yS2 := S2 _ hSw
      have yS3 := S3 _ hSw
      have yS4 := S4 _ hSw
      have yS5 := S5 _ hSw
      have yS6 := S6 _ hSw
      have yS7 := S7 _ hSw
      have yS8 := S8 _ hSw
      have yC0 := C0 _ hSw
      have yC1 := C1 _ hSw
      have yC2 := C2 _ hSw
      have yC3 := C3 _ hSw
      have yC4 := C4 _ hSw
      have yC5 := C5 _ hSw
      have yV1 := V1 _ hSw
      go_simp
      first | (with_reducible rfl) | done | assumption | skip
    simp only [Act.put, List.getElem_toArray, List.getElem_cons_succ, List.getElem_cons_zero, List.setIfInBounds_toArray, List.set_cons_zero, List.set_cons_succ]
    refine wpAnyH_take (i := 6) (v := .bool false) rfl (by kernel_rfl) (by kernel_rfl) (by kernel_rfl) (fun _ _ _ h => h) (Or.inl ⟨by kernel_rfl, ?_⟩) (by assumption) ?_
    · intro w' hSw
      have yS0 := S0 _ hSw
      have yS1 := S1 _ hSw
      have yS2 := S2 _ hSw
      have yS3 := S3 _ hSw
      have yS4 := S4 _ hSw
      have yS5 := S5 _ hSw
      have yS6 := S6 _ hSw
      have yS7 := S7 _ hSw
      have yS8 := S8 _ hSw
      have yC0 := C0 _ hSw
      have yC1 := C1 _ hSw
      have yC2 := C2 _ hSw
      have yC3 := C3 _ hSw
      have yC4 := C4 _ hSw
      have yC5 := C5 _ hSw
      have yV1 := V1 _ hSw
      go_simp
      first | (with_reducible rfl) | done | assumption | skip
    simp only [Act.put, List.getElem_toArray, List.getElem_cons_succ, List.getElem_cons_zero, List.setIfInBounds_toArray, List.set_cons_zero, List.set_cons_succ]
    refine wpAnyH_take (i := 7) (v := ?_) rfl (by kernel_rfl) (by kernel_rfl) (by kernel_rfl) (fun _ _ _ h => h) (Or.inl ⟨by kernel_rfl, ?_⟩) (by assumption) ?_
    rotate_left
    · intro w' hSw
      have yS0 := S0 _ hSw
      have yS1 := S1 _ hSw
      have yS2 := S2 _ hSw
      have yS3 := S3 _ hSw
      have yS4 := S4 _ hSw
      have yS5 := S5 _ hSw
      have yS6 := S6 _ hSw
      have yS7 := S7 _ hSw
      have yS8 := S8 _ hSw
      have yC0 := C0 _ hSw
      have yC1 := C1 _ hSw
      have yC2 := C2 _ hSw
      have yC3 := C3 _ hSw
      have yC4 := C4 _ hSw
      have yC5 := C5 _ hSw
      have yV1 := V1 _ hSw
      go_simp
      first | (with_reducible rfl) | done | assumption | skip
    simp only [Act.put, List.getElem_toArray, List.getElem_cons_succ, List.getElem_cons_zero, List.setIfInBounds_toArray, List.set_cons_zero, List.set_cons_succ]
    refine wpAnyH_take (i := 8) (v := ?_) rfl (by kernel_rfl) (by kernel_rfl) (by kernel_rfl) (fun _ _ _ h => h) (Or.inl ⟨by kernel_rfl, ?_⟩) (by assumption) ?_
    rotate_left
    · intro w' hSw
      have yS0 := S0 _ hSw
      have yS1 := S1 _ hSw
      have yS2 := S2 _ hSw
      have yS3 := S3 _ hSw
      have yS4 := S4 _ hSw
      have yS5 := S5 _ hSw
      have yS6 := S6 _ hSw
      have yS7 := S7 _ hSw
      have yS8 := S8 _ hSw
      have yC0 := C0 _ hSw
      have yC1 := C1 _ hSw
      have yC2 := C2 _ hSw
      have yC3 := C3 _ hSw
      have yC4 := C4 _ hSw
      have yC5 := C5 _ hSw
      have yV1 := V1 _ hSw
      go_simp
      first | (with_reducible rfl) | done | assumption | skip
    simp only [Act.put, List.getElem_toArray, List.getElem_cons_succ, List.getElem_cons_zero, List.setIfInBounds_toArray, List.set_cons_zero, List.set_cons_succ]
    refine wpAnyH_take (i := 9) (v := .bool false) rfl (by kernel_rfl) (by kernel_rfl) (by kernel_rfl) (fun _ _ _ h => h) (Or.inl ⟨by kernel_rfl, ?_⟩) (by assumption) ?_
    · intro w' hSw
      have yS0 := S0 _ hSw
      have yS1 := S1 _ hSw
      have yS2 := S2 _ hSw
      have yS3 := S3 _ hSw
      have yS4 := S4 _ hSw
      have yS5 := S5 _ hSw
      have yS6 := S6 _ hSw
      have yS7 := S7 _ hSw
      have yS8 := S8 _ hSw
      have yC0 := C0 _ hSw
      have yC1 := C1 _ hSw
      have yC2 := C2 _ hSw
      have yC3 := C3 _ hSw
      have yC4 := C4 _ hSw
      have yC5 := C5 _ hSw
      have yV1 := V1 _ hSw
      go_simp
      first | (with_reducible rfl) | done | assumption | skip
    simp only [Act.put, List.getElem_toArray, List.getElem_cons_succ, List.getElem_cons_zero, List.setIfInBounds_toArray, List.set_cons_zero, List.set_cons_succ]
    refine wpAnyH_take (i := 10) (v := .bool false) rfl (by kernel_rfl) (by kernel_rfl) (by kernel_rfl) (fun _ _ _ h => h) (Or.inl ⟨by kernel_rfl, ?_⟩) (by assumption) ?_
    · intro w' hSw
      have yS0 := S0 _ hSw
      have yS1 := S1 _ hSw
      have yS2 := S2 _ hSw
      have yS3 := S3 _ hSw
      have yS4 := S4 _ hSw
      have yS5 := S5 _ hSw
      have yS6 := S6 _ hSw
      have yS7 := S7 _ hSw
      have yS8 := S8 _ hSw
      have yC0 := C0 _ hSw
      have yC1 := C1 _ hSw
      have yC2 := C2 _ hSw
      have yC3 := C3 _ hSw
      have yC4 := C4 _ hSw
      have yC5 := C5 _ hSw
      have yV1 := V1 _ hSw
      go_simp
      first | (with_reducible rfl) | done | assumption | skip
    simp only [Act.put, List.getElem_toArray, List.getElem_cons_succ, List.getElem_cons_zero, List.setIfInBounds_toArray, List.set_cons_zero, List.set_cons_succ]
    refine wpAnyH_take (i := 11) (v := .bool false) rfl (by kernel_rfl) (by kernel_rfl) (by kernel_rfl) (fun _ _ _ h => h) (Or.inl ⟨by kernel_rfl, ?_⟩) (by assumption) ?_
    · intro w' hSw
      have yS0 := S0 _ hSw
      have yS1 := S1 _ hSw
      have yS2 := S2 _ hSw
      have yS3 := S3 _ hSw
      have yS4 := S4 _ hSw
      have yS5 := S5 _ hSw
      have yS6 := S6 _ hSw
      have yS7 := S7 _ hSw
      have yS8 := S8 _ hSw
      have yC0 := C0 _ hSw
      have yC1 := C1 _ hSw
      have yC2 := C2 _ hSw
      have yC3 := C3 _ hSw
      have yC4 := C4 _ hSw
      have yC5 := C5 _ hSw
      have yV1 := V1 _ hSw
      go_simp
      first | (with_reducible rfl) | done | assumption | skip
    simp only [Act.put, List.getElem_toArray, List.getElem_cons_succ, List.getElem_cons_zero, List.setIfInBounds_toArray, List.set_cons_zero, List.set_cons_succ]
    refine wpAnyH_take (i := 12) (v := ?_) rfl (by kernel_rfl) (by kernel_rfl) (by kernel_rfl) (fun _ _ _ h => h) (Or.inl ⟨by kernel_rfl, ?_⟩) (by assumption) ?_
    rotate_left
    · intro w' hSw
      have yS0 := S0 _ hSw
      have yS1 := S1 _ hSw
      have yS2 := S2 _ hSw
      have yS3 := S3 _ hSw
      have yS4 := S4 _ hSw
      have yS5 := S5 _ hSw
      have yS6 := S6 _ hSw
      have yS7 := S7 _ hSw
      have yS8 := S8 _ hSw
      have yC0 := C0 _ hSw
      have yC1 := C1 _ hSw
      have yC2 := C2 _ hSw
      have yC3 := C3 _ hSw
      have yC4 := C4 _ hSw
      have yC5 := C5 _ hSw
      have yV1 := V1 _ hSw
      go_simp
      first | (with_reducible rfl) | done | assumption | skip
    simp only [Act.put, List.getElem_toArray, List.getElem_cons_succ, List.getElem_cons_zero, List.setIfInBounds_toArray, List.set_cons_zero, List.set_cons_succ]
    refine wpAnyH_take (i := 13) (v := ?_) rfl (by kernel_rfl) (by kernel_rfl) (by kernel_rfl) (fun _ _ _ h => h) (Or.inl ⟨by kernel_rfl, ?_⟩) (by assumption) ?_
    rotate_left
    · intro w' hSw
      have yS0 := S0 _ hSw
      have yS1 := S1 _ hSw
      have yS2 := S2 _ hSw
      have yS3 := S3 _ hSw
      have yS4 := S4 _ hSw
      have yS5 := S5 _ hSw
      have yS6 := S6 _ hSw
      have yS7 := S7 _ hSw
      have yS8 := S8 _ hSw
      have yC0 := C0 _ hSw
      have yC1 := C1 _ hSw
      have yC2 := C2 _ hSw
      have yC3 := C3 _ hSw
      have yC4 := C4 _ hSw
      have yC5 := C5 _ hSw
      have yV1 := V1 _ hSw
      go_simp
      first | (with_reducible rfl) | done | assumption | skip
    simp only [Act.put, List.getElem_toArray, List.getElem_cons_succ, List.getElem_cons_zero, List.setIfInBounds_toArray, List.set_cons_zero, List.set_cons_succ]
    refine wpAnyH_take (i := 14) (v := .bool true) rfl (by kernel_rfl) (by kernel_rfl) (by kernel_rfl) (fun _ _ _ h => h) (Or.inl ⟨by kernel_rfl, ?_⟩) (by assumption) ?_
    · intro w' hSw
      have yS0 := S0 _ hSw
      have yS1 := S1 _ hSw
      have yS2 := S2 _ hSw
      have yS3 := S3 _ hSw
      have yS4 := S4 _ hSw
      have yS5 := S5 _ hSw
      have yS6 := S6 _ hSw
      have yS7 := S7 _ hSw
      have yS8 := S8 _ hSw
      have yC0 := C0 _ hSw
      have yC1 := C1 _ hSw
      have yC2 := C2 _ hSw
      have yC3 := C3 _ hSw
      have yC4 := C4 _ hSw
      have yC5 := C5 _ hSw
      have yV1 := V1 _ hSw
      go_simp
      first | (with_reducible rfl) | done | assumption | skip
    simp only [Act.put, List.getElem_toArray, List.getElem_cons_succ, List.getElem_cons_zero, List.setIfInBounds_toArray, List.set_cons_zero, List.set_cons_succ]
    refine wpAnyH_take (i := 15) (v := .bool true) rfl (by kernel_rfl) (by kernel_rfl) (by kernel_rfl) (fun _ _ _ h => h) (Or.inl ⟨by kernel_rfl, ?_⟩) (by assumption) ?_
    · intro w' hSw
      have yS0 := S0 _ hSw
      have yS1 := S1 _ hSw
      have yS2 := S2 _ hSw
      have yS3 := S3 _ hSw
      have yS4 := S4 _ hSw
      have yS5 := S5 _ hSw
      have yS6 := S6 _ hSw
      have yS7 := S7 _ hSw
      have yS8 := S8 _ hSw
      have yC0 := C0 _ hSw
      have yC1 := C1 _ hSw
      have yC2 := C2 _ hSw
      have yC3 := C3 _ hSw
      have yC4 := C4 _ hSw
      have yC5 := C5 _ hSw
      have yV1 := V1 _ hSw
      go_simp
      first | (with_reducible rfl) | done | assumption | skip
    simp only [Act.put, List.getElem_toArray, List.getElem_cons_succ, List.getElem_cons_zero, List.setIfInBounds_toArray, List.set_cons_zero, List.set_cons_succ]
    refine wpAnyH_take (i := 16) (v := .bool true) rfl (by kernel_rfl) (by kernel_rfl) (by kernel_rfl) (fun _ _ _ h => h) (Or.inl ⟨by kernel_rfl, ?_⟩) (by assumption) ?_
    · intro w' hSw
      have yS0 := S0 _ hSw
      have yS1 := S1 _ hSw
      have yS2 := S2 _ hSw
      have yS3 := S3 _ hSw
      have yS4 := S4 _ hSw
      have yS5 := S5 _ hSw
      have yS6 := S6 _ hSw
      have yS7 := S7 _ hSw
      have yS8 := S8 _ hSw
      have yC0 := C0 _ hSw
      have yC1 := C1 _ hSw
      have yC2 := C2 _ hSw
      have yC3 := C3 _ hSw
      have yC4 := C4 _ hSw
      have yC5 := C5 _ hSw
      have yV1 := V1 _ hSw
      go_simp
      first | (with_reducible rfl) | done | assumption | skip
    simp only [Act.put, List.getElem_toArray, List.getElem_cons_succ, List.getElem_cons_zero, List.setIfInBounds_toArray, List.set_cons_zero, List.set_cons_succ]
    refine wpAnyH_take (i := 17) (v := undef) rfl (by kernel_rfl) (by kernel_rfl) (by kernel_rfl) (fun _ _ _ h => h) (Or.inr ⟨by kernel_rfl, rfl⟩) (by assumption) ?_
    simp only [Act.put, List.getElem_toArray, List.getElem_cons_succ, List.getElem_cons_zero, List.setIfInBounds_toArray, List.set_cons_zero, List.set_cons_succ]
    refine wpAnyH_take (i := 18) (v := undef) rfl (by kernel_rfl) (by kernel_rfl) (by kernel_rfl) (fun _ _ _ h => h) (Or.inr ⟨by kernel_rfl, rfl⟩) (by assumption) ?_
    simp only [Act.put, List.getElem_toArray, List.getElem_cons_succ, List.getElem_cons_zero, List.setIfInBounds_toArray, List.set_cons_zero, List.set_cons_succ]
    refine wpAnyH_take (i := 19) (v := undef) rfl (by kernel_rfl) (by kernel_rfl) (by kernel_rfl) (fun _ _ _ h => h) (Or.inr ⟨by kernel_rfl, rfl⟩) (by assumption) ?_
    simp only [Act.put, List.getElem_toArray, List.getElem_cons_succ, List.getElem_cons_zero, List.setIfInBounds_toArray, List.set_cons_zero, List.set_cons_succ]
    refine wpAnyH_take (i := 20) (v := undef) rfl (by kernel_rfl) (by kernel_rfl) (by kernel_rfl) (fun _ _ _ h => h) (Or.inr ⟨by kernel_rfl, rfl⟩) (by assumption) ?_
    simp only [Act.put, List.getElem_toArray, List.getElem_cons_succ, List.getElem_cons_zero, List.setIfInBounds_toArray, List.set_cons_zero, List.set_cons_succ]
    refine wpAnyH_take (i := 21) (v := undef) rfl (by kernel_rfl) (by kernel_rfl) (by kernel_rfl) (fun _ _ _ h => h) (Or.inr ⟨by kernel_rfl, rfl⟩) (by assumption) ?_
    simp only [Act.put, List.getElem_toArray, List.getElem_cons_succ, List.getElem_cons_zero, List.setIfInBounds_toArray, List.set_cons_zero, List.set_cons_succ]
    refine wpAnyH_take (i := 22) (v := undef) rfl (by kernel_rfl) (by kernel_rfl) (by kernel_rfl) (fun _ _ _ h => h) (Or.inr ⟨by kernel_rfl, rfl⟩) (by assumption) ?_
    simp only [Act.put, List.getElem_toArray, List.getElem_cons_succ, List.getElem_cons_zero, List.setIfInBounds_toArray, List.set_cons_zero, List.set_cons_succ]
    refine wpAnyH_ready (rs := [23]) (by kernel_rfl) (by simp) ?_
    refine AllReadyH.cons rfl (fun K hK => ?_) AllReadyH.nil
    go_simp
    refine hK.out _ _ (by assumption) (fun _ => ?_)
    clear hK K
    try simp only [Act.put, List.getElem_toArray, List.getElem_cons_succ, List.getElem_cons_zero, List.setIfInBounds_toArray, List.set_cons_zero, List.set_cons_succ]
    refine wpAnyH_take (i := 24) (v := undef) rfl (by kernel_rfl) (by kernel_rfl) (by kernel_rfl) (fun _ _ _ h => h) (Or.inr ⟨by kernel_rfl, rfl⟩) (by assumption) ?_
    simp only [Act.put, List.getElem_toArray, List.getElem_cons_succ, List.getElem_cons_zero, List.setIfInBounds_toArray, List.set_cons_zero, List.set_cons_succ]
    refine wpAnyH_take (i := 25) (v := .bool true) rfl (by kernel_rfl) (by kernel_rfl) (by kernel_rfl) (fun _ _ _ h => h) (Or.inl ⟨by kernel_rfl, ?_⟩) (by assumption) ?_
    · intro w' hSw
      have yS0 := S0 _ hSw
      have yS1 := S1 _ hSw
      have yS2 := S2 _ hSw
      have yS3 := S3 _ hSw
      have yS4 := S4 _ hSw
      have yS5 := S5 _ hSw
      have yS6 := S6 _ hSw
      have yS7 := S7 _ hSw
      have yS8 := S8 _ hSw
      have yC0 := C0 _ hSw
      have yC1 := C1 _ hSw
      have yC2 := C2 _ hSw
      have yC3 := C3 _ hSw
      have yC4 := C4 _ hSw
      have yC5 := C5 _ hSw
      have yV1 := V1 _ hSw
      go_simp
      first | (with_reducible rfl) | done | assumption | skip
    simp only [Act.put, List.getElem_toArray, List.getElem_cons_succ, List.getElem_cons_zero, List.setIfInBounds_toArray, List.set_cons_zero, List.set_cons_succ]
    refine wpAnyH_done (by kernel_rfl) ?_ _
    go_wp2
    go_ret
    exact ⟨by rw [HF.out]; rfl, bA.trans (bw0.mono bA.size)⟩
  | true =>
    by_cases h4 : kbl = NM
    rotate_left
    · have HF : Hid (P = 5) := by show _ = _; rw [← HP.out]; unfold decP; rw [if_neg (by simp), if_neg (by simp), if_neg (by simp), if_pos h4]
      have hd : (kbl == NM) = false := by simpa using h4
      clear HP KC KB kV kS kC
      have bw0 : Below wA.heap.size wA wA.drew := bw.drew
      refine wp_region_held (S := fun w' => Below wA.heap.size wA w') (by kernel_rfl) ?_
      refine wpAnyH_take (i := 0) (v := ?_) rfl (by kernel_rfl) (by kernel_rfl) (by kernel_rfl) (fun _ _ _ h => h) (Or.inl ⟨by kernel_rfl, ?_⟩) (by assumption) ?_
      rotate_left
      · intro w' hSw
        have yS0 := S0 _ hSw
        have yS1 := S1 _ hSw
        have yS2 := S2 _ hSw
        have yS3 := S3 _ hSw
        have yS4 := S4 _ hSw
        have yS5 := S5 _ hSw
        have yS6 := S6 _ hSw
        have yS7 := S7 _ hSw
        have yS8 := S8 _ hSw
        have yC0 := C0 _ hSw
        have yC1 := C1 _ hSw
        have yC2 := C2 _ hSw
        have yC3 := C3 _ hSw
        have yC4 := C4 _ hSw
        have yC5 := C5 _ hSw
        have yV1 := V1 _ hSw
        go_simp
        first | (with_reducible rfl) | done | assumption | skip
      simp only [Act.put, List.getElem_toArray, List.getElem_cons_succ, List.getElem_cons_zero, List.setIfInBounds_toArray, List.set_cons_zero, List.set_cons_succ]
      refine wpAnyH_take (i := 1) (v := ?_) rfl (by kernel_rfl) (by kernel_rfl) (by kernel_rfl) (fun _ _ _ h => h) (Or.inl ⟨by kernel_rfl, ?_⟩) (by assumption) ?_
      rotate_left
      · intro w' hSw
        have yS0 := S0 _ hSw
        have yS1 := S1 _ hSw
        have yS2 := S2 _ hSw
        have yS3 := S3 _ hSw
        have yS4 := S4 _ hSw
        have yS5 := S5 _ hSw
        have yS6 := S6 _ hSw
        have yS7 := S7 _ hSw
        have yS8 := S8 _ hSw
        have yC0 := C0 _ hSw
        have yC1 := C1 _ hSw
        have yC2 := C2 _ hSw
        have yC3 := C3 _ hSw
        have yC4 := C4 _ hSw
        have yC5 := C5 _ hSw
        have yV1 := V1 _ hSw
        go_simp
        first | (with_reducible rfl) | done | assumption | skip
      simp only [Act.put, List.getElem_toArray, List.getElem_cons_succ, List.getElem_cons_zero, List.setIfInBounds_toArray, List.set_cons_zero, List.set_cons_succ]
      refine wpAnyH_take (i := 2) (v := ?_) rfl (by kernel_rfl) (by kernel_rfl) (by kernel_rfl) (fun _ _ _ h => h) (Or.inl ⟨by kernel_rfl, ?_⟩) (by assumption) ?_
      rotate_left
      · intro w' hSw
        have yS0 := S0 _ hSw
        have yS1 := S1 _ hSw
        have yS2 := S2 _ hSw
        have yS3 := S3 _ hSw
        have yS4 := S4 _ hSw
        have yS5 := S5 _ hSw
        have yS6 := S6 _ hSw
        have yS7 := S7 _ hSw
        have yS8 := S8 _ hSw
        have yC0 := C0 _ hSw
        have yC1 := C1 _ hSw
        have yC2 := C2 _ hSw
        have yC3 := C3 _ hSw
        have yC4 := C4 _ hSw
        have yC5 := C5 _ hSw
        have yV1 := V1 _ hSw
        go_simp
        first | (with_reducible rfl) | done | assumption | skip
      simp only [Act.put, List.getElem_toArray, List.getElem_cons_succ, List.getElem_cons_zero, List.setIfInBounds_toArray, List.set_cons_zero, List.set_cons_succ]
      refine wpAnyH_take (i := 3) (v := ?_) rfl (by kernel_rfl) (by kernel_rfl) (by kernel_rfl) (fun _ _ _ h => h) (Or.inl ⟨by kernel_rfl, ?_⟩) (by assumption) ?_
      rotate_left
      · intro w' hSw
        have yS0 := S0 _ hSw
        have yS1 := S1 _ hSw
        have yS2 := S2 _ hSw
        have yS3 := S3 _ hSw
        have yS4 := S4 _ hSw
        have yS5 := S5 _ hSw
        have yS6 := S6 _ hSw
        have yS7 := S7 _ hSw
        have yS8 := S8 _ hSw
        have yC0 := C0 _ hSw
        have yC1 := C1 _ hSw
        have yC2 := C2 _ hSw
        have yC3 := C3 _ hSw
        have yC4 := C4 _ hSw
        have yC5 := C5 _ hSw
        have yV1 := V1 _ hSw
        go_simp
        first | (with_reducible rfl) | done | assumption | skip
      simp only [Act.put, List.getElem_toArray, List.getElem_cons_succ, List.getElem_cons_zero, List.setIfInBounds_toArray, List.set_cons_zero, List.set_cons_succ]
      refine wpAnyH_take (i := 4) (v := ?_) rfl (by kernel_rfl) (by kernel_rfl) (by kernel_rfl) (fun _ _ _ h => h) (Or.inl ⟨by kernel_rfl, ?_⟩) (by assumption) ?_
      rotate_left
      · intro w' hSw
        have yS0 := S0 _ hSw
        have yS1 := S1 _ hSw
        have yS2 := S2 _ hSw
        have yS3 := S3 _ hSw
        have yS4 := S4 _ hSw
        have yS5 := S5 _ hSw
        have yS6 := S6 _ hSw
        have yS7 := S7 _ hSw
        have yS8 := S8 _ hSw
        have yC0 := C0 _ hSw
        have yC1 := C1 _ hSw
        have yC2 := C2 _ hSw
        have yC3 := C3 _ hSw
        have yC4 := C4 _ hSw
        have yC5 := C5 _ hSw
        have yV1 := V1 _ hSw
        go_simp
        first | (with_reducible rfl) | done | assumption | skip
      simp only [Act.put, List.getElem_toArray, List.getElem_cons_succ, List.getElem_cons_zero, List.setIfInBounds_toArray, List.set_cons_zero, List.set_cons_succ]
      refine wpAnyH_take (i := 5) (v := .bool false) rfl (by kernel_rfl) (by kernel_rfl) (by kernel_rfl) (fun _ _ _ h => h) (Or.inl ⟨by kernel_rfl, ?_⟩) (by assumption) ?_
      · intro w' hSw
        have yS0 := S0 _ hSw
        have yS1 := S1 _ hSw
        have yS2 := S2 _ hSw
        have yS3 := S3 _ hSw
        have yS4 := S4 _ hSw
        have yS5 := S5 _ hSw
        have yS6 := S6 _ hSw
        have yS7 := S7 _ hSw
        have yS8 := S8 _ hSw
        have yC0 := C0 _ hSw
        have yC1 := C1 _ hSw
        have yC2 := C2 _ hSw
        have yC3 := C3 _ hSw
        have yC4 := C4 _ hSw
        have yC5 := C5 _ hSw
        have yV1 := V1 _ hSw
        go_simp
        first | (with_reducible rfl) | done | assumption | skip
      simp only [Act.put, List.getElem_toArray, List.getElem_cons_succ, List.getElem_cons_zero, List.setIfInBounds_toArray, List.set_cons_zero, List.set_cons_succ]
      refine wpAnyH_take (i := 6) (v := .bool false) rfl (by kernel_rfl) (by kernel_rfl) (by kernel_rfl) (fun _ _ _ h => h) (Or.inl ⟨by kernel_rfl, ?_⟩) (by assumption) ?_
      · intro w' hSw
        have yS0 := S0 _ hSw
        have yS1 := S1 _ hSw
        have yS2 := S2 _ hSw
        have yS3 := S3 _ hSw
        have yS4 := S4 _ hSw
        have yS5 := S5 _ hSw
        have yS6 := S6 _ hSw
        have yS7 := S7 _ hSw
        have yS8 := S8 _ hSw
        have yC0 := C0 _ hSw
        have yC1 := C1 _ hSw
        have yC2 := C2 _ hSw
        have yC3 := C3 _ hSw
        have yC4 := C4 _ hSw
        have yC5 := C5 _ hSw
        have yV1 := V1 _ hSw
        go_simp
        first | (with_reducible rfl) | done | assumption | skip
      simp only [Act.put, List.getElem_toArray, List.getElem_cons_succ, List.getElem_cons_zero, List.setIfInBounds_toArray, List.set_cons_zero, List.set_cons_succ]
      refine wpAnyH_take (i := 7) (v := ?_) rfl (by kernel_rfl) (by kernel_rfl) (by kernel_rfl) (fun _ _ _ h => h) (Or.inl ⟨by kernel_rfl, ?_⟩) (by assumption) ?_
      rotate_left
      · intro w' hSw
        have yS0 := S0 _ hSw
        have yS1 := S1 _ hSw
        have yS2 := S2 _ hSw
        have yS3 := S3 _ hSw
        have yS4 := S4 _ hSw
        have yS5 := S5 _ hSw
        have yS6 := S6 _ hSw
        have yS7 := S7 _ hSw
        have yS8 := S8 _ hSw
        have yC0 := C0 _ hSw
        have yC1 := C1 _ hSw
        have yC2 := C2 _ hSw
        have yC3 := C3 _ hSw
        have yC4 := C4 _ hSw
        have yC5 := C5 _ hSw
        have yV1 := V1 _ hSw
        go_simp
        first | (with_reducible rfl) | done | assumption | skip
      simp only [Act.put, List.getElem_toArray, List.getElem_cons_succ, List.getElem_cons_zero, List.setIfInBounds_toArray, List.set_cons_zero, List.set_cons_succ]
      refine wpAnyH_take (i := 8) (v := ?_) rfl (by kernel_rfl) (by kernel_rfl) (by kernel_rfl) (fun _ _ _ h => h) (Or.inl ⟨by kernel_rfl, ?_⟩) (by assumption) ?_
      rotate_left
      · intro w' hSw
        have yS0 := S0 _ hSw
        have yS1 := S1 _ hSw
        have yS2 := S2 _ hSw
        have yS3 := S3 _ hSw
        have yS4 := S4 _ hSw
        have yS5 := S5 _ hSw
        have yS6 := S6 _ hSw
        have yS7 := S7 _ hSw
        have yS8 := S8 _ hSw
        have yC0 := C0 _ hSw
        have yC1 := C1 _ hSw
        have yC2 := C2 _ hSw
        have yC3 := C3 _ hSw
        have yC4 := C4 _ hSw
        have yC5 := C5 _ hSw
        have yV1 := V1 _ hSw
        go_simp
        first | (with_reducible rfl) | done | assumption | skip
      simp only [Act.put, List.getElem_toArray, List.getElem_cons_succ, List.getElem_cons_zero, List.setIfInBounds_toArray, List.set_cons_zero, List.set_cons_succ]
      refine wpAnyH_take (i := 9) (v := .bool false) rfl (by kernel_rfl) (by kernel_rfl) (by kernel_rfl) (fun _ _ _ h => h) (Or.inl ⟨by kernel_rfl, ?_⟩) (by assumption) ?_
      · intro w' hSw
        have yS0 := S0 _ hSw
        have yS1 := S1 _ hSw
        have yS2 := S2 _ hSw
        have yS3 := S3 _ hSw
        have yS4 := S4 _ hSw
        have yS5 := S5 _ hSw
        have yS6 := S6 _ hSw
        have yS7 := S7 _ hSw
        have yS8 := S8 _ hSw
        have yC0 := C0 _ hSw
        have yC1 := C1 _ hSw
        have yC2 := C2 _ hSw
        have yC3 := C3 _ hSw
        have yC4 := C4 _ hSw
        have yC5 := C5 _ hSw
        have yV1 := V1 _ hSw
        go_simp
        first | (with_reducible rfl) | done | assumption | skip
      simp only [Act.put, List.getElem_toArray, List.getElem_cons_succ, List.getElem_cons_zero, List.setIfInBounds_toArray, List.set_cons_zero, List.set_cons_succ]
      refine wpAnyH_take (i := 10) (v := .bool false) rfl (by kernel_rfl) (by kernel_rfl) (by kernel_rfl) (fun _ _ _ h => h) (Or.inl ⟨by kernel_rfl, ?_⟩) (by assumption) ?_
      · intro w' hSw
        have yS0 := S0 _ hSw
        have yS1 := S1 _ hSw
        have yS2 := S2 _ hSw
        have yS3 := S3 _ hSw
        have yS4 := S4 _ hSw
        have yS5 := S5 _ hSw
        have yS6 := S6 _ hSw
        have yS7 := S7 _ hSw
        have yS8 := S8 _ hSw
        have yC0 := C0 _ hSw
        have yC1 := C1 _ hSw
        have yC2 := C2 _ hSw
        have yC3 := C3 _ hSw
        have yC4 := C4 _ hSw
        have yC5 := C5 _ hSw
        have yV1 := V1 _ hSw
        go_simp
        first | (with_reducible rfl) | done | assumption | skip
      simp only [Act.put, List.getElem_toArray, List.getElem_cons_succ, List.getElem_cons_zero, List.setIfInBounds_toArray, List.set_cons_zero, List.set_cons_succ]
      refine wpAnyH_take (i := 11) (v := .bool false) rfl (by kernel_rfl) (by kernel_rfl) (by kernel_rfl) (fun _ _ _ h => h) (Or.inl ⟨by kernel_rfl, ?_⟩) (by assumption) ?_
      · intro w' hSw
        have yS0 := S0 _ hSw
        have yS1 := S1 _ hSw
        have yS2 := S2 _ hSw
        have yS3 := S3 _ hSw
        have yS4 := S4 _ hSw
        have yS5 := S5 _ hSw
        have yS6 := S6 _ hSw
        have yS7 := S7 _ hSw
        have yS8 := S8 _ hSw
        have yC0 := C0 _ hSw
        have yC1 := C1 _ hSw
        have yC2 := C2 _ hSw
        have yC3 := C3 _ hSw
        have yC4 := C4 _ hSw
        have yC5 := C5 _ hSw
        have yV1 := V1 _ hSw
        go_simp
        first | (with_reducible rfl) | done | assumption | skip
      simp only [Act.put, List.getElem_toArray, List.getElem_cons_succ, List.getElem_cons_zero, List.setIfInBounds_toArray, List.set_cons_zero, List.set_cons_succ]
      refine wpAnyH_take (i := 12) (v := ?_) rfl (by kernel_rfl) (by kernel_rfl) (by kernel_rfl) (fun _ _ _ h => h) (Or.inl ⟨by kernel_rfl, ?_⟩) (by assumption) ?_
      rotate_left
      · intro w' hSw
        have yS0 := S0 _ hSw
        have yS1 := S1 _ hSw
        have yS2 := S2 _ hSw
        have yS3 := S3 _ hSw
        have yS4 := S4 _ hSw
        have yS5 := S5 _ hSw
        have yS6 := S6 _ hSw
        have yS7 := S7 _ hSw
        have yS8 := S8 _ hSw
        have yC0 := C0 _ hSw
        have yC1 := C1 _ hSw
        have yC2 := C2 _ hSw
        have yC3 := C3 _ hSw
        have yC4 := C4 _ hSw
        have yC5 := C5 _ hSw
        have yV1 := V1 _ hSw
        go_simp
        first | (with_reducible rfl) | done | assumption | skip
      simp only [Act.put, List.getElem_toArray, List.getElem_cons_succ, List.getElem_cons_zero, List.setIfInBounds_toArray, List.set_cons_zero, List.set_cons_succ]
      refine wpAnyH_take (i := 13) (v := ?_) rfl (by kernel_rfl) (by kernel_rfl) (by kernel_rfl) (fun _ _ _ h => h) (Or.inl ⟨by kernel_rfl, ?_⟩) (by assumption) ?_
      rotate_left
      · intro w' hSw
        have yS0 := S0 _ hSw
        have yS1 := S1 _ hSw
        have yS2 := S2 _ hSw
        have yS3 := S3 _ hSw
        have yS4 := S4 _ hSw
        have yS5 := S5 _ hSw
        have yS6 := S6 _ hSw
        have yS7 := S7 _ hSw
        have yS8 := S8 _ hSw
        have yC0 := C0 _ hSw
        have yC1 := C1 _ hSw
        have yC2 := C2 _ hSw
        have yC3 := C3 _ hSw
        have yC4 := C4 _ hSw
        have yC5 := C5 _ hSw
        have yV1 := V1 _ hSw
        go_simp
        first | (with_reducible rfl) | done | assumption | skip
      simp only [Act.put, List.getElem_toArray, List.getElem_cons_succ, List.getElem_cons_zero, List.setIfInBounds_toArray, List.set_cons_zero, List.set_cons_succ]
      refine wpAnyH_take (i := 14) (v := .bool false) rfl (by kernel_rfl) (by kernel_rfl) (by kernel_rfl) (fun _ _ _ h => h) (Or.inl ⟨by kernel_rfl, ?_⟩) (by assumption) ?_
      · intro w' hSw
        have yS0 := S0 _ hSw
        have yS1 := S1 _ hSw
        have yS2 := S2 _ hSw
        have yS3 := S3 _ hSw
        have yS4 := S4 _ hSw
        have yS5 := S5 _ hSw
        have yS6 := S6 _ hSw
        have yS7 := S7 _ hSw
        have yS8 := S8 _ hSw
        have yC0 := C0 _ hSw
        have yC1 := C1 _ hSw
        have yC2 := C2 _ hSw
        have yC3 := C3 _ hSw
        have yC4 := C4 _ hSw
        have yC5 := C5 _ hSw
        have yV1 := V1 _ hSw
        go_simp
        first | (with_reducible rfl) | done | assumption | skip
      simp only [Act.put, List.getElem_toArray, List.getElem_cons_succ, List.getElem_cons_zero, List.setIfInBounds_toArray, List.set_cons_zero, List.set_cons_succ]
      refine wpAnyH_take (i := 15) (v := .bool false) rfl (by kernel_rfl) (by kernel_rfl) (by kernel_rfl) (fun _ _ _ h => h) (Or.inl ⟨by kernel_rfl, ?_⟩) (by assumption) ?_
      · intro w' hSw
        have yS0 := S0 _ hSw
        have yS1 := S1 _ hSw
        have yS2 := S2 _ hSw
        have yS3 := S3 _ hSw
        have yS4 := S4 _ hSw
        have yS5 := S5 _ hSw
        have yS6 := S6 _ hSw
        have yS7 := S7 _ hSw
        have yS8 := S8 _ hSw
        have yC0 := C0 _ hSw
        have yC1 := C1 _ hSw
        have yC2 := C2 _ hSw
        have yC3 := C3 _ hSw
        have yC4 := C4 _ hSw
        have yC5 := C5 _ hSw
        have yV1 := V1 _ hSw
        go_simp
        first | (with_reducible rfl) | done | assumption | skip
      simp only [Act.put, List.getElem_toArray, List.getElem_cons_succ, List.getElem_cons_zero, List.setIfInBounds_toArray, List.set_cons_zero, List.set_cons_succ]
      refine wpAnyH_take (i := 16) (v := .bool false) rfl (by kernel_rfl) (by kernel_rfl) (by kernel_rfl) (fun _ _ _ h => h) (Or.inl ⟨by kernel_rfl, ?_⟩) (by assumption) ?_
      · intro w' hSw
        have yS0 := S0 _ hSw
        have yS1 := S1 _ hSw
        have yS2 := S2 _ hSw
        have yS3 := S3 _ hSw
        have yS4 := S4 _ hSw
        have yS5 := S5 _ hSw
        have yS6 := S6 _ hSw
        have yS7 := S7 _ hSw
        have yS8 := S8 _ hSw
        have yC0 := C0 _ hSw
        have yC1 := C1 _ hSw
        have yC2 := C2 _ hSw
        have yC3 := C3 _ hSw
        have yC4 := C4 _ hSw
        have yC5 := C5 _ hSw
        have yV1 := V1 _ hSw
        go_simp
        first | (with_reducible rfl) | done | assumption | skip
      simp only [Act.put, List.getElem_toArray, List.getElem_cons_succ, List.getElem_cons_zero, List.setIfInBounds_toArray, List.set_cons_zero, List.set_cons_succ]
      refine wpAnyH_take (i := 17) (v := ?_) rfl (by kernel_rfl) (by kernel_rfl) (by kernel_rfl) (fun _ _ _ h => h) (Or.inl ⟨by kernel_rfl, ?_⟩) (by assumption) ?_
      rotate_left
      · intro w' hSw
        have yS0 := S0 _ hSw
        have yS1 := S1 _ hSw
        have yS2 := S2 _ hSw
        have yS3 := S3 _ hSw
        have yS4 := S4 _ hSw
        have yS5 := S5 _ hSw
        have yS6 := S6 _ hSw
        have yS7 := S7 _ hSw
        have yS8 := S8 _ hSw
        have yC0 := C0 _ hSw
        have yC1 := C1 _ hSw
        have yC2 := C2 _ hSw
        have yC3 := C3 _ hSw
        have yC4 := C4 _ hSw
        have yC5 := C5 _ hSw
        have yV1 := V1 _ hSw
        go_simp
        first | (with_reducible rfl) | done | assumption | skip
      simp only [Act.put, List.getElem_toArray, List.getElem_cons_succ, List.getElem_cons_zero, List.setIfInBounds_toArray, List.set_cons_zero, List.set_cons_succ]
      refine wpAnyH_take (i := 18) (v := ?_) rfl (by kernel_rfl) (by kernel_rfl) (by kernel_rfl) (fun _ _ _ h => h) (Or.inl ⟨by kernel_rfl, ?_⟩) (by assumption) ?_
      rotate_left
      · intro w' hSw
        have yS0 := S0 _ hSw
        have yS1 := S1 _ hSw
        have yS2 := S2 _ hSw
        have yS3 := S3 _ hSw
        have yS4 := S4 _ hSw
        have yS5 := S5 _ hSw
        have yS6 := S6 _ hSw
        have yS7 := S7 _ hSw
        have yS8 := S8 _ hSw
        have yC0 := C0 _ hSw
        have yC1 := C1 _ hSw
        have yC2 := C2 _ hSw
        have yC3 := C3 _ hSw
        have yC4 := C4 _ hSw
        have yC5 := C5 _ hSw
        have yV1 := V1 _ hSw
        go_simp
        first | (with_reducible rfl) | done | assumption | skip
      simp only [Act.put, List.getElem_toArray, List.getElem_cons_succ, List.getElem_cons_zero, List.setIfInBounds_toArray, List.set_cons_zero, List.set_cons_succ]
      refine wpAnyH_take (i := 19) (v := ?_) rfl (by kernel_rfl) (by kernel_rfl) (by kernel_rfl) (fun _ _ _ h => h) (Or.inl ⟨by kernel_rfl, ?_⟩) (by assumption) ?_
      rotate_left
      · intro w' hSw
        have yS0 := S0 _ hSw
        have yS1 := S1 _ hSw
        have yS2 := S2 _ hSw
        have yS3 := S3 _ hSw
        have yS4 := S4 _ hSw
        have yS5 := S5 _ hSw
        have yS6 := S6 _ hSw
        have yS7 := S7 _ hSw
        have yS8 := S8 _ hSw
        have yC0 := C0 _ hSw
        have yC1 := C1 _ hSw
        have yC2 := C2 _ hSw
        have yC3 := C3 _ hSw
        have yC4 := C4 _ hSw
        have yC5 := C5 _ hSw
        have yV1 := V1 _ hSw
        go_simp
        first | (with_reducible rfl) | done | assumption | skip
      simp only [Act.put, List.getElem_toArray, List.getElem_cons_succ, List.getElem_cons_zero, List.setIfInBounds_toArray, List.set_cons_zero, List.set_cons_succ]
      refine wpAnyH_take (i := 20) (v := ?_) rfl (by kernel_rfl) (by kernel_rfl) (by kernel_rfl) (fun _ _ _ h => h) (Or.inl ⟨by kernel_rfl, ?_⟩) (by assumption) ?_
      rotate_left
      · intro w' hSw
        have yS0 := S0 _ hSw
        have yS1 := S1 _ hSw
        have yS2 := S2 _ hSw
        have yS3 := S3 _ hSw
        have yS4 := S4 _ hSw
        have yS5 := S5 _ hSw
        have yS6 := S6 _ hSw
        have yS7 := S7 _ hSw
        have yS8 := S8 _ hSw
        have yC0 := C0 _ hSw
        have yC1 := C1 _ hSw
        have yC2 := C2 _ hSw
        have yC3 := C3 _ hSw
        have yC4 := C4 _ hSw
        have yC5 := C5 _ hSw
        have yV1 := V1 _ hSw
        go_simp
        first | (with_reducible rfl) | done | assumption | skip
      simp only [Act.put, List.getElem_toArray, List.getElem_cons_succ, List.getElem_cons_zero, List.setIfInBounds_toArray, List.set_cons_zero, List.set_cons_succ]
      refine wpAnyH_take (i := 21) (v := ?_) rfl (by kernel_rfl) (by kernel_rfl) (by kernel_rfl) (fun _ _ _ h => h) (Or.inl ⟨by kernel_rfl, ?_⟩) (by assumption) ?_
      rotate_left
      · intro w' hSw
        have yS0 := S0 _ hSw
        have yS1 := S1 _ hSw
        have yS2 := S2 _ hSw
        have yS3 := S3 _ hSw
        have yS4 := S4 _ hSw
        have yS5 := S5 _ hSw
        have yS6 := S6 _ hSw
        have yS7 := S7 _ hSw
        have yS8 := S8 _ hSw
        have yC0 := C0 _ hSw
        have yC1 := C1 _ hSw
        have yC2 := C2 _ hSw
        have yC3 := C3 _ hSw
        have yC4 := C4 _ hSw
        have yC5 := C5 _ hSw
        have yV1 := V1 _ hSw
        go_simp
        first | (with_reducible rfl) | done | assumption | skip
      simp only [Act.put, List.getElem_toArray, List.getElem_cons_succ, List.getElem_cons_zero, List.setIfInBounds_toArray, List.set_cons_zero, List.set_cons_succ]
      refine wpAnyH_take (i := 22) (v := ?_) rfl (by kernel_rfl) (by kernel_rfl) (by kernel_rfl) (fun _ _ _ h => h) (Or.inl ⟨by kernel_rfl, ?_⟩) (by assumption) ?_
      rotate_left
      · intro w' hSw
        have yS0 := S0 _ hSw
        have yS1 := S1 _ hSw
        have yS2 := S2 _ hSw
        have yS3 := S3 _ hSw
        have yS4 := S4 _ hSw
        have yS5 := S5 _ hSw
        have yS6 := S6 _ hSw
        have yS7 := S7 _ hSw
        have yS8 := S8 _ hSw
        have yC0 := C0 _ hSw
        have yC1 := C1 _ hSw
        have yC2 := C2 _ hSw
        have yC3 := C3 _ hSw
        have yC4 := C4 _ hSw
        have yC5 := C5 _ hSw
        have yV1 := V1 _ hSw
        go_simp
        first | (with_reducible rfl) | done | assumption | skip
      simp only [Act.put, List.getElem_toArray, List.getElem_cons_succ, List.getElem_cons_zero, List.setIfInBounds_toArray, List.set_cons_zero, List.set_cons_succ]
      refine wpAnyH_ready (rs := [23]) (by kernel_rfl) (by simp) ?_
      refine AllReadyH.cons rfl (fun K hK => ?_) AllReadyH.nil
      go_simp
      refine (KN _ (by assumption)).mono ?_
      rintro e w3 ⟨rfl, b3⟩
      have hNext3 : Below wA.heap.size wA w3 := Below.trans bw0 (b3.mono (Below.size bw0))
      refine hK.out _ _ hNext3 (fun _ => ?_)
      clear hK K
      try simp only [Act.put, List.getElem_toArray, List.getElem_cons_succ, List.getElem_cons_zero, List.setIfInBounds_toArray, List.set_cons_zero, List.set_cons_succ]
      refine wpAnyH_take (i := 24) (v := .bool true) rfl (by kernel_rfl) (by kernel_rfl) (by kernel_rfl) (fun _ _ _ h => h) (Or.inl ⟨by kernel_rfl, ?_⟩) (by assumption) ?_
      · intro w' hSw
        have yS0 := S0 _ hSw
        have yS1 := S1 _ hSw
        have yS2 := S2 _ hSw
        have yS3 := S3 _ hSw
        have yS4 := S4 _ hSw
        have yS5 := S5 _ hSw
        have yS6 := S6 _ hSw
        have yS7 := S7 _ hSw
        have yS8 := S8 _ hSw
        have yC0 := C0 _ hSw
        have yC1 := C1 _ hSw
        have yC2 := C2 _ hSw
        have yC3 := C3 _ hSw
        have yC4 := C4 _ hSw
        have yC5 := C5 _ hSw
        have yV1 := V1 _ hSw
        go_simp
        first | (with_reducible rfl) | done | assumption | skip
      simp only [Act.put, List.getElem_toArray, List.getElem_cons_succ, List.getElem_cons_zero, List.setIfInBounds_toArray, List.set_cons_zero, List.set_cons_succ]
      refine wpAnyH_take (i := 25) (v := .bool true) rfl (by kernel_rfl) (by kernel_rfl) (by kernel_rfl) (fun _ _ _ h => h) (Or.inl ⟨by kernel_rfl, ?_⟩) (by assumption) ?_
      · intro w' hSw
        have yS0 := S0 _ hSw
        have yS1 := S1 _ hSw
        have yS2 := S2 _ hSw
        have yS3 := S3 _ hSw
        have yS4 := S4 _ hSw
        have yS5 := S5 _ hSw
        have yS6 := S6 _ hSw
        have yS7 := S7 _ hSw
        have yS8 := S8 _ hSw
        have yC0 := C0 _ hSw
        have yC1 := C1 _ hSw
        have yC2 := C2 _ hSw
        have yC3 := C3 _ hSw
        have yC4 := C4 _ hSw
        have yC5 := C5 _ hSw
        have yV1 := V1 _ hSw
        go_simp
        first | (with_reducible rfl) | done | assumption | skip
      simp only [Act.put, List.getElem_toArray, List.getElem_cons_succ, List.getElem_cons_zero, List.setIfInBounds_toArray, List.set_cons_zero, List.set_cons_succ]
      refine wpAnyH_done (by kernel_rfl) ?_ _
      go_wp2
      go_ret
      exact ⟨by rw [HF.out]; rfl, bA.trans (hNext3.mono bA.size)⟩
    subst h4
    have HF0 : Hid (P = if CE ≠ 0 then CE else if BD ≠ hbe then 5 else 0) := by show _ = _; rw [← HP.out]; unfold decP; rw [if_neg (by simp), if_neg (by simp), if_neg (by simp), if_neg (by simp)]
    clear HP
    have bw0 : Below wA.heap.size wA wA.drew := bw.drew
    refine wp_region_held (S := fun w' => Below wA.heap.size wA w') (by kernel_rfl) ?_
    refine wpAnyH_take (i := 0) (v := ?_) rfl (by kernel_rfl) (by kernel_rfl) (by kernel_rfl) (fun _ _ _ h => h) (Or.inl ⟨by kernel_rfl, ?_⟩) (by assumption) ?_
    rotate_left
    · intro w' hSw
      have yS0 := S0 _ hSw
      have yS1 := S1 _ hSw
      have yS2 := S2 _ hSw
      have yS3 := S3 _ hSw
      have yS4 := S4 _ hSw
      have yS5 := S5 _ hSw
      have yS6 := S6 _ hSw
      have yS7 := S7 _ hSw
      have yS8 := S8 _ hSw
      have yC0 := C0 _ hSw
      have yC1 := C1 _ hSw
      have yC2 := C2 _ hSw
      have yC3 := C3 _ hSw
      have yC4 := C4 _ hSw
      have yC5 := C5 _ hSw
      have yV1 := V1 _ hSw
      go_simp
      first | (with_reducible rfl) | done | assumption | skip
    simp only [Act.put, List.getElem_toArray, List.getElem_cons_succ, List.getElem_cons_zero, List.setIfInBounds_toArray, List.set_cons_zero, List.set_cons_succ]
    refine wpAnyH_take (i := 1) (v := ?_) rfl (by kernel_rfl) (by kernel_rfl) (by kernel_rfl) (fun _ _ _ h => h) (Or.inl ⟨by kernel_rfl, ?_⟩) (by assumption) ?_
    rotate_left
    · intro w' hSw
      have yS0 := S0 _ hSw
      have yS1 := S1 _ hSw
      have yS2 := S2 _ hSw
      have yS3 := S3 _ hSw
      have yS4 := S4 _ hSw
      have yS5 := S5 _ hSw
      have yS6 := S6 _ hSw
      have yS7 := S7 _ hSw
      have yS8 := S8 _ hSw
      have yC0 := C0 _ hSw
      have yC1 := C1 _ hSw
      have yC2 := C2 _ hSw
      have yC3 := C3 _ hSw
      have yC4 := C4 _ hSw
      have yC5 := C5 _ hSw
      have yV1 := V1 _ hSw
      go_simp
      first | (with_reducible rfl) | done | assumption | skip
    simp only [Act.put, List.getElem_toArray, List.getElem_cons_succ, List.getElem_cons_zero, List.setIfInBounds_toArray, List.set_cons_zero, List.set_cons_succ]
    refine wpAnyH_take (i := 2) (v := ?_) rfl (by kernel_rfl) (by kernel_rfl) (by kernel_rfl) (fun _ _ _ h => h) (Or.inl ⟨by kernel_rfl, ?_⟩) (by assumption) ?_
    rotate_left
    · intro w' hSw
      have yS0 := S0 _ hSw
      have yS1 := S1 _ hSw
      have yS2 := S2 _ hSw
      have yS3 := S3 _ hSw
      have yS4 := S4 _ hSw
      have yS5 := S5 _ hSw
      have yS6 := S6 _ hSw
      have yS7 := S7 _ hSw
      have yS8 := S8 _ hSw
      have yC0 := C0 _ hSw
      have yC1 := C1 _ hSw
      have yC2 := C2 _ hSw
      have yC3 := C3 _ hSw
      have yC4 := C4 _ hSw
      have yC5 := C5 _ hSw
      have yV1 := V1 _ hSw
      go_simp
      first | (with_reducible rfl) | done | assumption | skip
    simp only [Act.put, List.getElem_toArray, List.getElem_cons_succ, List.getElem_cons_zero, List.setIfInBounds_toArray, List.set_cons_zero, List.set_cons_succ]
    refine wpAnyH_take (i := 3) (v := ?_) rfl (by kernel_rfl) (by kernel_rfl) (by kernel_rfl) (fun _ _ _ h => h) (Or.inl ⟨by kernel_rfl, ?_⟩) (by assumption) ?_
    rotate_left
    · intro w' hSw
      have yS0 := S0 _ hSw
      have yS1 := S1 _ hSw
      have yS2 := S2 _ hSw
      have yS3 := S3 _ hSw
      have yS4 := S4 _ hSw
      have yS5 := S5 _ hSw
      have yS6 := S6 _ hSw
      have yS7 := S7 _ hSw
      have yS8 := S8 _ hSw
      have yC0 := C0 _ hSw
      have yC1 := C1 _ hSw
      have yC2 := C2 _ hSw
      have yC3 := C3 _ hSw
      have yC4 := C4 _ hSw
      have yC5 := C5 _ hSw
      have yV1 := V1 _ hSw
      go_simp
      first | (with_reducible rfl) | done | assumption | skip
    simp only [Act.put, List.getElem_toArray, List.getElem_cons_succ, List.getElem_cons_zero, List.setIfInBounds_toArray, List.set_cons_zero, List.set_cons_succ]
    refine wpAnyH_take (i := 4) (v := ?_) rfl (by kernel_rfl) (by kernel_rfl) (by kernel_rfl) (fun _ _ _ h => h) (Or.inl ⟨by kernel_rfl, ?_⟩) (by assumption) ?_
    rotate_left
    · intro w' hSw
      have yS0 := S0 _ hSw
      have yS1 := S1 _ hSw
      have yS2 := S2 _ hSw
      have yS3 := S3 _ hSw
      have yS4 := S4 _ hSw
      have yS5 := S5 _ hSw
      have yS6 := S6 _ hSw
      have yS7 := S7 _ hSw
      have yS8 := S8 _ hSw
      have yC0 := C0 _ hSw
      have yC1 := C1 _ hSw
      have yC2 := C2 _ hSw
      have yC3 := C3 _ hSw
      have yC4 := C4 _ hSw
      have yC5 := C5 _ hSw
      have yV1 := V1 _ hSw
      go_simp
      first | (with_reducible rfl) | done | assumption | skip
    simp only [Act.put, List.getElem_toArray, List.getElem_cons_succ, List.getElem_cons_zero, List.setIfInBounds_toArray, List.set_cons_zero, List.set_cons_succ]
    refine wpAnyH_take (i := 5) (v := .bool false) rfl (by kernel_rfl) (by kernel_rfl) (by kernel_rfl) (fun _ _ _ h => h) (Or.inl ⟨by kernel_rfl, ?_⟩) (by assumption) ?_
    · intro w' hSw
      have yS0 := S0 _ hSw
      have yS1 := S1 _ hSw
      have yS2 := S2 _ hSw
      have yS3 := S3 _ hSw
      have yS4 := S4 _ hSw
      have yS5 := S5 _ hSw
      have yS6 := S6 _ hSw
      have yS7 := S7 _ hSw
      have yS8 := S8 _ hSw
      have yC0 := C0 _ hSw
      have yC1 := C1 _ hSw
      have yC2 := C2 _ hSw
      have yC3 := C3 _ hSw
      have yC4 := C4 _ hSw
      have yC5 := C5 _ hSw
      have yV1 := V1 _ hSw
      go_simp
      first | (with_reducible rfl) | done | assumption | skip
    simp only [Act.put, List.getElem_toArray, List.getElem_cons_succ, List.getElem_cons_zero, List.setIfInBounds_toArray, List.set_cons_zero, List.set_cons_succ]
    refine wpAnyH_take (i := 6) (v := .bool false) rfl (by kernel_rfl) (by kernel_rfl) (by kernel_rfl) (fun _ _ _ h => h) (Or.inl ⟨by kernel_rfl, ?_⟩) (by assumption) ?_
    · intro w' hSw
      have yS0 := S0 _ hSw
      have yS1 := S1 _ hSw
      have yS2 := S2 _ hSw
      have yS3 := S3 _ hSw
      have yS4 := S4 _ hSw
      have yS5 := S5 _ hSw
      have yS6 := S6 _ hSw
      have yS7 := S7 _ hSw
      have yS8 := S8 _ hSw
      have yC0 := C0 _ hSw
      have yC1 := C1 _ hSw
      have yC2 := C2 _ hSw
      have yC3 := C3 _ hSw
      have yC4 := C4 _ hSw
      have yC5 := C5 _ hSw
      have yV1 := V1 _ hSw
      go_simp
      first | (with_reducible rfl) | done | assumption | skip
    simp only [Act.put, List.getElem_toArray, List.getElem_cons_succ, List.getElem_cons_zero, List.setIfInBounds_toArray, List.set_cons_zero, List.set_cons_succ]
    refine wpAnyH_take (i := 7) (v := ?_) rfl (by kernel_rfl) (by kernel_rfl) (by kernel_rfl) (fun _ _ _ h => h) (Or.inl ⟨by kernel_rfl, ?_⟩) (by assumption) ?_
    rotate_left
    · intro w' hSw
      have yS0 := S0 _ hSw
      have yS1 := S1 _ hSw
      have yS2 := S2 _ hSw
      have yS3 := S3 _ hSw
      have yS4 := S4 _ hSw
      have yS5 := S5 _ hSw
      have yS6 := S6 _ hSw
      have yS7 := S7 _ hSw
      have yS8 := S8 _ hSw
      have yC0 := C0 _ hSw
      have yC1 := C1 _ hSw
      have yC2 := C2 _ hSw
      have yC3 := C3 _ hSw
      have yC4 := C4 _ hSw
      have yC5 := C5 _ hSw
      have yV1 := V1 _ hSw
      go_simp
      first | (with_reducible rfl) | done | assumption | skip
    simp only [Act.put, List.getElem_toArray, List.getElem_cons_succ, List.getElem_cons_zero, List.setIfInBounds_toArray, List.set_cons_zero, List.set_cons_succ]
    refine wpAnyH_take (i := 8) (v := ?_) rfl (by kernel_rfl) (by kernel_rfl) (by kernel_rfl) (fun _ _ _ h => h) (Or.inl ⟨by kernel_rfl, ?_⟩) (by assumption) ?_
    rotate_left
    · intro w' hSw
      have yS0 := S0 _ hSw
      have yS1 := S1 _ hSw
      have yS2 := S2 _ hSw
      have yS3 := S3 _ hSw
      have yS4 := S4 _ hSw
      have yS5 := S5 _ hSw
      have yS6 := S6 _ hSw
      have yS7 := S7 _ hSw
      have yS8 := S8 _ hSw
      have yC0 := C0 _ hSw
      have yC1 := C1 _ hSw
      have yC2 := C2 _ hSw
      have yC3 := C3 _ hSw
      have yC4 := C4 _ hSw
      have yC5 := C5 _ hSw
      have yV1 := V1 _ hSw
      go_simp
      first | (with_reducible rfl) | done | assumption | skip
    simp only [Act.put, List.getElem_toArray, List.getElem_cons_succ, List.getElem_cons_zero, List.setIfInBounds_toArray, List.set_cons_zero, List.set_cons_succ]
    refine wpAnyH_take (i := 9) (v := .bool false) rfl (by kernel_rfl) (by kernel_rfl) (by kernel_rfl) (fun _ _ _ h => h) (Or.inl ⟨by kernel_rfl, ?_⟩) (by assumption) ?_
    · intro w' hSw
      have yS0 := S0 _ hSw
      have yS1 := S1 _ hSw
      have yS2 := S2 _ hSw
      have yS3 := S3 _ hSw
      have yS4 := S4 _ hSw
      have yS5 := S5 _ hSw
      have yS6 := S6 _ hSw
      have yS7 := S7 _ hSw
      have yS8 := S8 _ hSw
      have yC0 := C0 _ hSw
      have yC1 := C1 _ hSw
      have yC2 := C2 _ hSw
      have yC3 := C3 _ hSw
      have yC4 := C4 _ hSw
      have yC5 := C5 _ hSw
      have yV1 := V1 _ hSw
      go_simp
      first | (with_reducible rfl) | done | assumption | skip
    simp only [Act.put, List.getElem_toArray, List.getElem_cons_succ, List.getElem_cons_zero, List.setIfInBounds_toArray, List.set_cons_zero, List.set_cons_succ]
    refine wpAnyH_take (i := 10) (v := .bool false) rfl (by kernel_rfl) (by kernel_rfl) (by kernel_rfl) (fun _ _ _ h => h) (Or.inl ⟨by kernel_rfl, ?_⟩) (by assumption) ?_
    · intro w' hSw
      have yS0 := S0 _ hSw
      have yS1 := S1 _ hSw
      have yS2 := S2 _ hSw
      have yS3 := S3 _ hSw
      have yS4 := S4 _ hSw
      have yS5 := S5 _ hSw
      have yS6 := S6 _ hSw
      have yS7 := S7 _ hSw
      have yS8 := S8 _ hSw
      have yC0 := C0 _ hSw
      have yC1 := C1 _ hSw
      have yC2 := C2 _ hSw
      have yC3 := C3 _ hSw
      have yC4 := C4 _ hSw
      have yC5 := C5 _ hSw
      have yV1 := V1 _ hSw
      go_simp
      first | (with_reducible rfl) | done | assumption | skip
    simp only [Act.put, List.getElem_toArray, List.getElem_cons_succ, List.getElem_cons_zero, List.setIfInBounds_toArray, List.set_cons_zero, List.set_cons_succ]
    refine wpAnyH_take (i := 11) (v := .bool false) rfl (by kernel_rfl) (by kernel_rfl) (by kernel_rfl) (fun _ _ _ h => h) (Or.inl ⟨by kernel_rfl, ?_⟩) (by assumption) ?_
    · intro w' hSw
      have yS0 := S0 _ hSw
      have yS1 := S1 _ hSw
      have yS2 := S2 _ hSw
      have yS3 := S3 _ hSw
      have yS4 := S4 _ hSw
      have yS5 := S5 _ hSw
      have yS6 := S6 _ hSw
      have yS7 := S7 _ hSw
      have yS8 := S8 _ hSw
      have yC0 := C0 _ hSw
      have yC1 := C1 _ hSw
      have yC2 := C2 _ hSw
      have yC3 := C3 _ hSw
      have yC4 := C4 _ hSw
      have yC5 := C5 _ hSw
      have yV1 := V1 _ hSw
      go_simp
      first | (with_reducible rfl) | done | assumption | skip
    simp only [Act.put, List.getElem_toArray, List.getElem_cons_succ, List.getElem_cons_zero, List.setIfInBounds_toArray, List.set_cons_zero, List.set_cons_succ]
    refine wpAnyH_take (i := 12) (v := ?_) rfl (by kernel_rfl) (by kernel_rfl) (by kernel_rfl) (fun _ _ _ h => h) (Or.inl ⟨by kernel_rfl, ?_⟩) (by assumption) ?_
    rotate_left
    · intro w' hSw
      have yS0 := S0 _ hSw
      have yS1 := S1 _ hSw
      have yS2 := S2 _ hSw
      have yS3 := S3 _ hSw
      have yS4 := S4 _ hSw
      have yS5 := S5 _ hSw
      have yS6 := S6 _ hSw
      have yS7 := S7 _ hSw
      have yS8 := S8 _ hSw
      have yC0 := C0 _ hSw
      have yC1 := C1 _ hSw
      have yC2 := C2 _ hSw
      have yC3 := C3 _ hSw
      have yC4 := C4 _ hSw
      have yC5 := C5 _ hSw
      have yV1 := V1 _ hSw
      go_simp
      first | (with_reducible rfl) | done | assumption | skip
    simp only [Act.put, List.getElem_toArray, List.getElem_cons_succ, List.getElem_cons_zero, List.setIfInBounds_toArray, List.set_cons_zero, List.set_cons_succ]
    refine wpAnyH_take (i := 13) (v := ?_) rfl (by kernel_rfl) (by kernel_rfl) (by kernel_rfl) (fun _ _ _ h => h) (Or.inl ⟨by kernel_rfl, ?_⟩) (by assumption) ?_
    rotate_left
    · intro w' hSw
      have yS0 := S0 _ hSw
      have yS1 := S1 _ hSw
      have yS2 := S2 _ hSw
      have yS3 := S3 _ hSw
      have yS4 := S4 _ hSw
      have yS5 := S5 _ hSw
      have yS6 := S6 _ hSw
      have yS7 := S7 _ hSw
      have yS8 := S8 _ hSw
      have yC0 := C0 _ hSw
      have yC1 := C1 _ hSw
      have yC2 := C2 _ hSw
      have yC3 := C3 _ hSw
      have yC4 := C4 _ hSw
      have yC5 := C5 _ hSw
      have yV1 := V1 _ hSw
      go_simp
      first | (with_reducible rfl) | done | assumption | skip
    simp only [Act.put, List.getElem_toArray, List.getElem_cons_succ, List.getElem_cons_zero, List.setIfInBounds_toArray, List.set_cons_zero, List.set_cons_succ]
    refine wpAnyH_take (i := 14) (v := .bool false) rfl (by kernel_rfl) (by kernel_rfl) (by kernel_rfl) (fun _ _ _ h => h) (Or.inl ⟨by kernel_rfl, ?_⟩) (by assumption) ?_
    · intro w' hSw
      have yS0 := S0 _ hSw
      have yS1 := S1 _ hSw
      have yS2 := S2 _ hSw
      have yS3 := S3 _ hSw
      have yS4 := S4 _ hSw
      have yS5 := S5 _ hSw
      have yS6 := S6 _ hSw
      have yS7 := S7 _ hSw
      have yS8 := S8 _ hSw
      have yC0 := C0 _ hSw
      have yC1 := C1 _ hSw
      have yC2 := C2 _ hSw
      have yC3 := C3 _ hSw
      have yC4 := C4 _ hSw
      have yC5 := C5 _ hSw
      have yV1 := V1 _ hSw
      go_simp
      first | (with_reducible rfl) | done | assumption | skip
    simp only [Act.put, List.getElem_toArray, List.getElem_cons_succ, List.getElem_cons_zero, List.setIfInBounds_toArray, List.set_cons_zero, List.set_cons_succ]
    refine wpAnyH_take (i := 15) (v := .bool false) rfl (by kernel_rfl) (by kernel_rfl) (by kernel_rfl) (fun _ _ _ h => h) (Or.inl ⟨by kernel_rfl, ?_⟩) (by assumption) ?_
    · intro w' hSw
      have yS0 := S0 _ hSw
      have yS1 := S1 _ hSw
      have yS2 := S2 _ hSw
      have yS3 := S3 _ hSw
      have yS4 := S4 _ hSw
      have yS5 := S5 _ hSw
      have yS6 := S6 _ hSw
      have yS7 := S7 _ hSw
      have yS8 := S8 _ hSw
      have yC0 := C0 _ hSw
      have yC1 := C1 _ hSw
      have yC2 := C2 _ hSw
      have yC3 := C3 _ hSw
      have yC4 := C4 _ hSw
      have yC5 := C5 _ hSw
      have yV1 := V1 _ hSw
      go_simp
      first | (with_reducible rfl) | done | assumption | skip
    simp only [Act.put, List.getElem_toArray, List.getElem_cons_succ, List.getElem_cons_zero, List.setIfInBounds_toArray, List.set_cons_zero, List.set_cons_succ]
    refine wpAnyH_take (i := 16) (v := .bool false) rfl (by kernel_rfl) (by kernel_rfl) (by kernel_rfl) (fun _ _ _ h => h) (Or.inl ⟨by kernel_rfl, ?_⟩) (by assumption) ?_
    · intro w' hSw
      have yS0 := S0 _ hSw
      have yS1 := S1 _ hSw
      have yS2 := S2 _ hSw
      have yS3 := S3 _ hSw
      have yS4 := S4 _ hSw
      have yS5 := S5 _ hSw
      have yS6 := S6 _ hSw
      have yS7 := S7 _ hSw
      have yS8 := S8 _ hSw
      have yC0 := C0 _ hSw
      have yC1 := C1 _ hSw
      have yC2 := C2 _ hSw
      have yC3 := C3 _ hSw
      have yC4 := C4 _ hSw
      have yC5 := C5 _ hSw
      have yV1 := V1 _ hSw
      go_simp
      first | (with_reducible rfl) | done | assumption | skip
    simp only [Act.put, List.getElem_toArray, List.getElem_cons_succ, List.getElem_cons_zero, List.setIfInBounds_toArray, List.set_cons_zero, List.set_cons_succ]
    refine wpAnyH_take (i := 17) (v := ?_) rfl (by kernel_rfl) (by kernel_rfl) (by kernel_rfl) (fun _ _ _ h => h) (Or.inl ⟨by kernel_rfl, ?_⟩) (by assumption) ?_
    rotate_left
    · intro w' hSw
      have yS0 := S0 _ hSw
      have yS1 := S1 _ hSw
      have yS2 := S2 _ hSw
      have yS3 := S3 _ hSw
      have yS4 := S4 _ hSw
      have yS5 := S5 _ hSw
      have yS6 := S6 _ hSw
      have yS7 := S7 _ hSw
      have yS8 := S8 _ hSw
      have yC0 := C0 _ hSw
      have yC1 := C1 _ hSw
      have yC2 := C2 _ hSw
      have yC3 := C3 _ hSw
      have yC4 := C4 _ hSw
      have yC5 := C5 _ hSw
      have yV1 := V1 _ hSw
      go_simp
      first | (with_reducible rfl) | done | assumption | skip
    simp only [Act.put, List.getElem_toArray, List.getElem_cons_succ, List.getElem_cons_zero, List.setIfInBounds_toArray, List.set_cons_zero, List.set_cons_succ]
    refine wpAnyH_take (i := 18) (v := ?_) rfl (by kernel_rfl) (by kernel_rfl) (by kernel_rfl) (fun _ _ _ h => h) (Or.inl ⟨by kernel_rfl, ?_⟩) (by assumption) ?_
    rotate_left
    · intro w' hSw
      have yS0 := S0 _ hSw
      have yS1 := S1 _ hSw
      have yS2 := S2 _ hSw
      have yS3 := S3 _ hSw
      have yS4 := S4 _ hSw
      have yS5 := S5 _ hSw
      have yS6 := S6 _ hSw
      have yS7 := S7 _ hSw
      have yS8 := S8 _ hSw
      have yC0 := C0 _ hSw
      have yC1 := C1 _ hSw
      have yC2 := C2 _ hSw
      have yC3 := C3 _ hSw
      have yC4 := C4 _ hSw
      have yC5 := C5 _ hSw
      have yV1 := V1 _ hSw
      go_simp
      first | (with_reducible rfl) | done | assumption | skip
    simp only [Act.put, List.getElem_toArray, List.getElem_cons_succ, List.getElem_cons_zero, List.setIfInBounds_toArray, List.set_cons_zero, List.set_cons_succ]
    refine wpAnyH_take (i := 19) (v := ?_) rfl (by kernel_rfl) (by kernel_rfl) (by kernel_rfl) (fun _ _ _ h => h) (Or.inl ⟨by kernel_rfl, ?_⟩) (by assumption) ?_
    rotate_left
    · intro w' hSw
      have yS0 := S0 _ hSw
      have yS1 := S1 _ hSw
      have yS2 := S2 _ hSw
      have yS3 := S3 _ hSw
      have yS4 := S4 _ hSw
      have yS5 := S5 _ hSw
      have yS6 := S6 _ hSw
      have yS7 := S7 _ hSw
      have yS8 := S8 _ hSw
      have yC0 := C0 _ hSw
      have yC1 := C1 _ hSw
      have yC2 := C2 _ hSw
      have yC3 := C3 _ hSw
      have yC4 := C4 _ hSw
      have yC5 := C5 _ hSw
      have yV1 := V1 _ hSw
      go_simp
      first | (with_reducible rfl) | done | assumption | skip
    simp only [Act.put, List.getElem_toArray, List.getElem_cons_succ, List.getElem_cons_zero, List.setIfInBounds_toArray, List.set_cons_zero, List.set_cons_succ]
    refine wpAnyH_take (i := 20) (v := ?_) rfl (by kernel_rfl) (by kernel_rfl) (by kernel_rfl) (fun _ _ _ h => h) (Or.inl ⟨by kernel_rfl, ?_⟩) (by assumption) ?_
    rotate_left
    · intro w' hSw
      have yS0 := S0 _ hSw
      have yS1 := S1 _ hSw
      have yS2 := S2 _ hSw
      have yS3 := S3 _ hSw
      have yS4 := S4 _ hSw
      have yS5 := S5 _ hSw
      have yS6 := S6 _ hSw
      have yS7 := S7 _ hSw
      have yS8 := S8 _ hSw
      have yC0 := C0 _ hSw
      have yC1 := C1 _ hSw
      have yC2 := C2 _ hSw
      have yC3 := C3 _ hSw
      have yC4 := C4 _ hSw
      have yC5 := C5 _ hSw
      have yV1 := V1 _ hSw
      go_simp
      first | (with_reducible rfl) | done | assumption | skip
    simp only [Act.put, List.getElem_toArray, List.getElem_cons_succ, List.getElem_cons_zero, List.setIfInBounds_toArray, List.set_cons_zero, List.set_cons_succ]
    refine wpAnyH_take (i := 21) (v := ?_) rfl (by kernel_rfl) (by kernel_rfl) (by kernel_rfl) (fun _ _ _ h => h) (Or.inl ⟨by kernel_rfl, ?_⟩) (by assumption) ?_
    rotate_left
    · intro w' hSw
      have yS0 := S0 _ hSw
      have yS1 := S1 _ hSw
      have yS2 := S2 _ hSw
      have yS3 := S3 _ hSw
      have yS4 := S4 _ hSw
      have yS5 := S5 _ hSw
      have yS6 := S6 _ hSw
      have yS7 := S7 _ hSw
      have yS8 := S8 _ hSw
      have yC0 := C0 _ hSw
      have yC1 := C1 _ hSw
      have yC2 := C2 _ hSw
      have yC3 := C3 _ hSw
      have yC4 := C4 _ hSw
      have yC5 := C5 _ hSw
      have yV1 := V1 _ hSw
      go_simp
      first | (with_reducible rfl) | done | assumption | skip
    simp only [Act.put, List.getElem_toArray, List.getElem_cons_succ, List.getElem_cons_zero, List.setIfInBounds_toArray, List.set_cons_zero, List.set_cons_succ]
    refine wpAnyH_take (i := 22) (v := ?_) rfl (by kernel_rfl) (by kernel_rfl) (by kernel_rfl) (fun _ _ _ h => h) (Or.inl ⟨by kernel_rfl, ?_⟩) (by assumption) ?_
    rotate_left
    · intro w' hSw
      have yS0 := S0 _ hSw
      have yS1 := S1 _ hSw
      have yS2 := S2 _ hSw
      have yS3 := S3 _ hSw
      have yS4 := S4 _ hSw
      have yS5 := S5 _ hSw
      have yS6 := S6 _ hSw
      have yS7 := S7 _ hSw
      have yS8 := S8 _ hSw
      have yC0 := C0 _ hSw
      have yC1 := C1 _ hSw
      have yC2 := C2 _ hSw
      have yC3 := C3 _ hSw
      have yC4 := C4 _ hSw
      have yC5 := C5 _ hSw
      have yV1 := V1 _ hSw
      go_simp
      first | (with_reducible rfl) | done | assumption | skip
    simp only [Act.put, List.getElem_toArray, List.getElem_cons_succ, List.getElem_cons_zero, List.setIfInBounds_toArray, List.set_cons_zero, List.set_cons_succ]
    refine wpAnyH_ready (rs := [23]) (by kernel_rfl) (by simp) ?_
    refine AllReadyH.cons rfl (fun K hK => ?_) AllReadyH.nil
    go_simp
    refine (KN _ (by assumption)).mono ?_
    rintro e w3 ⟨rfl, b3⟩
    have hNext3 : Below wA.heap.size wA w3 := Below.trans bw0 (b3.mono (Below.size bw0))
    refine hK.out _ _ hNext3 (fun _ => ?_)
    clear hK K
    try simp only [Act.put, List.getElem_toArray, List.getElem_cons_succ, List.getElem_cons_zero, List.setIfInBounds_toArray, List.set_cons_zero, List.set_cons_succ]
    refine wpAnyH_take (i := 24) (v := .bool false) rfl (by kernel_rfl) (by kernel_rfl) (by kernel_rfl) (fun _ _ _ h => h) (Or.inl ⟨by kernel_rfl, ?_⟩) (by assumption) ?_
    · intro w' hSw
      have yS0 := S0 _ hSw
      have yS1 := S1 _ hSw
      have yS2 := S2 _ hSw
      have yS3 := S3 _ hSw
      have yS4 := S4 _ hSw
      have yS5 := S5 _ hSw
      have yS6 := S6 _ hSw
      have yS7 := S7 _ hSw
      have yS8 := S8 _ hSw
      have yC0 := C0 _ hSw
      have yC1 := C1 _ hSw
      have yC2 := C2 _ hSw
      have yC3 := C3 _ hSw
      have yC4 := C4 _ hSw
      have yC5 := C5 _ hSw
      have yV1 := V1 _ hSw
      go_simp
      first | (with_reducible rfl) | done | assumption | skip
    simp only [Act.put, List.getElem_toArray, List.getElem_cons_succ, List.getElem_cons_zero, List.setIfInBounds_toArray, List.set_cons_zero, List.set_cons_succ]
    refine wpAnyH_take (i := 25) (v := .bool false) rfl (by kernel_rfl) (by kernel_rfl) (by kernel_rfl) (fun _ _ _ h => h) (Or.inl ⟨by kernel_rfl, ?_⟩) (by assumption) ?_
    · intro w' hSw
      have yS0 := S0 _ hSw
      have yS1 := S1 _ hSw
      have yS2 := S2 _ hSw
      have yS3 := S3 _ hSw
      have yS4 := S4 _ hSw
      have yS5 := S5 _ hSw
      have yS6 := S6 _ hSw
      have yS7 := S7 _ hSw
      have yS8 := S8 _ hSw
      have yC0 := C0 _ hSw
      have yC1 := C1 _ hSw
      have yC2 := C2 _ hSw
      have yC3 := C3 _ hSw
      have yC4 := C4 _ hSw
      have yC5 := C5 _ hSw
      have yV1 := V1 _ hSw
      go_simp
      first | (with_reducible rfl) | done | assumption | skip
    simp only [Act.put, List.getElem_toArray, List.getElem_cons_succ, List.getElem_cons_zero, List.setIfInBounds_toArray, List.set_cons_zero, List.set_cons_succ]
    refine wpAnyH_done (by kernel_rfl) ?_ _
    have B3 := bA.trans (hNext3.mono bA.size)
    have v3 := kV.below hNext3 kV.lt
    have s3 := kS.below hNext3 kS.lt
    have c3 := kC.below hNext3 kC.lt
    clear KN kV kS kC S0 S1 S2 S3 S4 S5 S6 S7 S8 C0 C1 C2 C3 C4 C5 V1 zV zS zC
    have d5 := (v3.cell 5).trans rfl
    have e0 := (c3.cell 0).trans rfl
    have e1 := (c3.cell 1).trans rfl
    have e2 := (c3.cell 2).trans rfl
    have e3 := (c3.cell 3).trans rfl
    have e4 := (c3.cell 4).trans rfl
    have e5 := (c3.cell 5).trans rfl
    have zv := v3.lt
    have zc := c3.lt
    have KCA := KC _ B3
    clear KC
    go_wp2_with fail
    refine KCA.mono ?_
    rintro e w4 ⟨rfl, b4⟩
    have B4 := B3.trans (b4.mono B3.size)
    have v4 := v3.below b4 v3.lt
    have s4 := s3.below b4 s3.lt
    clear KCA e0 e1 e2 e3 e4 e5 d5 zv zc v3 s3 c3 b4 B3
    by_cases hE : CE = 0
    rotate_left
    · have HF : Hid (P = CE) := by show _ = _; rw [HF0.out, if_pos hE]
      have hEd : (CE != 0) = true := by simpa using hE
      clear HF0 KB
      go_wp2
      go_ret
      exact ⟨by rw [HF.out]; rfl, B4⟩
    subst hE
    have U1 : ∀ w', Below w4.heap.size w4 w' → w'.cell? ⟨w.heap.size, 1, none⟩ = some (.int .i64 vwi) := fun w' hb => ((v4.below hb v4.lt).cell 1).trans rfl
    have U7 : ∀ w', Below w4.heap.size w4 w' → w'.cell? ⟨w.heap.size + 1, 7, none⟩ = some (.int .u64 hbe) := fun w' hb => ((s4.below hb s4.lt).cell 7).trans rfl
    have U15 : ∀ w', Below w4.heap.size w4 w' → w'.cell? ⟨w.heap.size + 1, 15, none⟩ = some (.slice sa sl.length scap) := fun w' hb => ((s4.below hb s4.lt).cell 15).trans rfl
    have zv := v4.lt
    have zs := s4.lt
    have KB := fun y (hb : Below w4.heap.size w4 y) => KB y (B4.trans (hb.mono B4.size))
    clear v4 s4
    have bv : Below w4.heap.size w4 w4 := Below.refl _ _
    go_upto_region 2 with fail
    have bv0 : Below w4.heap.size w4 w4.drew := bv.drew
    refine wp_region_held (S := fun w' => Below w4.heap.size w4 w') (by kernel_rfl) ?_
    refine wpAnyH_take (i := 0) (v := ?_) rfl (by kernel_rfl) (by kernel_rfl) (by kernel_rfl) (fun _ _ _ h => h) (Or.inl ⟨by kernel_rfl, ?_⟩) (by assumption) ?_
    rotate_left
    · intro w' hSw
      have yU1 := U1 _ hSw
      have yU7 := U7 _ hSw
      have yU15 := U15 _ hSw
      go_simp
      first | (with_reducible rfl) | done | assumption | skip
    simp only [Act.put, List.getElem_toArray, List.getElem_cons_succ, List.getElem_cons_zero, List.setIfInBounds_toArray, List.set_cons_zero, List.set_cons_succ]
    refine wpAnyH_take (i := 1) (v := ?_) rfl (by kernel_rfl) (by kernel_rfl) (by kernel_rfl) (fun _ _ _ h => h) (Or.inl ⟨by kernel_rfl, ?_⟩) (by assumption) ?_
    rotate_left
    · intro w' hSw
      have yU1 := U1 _ hSw
      have yU7 := U7 _ hSw
      have yU15 := U15 _ hSw
      go_simp
      first | (with_reducible rfl) | done | assumption | skip
    simp only [Act.put, List.getElem_toArray, List.getElem_cons_succ, List.getElem_cons_zero, List.setIfInBounds_toArray, List.set_cons_zero, List.set_cons_succ]
    refine wpAnyH_take (i := 2) (v := ?_) rfl (by kernel_rfl) (by kernel_rfl) (by kernel_rfl) (fun _ _ _ h => h) (Or.inl ⟨by kernel_rfl, ?_⟩) (by assumption) ?_
    rotate_left
    · intro w' hSw
      have yU1 := U1 _ hSw
      have yU7 := U7 _ hSw
      have yU15 := U15 _ hSw
      go_simp
      first | (with_reducible rfl) | done | assumption | skip
    simp only [Act.put, List.getElem_toArray, List.getElem_cons_succ, List.getElem_cons_zero, List.setIfInBounds_toArray, List.set_cons_zero, List.set_cons_succ]
    refine wpAnyH_take (i := 3) (v := ?_) rfl (by kernel_rfl) (by kernel_rfl) (by kernel_rfl) (fun _ _ _ h => h) (Or.inl ⟨by kernel_rfl, ?_⟩) (by assumption) ?_
    rotate_left
    · intro w' hSw
      have yU1 := U1 _ hSw
      have yU7 := U7 _ hSw
      have yU15 := U15 _ hSw
      go_simp
      first | (with_reducible rfl) | done | assumption | skip
    simp only [Act.put, List.getElem_toArray, List.getElem_cons_succ, List.getElem_cons_zero, List.setIfInBounds_toArray, List.set_cons_zero, List.set_cons_succ]
    refine wpAnyH_take (i := 5) (v := ?_) rfl (by kernel_rfl) (by kernel_rfl) (by kernel_rfl) (fun _ _ _ h => h) (Or.inl ⟨by kernel_rfl, ?_⟩) (by assumption) ?_
    rotate_left
    · intro w' hSw
      have yU1 := U1 _ hSw
      have yU7 := U7 _ hSw
      have yU15 := U15 _ hSw
      go_simp
      first | (with_reducible rfl) | done | assumption | skip
    simp only [Act.put, List.getElem_toArray, List.getElem_cons_succ, List.getElem_cons_zero, List.setIfInBounds_toArray, List.set_cons_zero, List.set_cons_succ]
    refine wpAnyH_take (i := 6) (v := ?_) rfl (by kernel_rfl) (by kernel_rfl) (by kernel_rfl) (fun _ _ _ h => h) (Or.inl ⟨by kernel_rfl, ?_⟩) (by assumption) ?_
    rotate_left
    · intro w' hSw
      have yU1 := U1 _ hSw
      have yU7 := U7 _ hSw
      have yU15 := U15 _ hSw
      go_simp
      first | (with_reducible rfl) | done | assumption | skip
    simp only [Act.put, List.getElem_toArray, List.getElem_cons_succ, List.getElem_cons_zero, List.setIfInBounds_toArray, List.set_cons_zero, List.set_cons_succ]
    refine wpAnyH_take (i := 7) (v := ?_) rfl (by kernel_rfl) (by kernel_rfl) (by kernel_rfl) (fun _ _ _ h => h) (Or.inl ⟨by kernel_rfl, ?_⟩) (by assumption) ?_
    rotate_left
    · intro w' hSw
      have yU1 := U1 _ hSw
      have yU7 := U7 _ hSw
      have yU15 := U15 _ hSw
      go_simp
      first | (with_reducible rfl) | done | assumption | skip
    simp only [Act.put, List.getElem_toArray, List.getElem_cons_succ, List.getElem_cons_zero, List.setIfInBounds_toArray, List.set_cons_zero, List.set_cons_succ]
    refine wpAnyH_ready (rs := [4]) (by kernel_rfl) (by simp) ?_
    refine AllReadyH.cons rfl (fun K hK => ?_) AllReadyH.nil
    go_simp
    refine (KB _ (by assumption)).mono ?_
    rintro e w5 ⟨rfl, b5⟩
    have hN5 : Below w4.heap.size w4 w5 := Below.trans bv0 (b5.mono (Below.size bv0))
    refine hK.out _ _ hN5 (fun _ => ?_)
    clear hK K
    try simp only [Act.put, List.getElem_toArray, List.getElem_cons_succ, List.getElem_cons_zero, List.setIfInBounds_toArray, List.set_cons_zero, List.set_cons_succ]
    by_cases hD : BD = hbe
    · have HF : Hid (P = 0) := by show _ = _; rw [HF0.out, if_neg (by simp), if_neg (by simpa using hD)]
      clear HF0 KB
      subst hD
      refine wpAnyH_take (i := 8) (v := .bool false) rfl (by kernel_rfl) (by kernel_rfl) (by kernel_rfl) (fun _ _ _ h => h) (Or.inl ⟨by kernel_rfl, ?_⟩) (by assumption) ?_
      · intro w' hSw
        have yU1 := U1 _ hSw
        have yU7 := U7 _ hSw
        have yU15 := U15 _ hSw
        go_simp
        first | (with_reducible rfl) | done | assumption | skip
      simp only [Act.put, List.getElem_toArray, List.getElem_cons_succ, List.getElem_cons_zero, List.setIfInBounds_toArray, List.set_cons_zero, List.set_cons_succ]
      refine wpAnyH_done (by kernel_rfl) ?_ _
      go_wp2
      go_ret
      exact ⟨by rw [HF.out]; rfl, B4.trans (hN5.mono B4.size)⟩
    · have HF : Hid (P = 5) := by show _ = _; rw [HF0.out, if_neg (by simp), if_pos hD]
      have hDd : (BD != hbe) = true := by simpa using hD
      clear HF0 KB
      refine wpAnyH_take (i := 8) (v := .bool true) rfl (by kernel_rfl) (by kernel_rfl) (by kernel_rfl) (fun _ _ _ h => h) (Or.inl ⟨by kernel_rfl, ?_⟩) (by assumption) ?_
      · intro w' hSw
        have yU1 := U1 _ hSw
        have yU7 := U7 _ hSw
        have yU15 := U15 _ hSw
        go_simp
        first | (with_reducible rfl) | done | assumption | skip
      simp only [Act.put, List.getElem_toArray, List.getElem_cons_succ, List.getElem_cons_zero, List.setIfInBounds_toArray, List.set_cons_zero, List.set_cons_succ]
      refine wpAnyH_done (by kernel_rfl) ?_ _
      go_wp2
      go_ret
      exact ⟨by rw [HF.out]; rfl, B4.trans (hN5.mono B4.size)⟩
end Go.Proofs.YtblnlfcfjbfhiaaGreat
