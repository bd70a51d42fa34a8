/- What is believed when a header is shown. -/
import Derived.Test.YtblnlfcfjbfhiaaGreatM36
import Derived.Deep.RegionHeld3
namespace Go.Proofs.YtblnlfcfjbfhiaaGreat
open Go.RowKit
set_option linter.unusedVariables false
set_option linter.unusedSimpArgs false

/-- Why it can't be believed. -/
def accP (E1 E2 E3 : Int) : Int := if E1 ≠ 0 then E1 else if E2 ≠ 0 then E2 else E3

/-- What Accept gives. -/
def Accepted (vc vwi vep hh hst : Int) (sl : List (Int × Int)) (E : Int) (w : World) (e : Ending) (w' : World) : Prop :=
  Below w.heap.size w w' ∧ ((E ≠ 0 ∧ e = .returned (.tuple #[.agg #[.int .i64 0, .int .i64 0, .int .i64 0, .int .i64 0, .int .u64 0, .slice none 0 0], .int .i64 E])) ∨ (E = 0 ∧ ∃ lb cb, e = .returned (.tuple #[.agg #[.int .i64 vc, .int .i64 vwi, .int .i64 vep, .int .i64 hh, .int .u64 hst, .slice lb sl.length cb], .int .i64 0]) ∧ SL w' lb sl cb ∧ (∀ a, lb = some a → w.heap.size ≤ a.block)))

set_option maxRecDepth 8000 in
set_option maxHeartbeats 3200000 in
theorem accept_any (vc vwi vep vh vst : Int) (va : Option Addr) (vcap : Nat) (vl : List (Int × Int)) (hc hh hpa htx hgu hst hre hbe hpr : Int) (kh kr ks : Int) (khas : Bool) (kbl : Int) (fa sa : Option Addr) (fcap scap : Nat) (fr : List Int) (sl : List (Int × Int)) (w : World) (E1 E2 E3 : Int)
    (K1 : ∀ y : World, Below w.heap.size w y → Calls Tryz.prog 24 #[.agg #[.int .i64 vc, .int .i64 vwi, .int .i64 vep, .int .i64 vh, .int .u64 vst, .slice va vl.length vcap], .agg #[.int .i64 hc, .int .i64 hh, .int .u64 hpa, .int .u64 htx, .int .u64 hgu, .int .u64 hst, .int .u64 hre, .int .u64 hbe, .int .i64 hpr, .int .i64 kh, .int .i64 kr, .int .i64 ks, .bool khas, .int .u64 kbl, .slice fa fr.length fcap, .slice sa sl.length scap]] y fun e w' => e = .returned (.int .i64 E1) ∧ Below y.heap.size y w')
    (K2 : E1 = 0 → ∀ y : World, Below w.heap.size w y → Calls Tryz.prog 25 #[.agg #[.int .i64 vc, .int .i64 vwi, .int .i64 vep, .int .i64 vh, .int .u64 vst, .slice va vl.length vcap], .agg #[.int .i64 hc, .int .i64 hh, .int .u64 hpa, .int .u64 htx, .int .u64 hgu, .int .u64 hst, .int .u64 hre, .int .u64 hbe, .int .i64 hpr, .int .i64 kh, .int .i64 kr, .int .i64 ks, .bool khas, .int .u64 kbl, .slice fa fr.length fcap, .slice sa sl.length scap]] y fun e w' => e = .returned (.int .i64 E2) ∧ Below y.heap.size y w')
    (K3 : E1 = 0 → E2 = 0 → ∀ y : World, Below w.heap.size w y → Calls Tryz.prog 26 #[.agg #[.int .i64 vc, .int .i64 vwi, .int .i64 vep, .int .i64 vh, .int .u64 vst, .slice va vl.length vcap], .agg #[.int .i64 hc, .int .i64 hh, .int .u64 hpa, .int .u64 htx, .int .u64 hgu, .int .u64 hst, .int .u64 hre, .int .u64 hbe, .int .i64 hpr, .int .i64 kh, .int .i64 kr, .int .i64 ks, .bool khas, .int .u64 kbl, .slice fa fr.length fcap, .slice sa sl.length scap]] y fun e w' => e = .returned (.int .i64 E3) ∧ Below y.heap.size y w')
    (hl : sl.length ≤ 4096) (h1 : SL w sa sl scap) :
    Calls Tryz.prog 12 #[.agg #[.int .i64 vc, .int .i64 vwi, .int .i64 vep, .int .i64 vh, .int .u64 vst, .slice va vl.length vcap], .agg #[.int .i64 hc, .int .i64 hh, .int .u64 hpa, .int .u64 htx, .int .u64 hgu, .int .u64 hst, .int .u64 hre, .int .u64 hbe, .int .i64 hpr, .int .i64 kh, .int .i64 kr, .int .i64 ks, .bool khas, .int .u64 kbl, .slice fa fr.length fcap, .slice sa sl.length scap]] w fun e w' => Accepted vc vwi vep hh hst sl (accP E1 E2 E3) w e w' := by
  have bA : Below w.heap.size w ((((w.alloc (.cells #[.int .i64 vc, .int .i64 vwi, .int .i64 vep, .int .i64 vh, .int .u64 vst, .slice va vl.length vcap] 26)).alloc (.cells #[.int .i64 hc, .int .i64 hh, .int .u64 hpa, .int .u64 htx, .int .u64 hgu, .int .u64 hst, .int .u64 hre, .int .u64 hbe, .int .i64 hpr, .int .i64 kh, .int .i64 kr, .int .i64 ks, .bool khas, .int .u64 kbl, .slice fa fr.length fcap, .slice sa sl.length scap] 34)).alloc (.cells #[.int .i64 0, .int .i64 0, .int .i64 0, .int .i64 0, .int .u64 0, .slice none 0 0] 26)).alloc (.cells #[.func (.func 24) #[] #[], .func (.func 25) #[] #[], .func (.func 26) #[] #[]] 59)) := ((((Below.refl _ _).alloc (Nat.le_refl _) _).alloc (by simp) _).alloc (by simp; omega) _).alloc (by simp; omega) _
  have kV := (((Blk.new w #[.int .i64 vc, .int .i64 vwi, .int .i64 vep, .int .i64 vh, .int .u64 vst, .slice va vl.length vcap] 26).alloc (.cells #[.int .i64 hc, .int .i64 hh, .int .u64 hpa, .int .u64 htx, .int .u64 hgu, .int .u64 hst, .int .u64 hre, .int .u64 hbe, .int .i64 hpr, .int .i64 kh, .int .i64 kr, .int .i64 ks, .bool khas, .int .u64 kbl, .slice fa fr.length fcap, .slice sa sl.length scap] 34)).alloc (.cells #[.int .i64 0, .int .i64 0, .int .i64 0, .int .i64 0, .int .u64 0, .slice none 0 0] 26)).alloc (.cells #[.func (.func 24) #[] #[], .func (.func 25) #[] #[], .func (.func 26) #[] #[]] 59)
  have kS := ((Blk.new (w.alloc (.cells #[.int .i64 vc, .int .i64 vwi, .int .i64 vep, .int .i64 vh, .int .u64 vst, .slice va vl.length vcap] 26)) #[.int .i64 hc, .int .i64 hh, .int .u64 hpa, .int .u64 htx, .int .u64 hgu, .int .u64 hst, .int .u64 hre, .int .u64 hbe, .int .i64 hpr, .int .i64 kh, .int .i64 kr, .int .i64 ks, .bool khas, .int .u64 kbl, .slice fa fr.length fcap, .slice sa sl.length scap] 34).alloc (.cells #[.int .i64 0, .int .i64 0, .int .i64 0, .int .i64 0, .int .u64 0, .slice none 0 0] 26)).alloc (.cells #[.func (.func 24) #[] #[], .func (.func 25) #[] #[], .func (.func 26) #[] #[]] 59)
  have kZ := (Blk.new ((w.alloc (.cells #[.int .i64 vc, .int .i64 vwi, .int .i64 vep, .int .i64 vh, .int .u64 vst, .slice va vl.length vcap] 26)).alloc (.cells #[.int .i64 hc, .int .i64 hh, .int .u64 hpa, .int .u64 htx, .int .u64 hgu, .int .u64 hst, .int .u64 hre, .int .u64 hbe, .int .i64 hpr, .int .i64 kh, .int .i64 kr, .int .i64 ks, .bool khas, .int .u64 kbl, .slice fa fr.length fcap, .slice sa sl.length scap] 34)) #[.int .i64 0, .int .i64 0, .int .i64 0, .int .i64 0, .int .u64 0, .slice none 0 0] 26).alloc (.cells #[.func (.func 24) #[] #[], .func (.func 25) #[] #[], .func (.func 26) #[] #[]] 59)
  have kF := Blk.new (((w.alloc (.cells #[.int .i64 vc, .int .i64 vwi, .int .i64 vep, .int .i64 vh, .int .u64 vst, .slice va vl.length vcap] 26)).alloc (.cells #[.int .i64 hc, .int .i64 hh, .int .u64 hpa, .int .u64 htx, .int .u64 hgu, .int .u64 hst, .int .u64 hre, .int .u64 hbe, .int .i64 hpr, .int .i64 kh, .int .i64 kr, .int .i64 ks, .bool khas, .int .u64 kbl, .slice fa fr.length fcap, .slice sa sl.length scap] 34)).alloc (.cells #[.int .i64 0, .int .i64 0, .int .i64 0, .int .i64 0, .int .u64 0, .slice none 0 0] 26)) #[.func (.func 24) #[] #[], .func (.func 25) #[] #[], .func (.func 26) #[] #[]] 59
  simp only [World.size_alloc] at kS kZ kF
  go_enter Tryz.func12, Tryz.ntmps12
  go_wp2_with fail
  generalize ((((w.alloc (.cells #[.int .i64 vc, .int .i64 vwi, .int .i64 vep, .int .i64 vh, .int .u64 vst, .slice va vl.length vcap] 26)).alloc (.cells #[.int .i64 hc, .int .i64 hh, .int .u64 hpa, .int .u64 htx, .int .u64 hgu, .int .u64 hst, .int .u64 hre, .int .u64 hbe, .int .i64 hpr, .int .i64 kh, .int .i64 kr, .int .i64 ks, .bool khas, .int .u64 kbl, .slice fa fr.length fcap, .slice sa sl.length scap] 34)).alloc (.cells #[.int .i64 0, .int .i64 0, .int .i64 0, .int .i64 0, .int .u64 0, .slice none 0 0] 26)).alloc (.cells #[.func (.func 24) #[] #[], .func (.func 25) #[] #[], .func (.func 26) #[] #[]] 59)) = wA at *
  go_loopw [11] (fun iv wv => ∃ i : Nat, i ≤ 3 ∧ iv = .int .i64 i ∧ Hid ((1 ≤ i → E1 = 0) ∧ (2 ≤ i → E2 = 0) ∧ (3 ≤ i → E3 = 0)) ∧ Below wA.heap.size wA wv) (fun iv _ => 3 - (intOf iv).toNat)
  case atStart => exact ⟨0, Nat.zero_le _, rfl, ⟨fun h => absurd h (by omega), fun h => absurd h (by omega), fun h => absurd h (by omega)⟩, Below.refl _ _⟩
  case round =>
    obtain ⟨i, hi, rfl, HT, hb⟩ := hrel
    have hB := bA.trans (hb.mono bA.size)
    have zV := (kV.below hb kV.lt).lt
    have zS := (kS.below hb kS.lt).lt
    have zF := (kF.below hb kF.lt).lt
    have x0 := ((kV.below hb kV.lt).cell 0).trans rfl
    have x1 := ((kV.below hb kV.lt).cell 1).trans rfl
    have x2 := ((kV.below hb kV.lt).cell 2).trans rfl
    have x3 := ((kV.below hb kV.lt).cell 3).trans rfl
    have x4 := ((kV.below hb kV.lt).cell 4).trans rfl
    have x5 := ((kV.below hb kV.lt).cell 5).trans rfl
    have s0 := ((kS.below hb kS.lt).cell 0).trans rfl
    have s1 := ((kS.below hb kS.lt).cell 1).trans rfl
    have s2 := ((kS.below hb kS.lt).cell 2).trans rfl
    have s3 := ((kS.below hb kS.lt).cell 3).trans rfl
    have s4 := ((kS.below hb kS.lt).cell 4).trans rfl
    have s5 := ((kS.below hb kS.lt).cell 5).trans rfl
    have s6 := ((kS.below hb kS.lt).cell 6).trans rfl
    have s7 := ((kS.below hb kS.lt).cell 7).trans rfl
    have s8 := ((kS.below hb kS.lt).cell 8).trans rfl
    have s9 := ((kS.below hb kS.lt).cell 9).trans rfl
    have s10 := ((kS.below hb kS.lt).cell 10).trans rfl
    have s11 := ((kS.below hb kS.lt).cell 11).trans rfl
    have s12 := ((kS.below hb kS.lt).cell 12).trans rfl
    have s13 := ((kS.below hb kS.lt).cell 13).trans rfl
    have s14 := ((kS.below hb kS.lt).cell 14).trans rfl
    have s15 := ((kS.below hb kS.lt).cell 15).trans rfl
    rcases (by omega : i = 0 ∨ i = 1 ∨ i = 2 ∨ i = 3) with rfl | rfl | rfl | rfl
    · have f0 := ((kF.below hb kF.lt).cell 0).trans rfl
      have KA := K1 _ hB
      clear K1 K2 K3
      go_wp2_with fail
      refine KA.mono ?_
      rintro e w2 ⟨rfl, b2⟩
      have hq := hb.trans (b2.mono hb.size)
      have z2 := kZ.below hq kZ.lt
      by_cases hE : E1 = 0
      · have HN : Hid ((1 ≤ 1 → E1 = 0) ∧ (2 ≤ 1 → E2 = 0) ∧ (3 ≤ 1 → E3 = 0)) := ⟨fun _ => hE, fun h => absurd h (by omega), fun h => absurd h (by omega)⟩
        have hd : (E1 != 0) = false := by simpa using hE
        clear HT KA hE
        go_wp2
        exact ⟨⟨1, by omega, by go_num, HN, hq⟩, by simp [intOf]⟩
      · have HF : Hid (accP E1 E2 E3 = E1) := by show _ = _; unfold accP; rw [if_pos hE]
        have hd : (E1 != 0) = true := by simpa using hE
        have y0 := (z2.cell 0).trans rfl
        have y1 := (z2.cell 1).trans rfl
        have y2 := (z2.cell 2).trans rfl
        have y3 := (z2.cell 3).trans rfl
        have y4 := (z2.cell 4).trans rfl
        have y5 := (z2.cell 5).trans rfl
        have q0 := z2.frozen 0
        have q1 := z2.frozen 1
        have q2 := z2.frozen 2
        have q3 := z2.frozen 3
        have q4 := z2.frozen 4
        have q5 := z2.frozen 5
        have zz := z2.lt
        clear HT KA
        go_wp2
        refine bodyPost_ret (v := .tuple #[.agg #[.int .i64 0, .int .i64 0, .int .i64 0, .int .i64 0, .int .u64 0, .slice none 0 0], .int .i64 E1]) (by simp [results, Tryz.results12, go_sem, y0, y1, y2, y3, y4, y5]) rfl ?_
        refine ⟨?_, Or.inl ⟨by rw [HF.out]; exact hE, by rw [HF.out]⟩⟩
        have hQ := bA.trans (hq.mono bA.size)
        iterate 6 refine Below.setCell ?_ (by show w.heap.size ≤ w.heap.size + 1 + 1; omega) _
        exact hQ
    · have f1 := ((kF.below hb kF.lt).cell 1).trans rfl
      have he1 : E1 = 0 := HT.out.1 (by omega)
      have KA := K2 he1 _ hB
      clear K1 K2 K3
      go_wp2_with fail
      refine KA.mono ?_
      rintro e w2 ⟨rfl, b2⟩
      have hq := hb.trans (b2.mono hb.size)
      have z2 := kZ.below hq kZ.lt
      by_cases hE : E2 = 0
      · have HN : Hid ((1 ≤ 2 → E1 = 0) ∧ (2 ≤ 2 → E2 = 0) ∧ (3 ≤ 2 → E3 = 0)) := ⟨fun _ => he1, fun _ => hE, fun h => absurd h (by omega)⟩
        have hd : (E2 != 0) = false := by simpa using hE
        clear HT KA he1 hE
        go_wp2
        exact ⟨⟨2, by omega, by go_num, HN, hq⟩, by simp [intOf]⟩
      · have HF : Hid (accP E1 E2 E3 = E2) := by show _ = _; unfold accP; rw [if_neg (by simpa using he1), if_pos hE]
        have hd : (E2 != 0) = true := by simpa using hE
        have y0 := (z2.cell 0).trans rfl
        have y1 := (z2.cell 1).trans rfl
        have y2 := (z2.cell 2).trans rfl
        have y3 := (z2.cell 3).trans rfl
        have y4 := (z2.cell 4).trans rfl
        have y5 := (z2.cell 5).trans rfl
        have q0 := z2.frozen 0
        have q1 := z2.frozen 1
        have q2 := z2.frozen 2
        have q3 := z2.frozen 3
        have q4 := z2.frozen 4
        have q5 := z2.frozen 5
        have zz := z2.lt
        clear HT KA
        go_wp2
        refine bodyPost_ret (v := .tuple #[.agg #[.int .i64 0, .int .i64 0, .int .i64 0, .int .i64 0, .int .u64 0, .slice none 0 0], .int .i64 E2]) (by simp [results, Tryz.results12, go_sem, y0, y1, y2, y3, y4, y5]) rfl ?_
        refine ⟨?_, Or.inl ⟨by rw [HF.out]; exact hE, by rw [HF.out]⟩⟩
        have hQ := bA.trans (hq.mono bA.size)
        iterate 6 refine Below.setCell ?_ (by show w.heap.size ≤ w.heap.size + 1 + 1; omega) _
        exact hQ
    · have f2 := ((kF.below hb kF.lt).cell 2).trans rfl
      have he1 : E1 = 0 := HT.out.1 (by omega)
      have he2 : E2 = 0 := HT.out.2.1 (by omega)
      have KA := K3 he1 he2 _ hB
      clear K1 K2 K3
      go_wp2_with fail
      refine KA.mono ?_
      rintro e w2 ⟨rfl, b2⟩
      have hq := hb.trans (b2.mono hb.size)
      have z2 := kZ.below hq kZ.lt
      by_cases hE : E3 = 0
      · have HN : Hid ((1 ≤ 3 → E1 = 0) ∧ (2 ≤ 3 → E2 = 0) ∧ (3 ≤ 3 → E3 = 0)) := ⟨fun _ => he1, fun _ => he2, fun _ => hE⟩
        have hd : (E3 != 0) = false := by simpa using hE
        clear HT KA he1 he2 hE
        go_wp2
        exact ⟨⟨3, by omega, by go_num, HN, hq⟩, by simp [intOf]⟩
      · have HF : Hid (accP E1 E2 E3 = E3) := by show _ = _; unfold accP; rw [if_neg (by simpa using he1), if_neg (by simpa using he2)]
        have hd : (E3 != 0) = true := by simpa using hE
        have y0 := (z2.cell 0).trans rfl
        have y1 := (z2.cell 1).trans rfl
        have y2 := (z2.cell 2).trans rfl
        have y3 := (z2.cell 3).trans rfl
        have y4 := (z2.cell 4).trans rfl
        have y5 := (z2.cell 5).trans rfl
        have q0 := z2.frozen 0
        have q1 := z2.frozen 1
        have q2 := z2.frozen 2
        have q3 := z2.frozen 3
        have q4 := z2.frozen 4
        have q5 := z2.frozen 5
        have zz := z2.lt
        clear HT KA
        go_wp2
        refine bodyPost_ret (v := .tuple #[.agg #[.int .i64 0, .int .i64 0, .int .i64 0, .int .i64 0, .int .u64 0, .slice none 0 0], .int .i64 E3]) (by simp [results, Tryz.results12, go_sem, y0, y1, y2, y3, y4, y5]) rfl ?_
        refine ⟨?_, Or.inl ⟨by rw [HF.out]; exact hE, by rw [HF.out]⟩⟩
        have hQ := bA.trans (hq.mono bA.size)
        iterate 6 refine Below.setCell ?_ (by show w.heap.size ≤ w.heap.size + 1 + 1; omega) _
        exact hQ
    · have he1 : E1 = 0 := HT.out.1 (by omega)
      have he2 : E2 = 0 := HT.out.2.1 (by omega)
      have he3 : E3 = 0 := HT.out.2.2 (by omega)
      have HF : Hid (accP E1 E2 E3 = 0) := by show _ = _; unfold accP; rw [if_neg (by simpa using he1), if_neg (by simpa using he2)]; exact he3
      have kV1 := kV.below hb kV.lt
      have kS1 := kS.below hb kS.lt
      have kZ1 := kZ.below hb kZ.lt
      have bD : Below w.heap.size w wr.drew := hB.drew
      have hS0 := h1.below bD
      clear HT K1 K2 K3 he1 he2 he3 kV kS kZ kF h1 bA x0 x1 x2 x3 x4 x5 s0 s2 s3 s4 s6 s7 s8 s9 s10 s11 s12 s13 s14 zF
      go_upto_region 8 with fail
      go_region_held3 (fun w' => w'.cell? ⟨w.heap.size + 1, 1, none⟩ = some (.int .i64 hh) ∧ w'.cell? ⟨w.heap.size + 1, 5, none⟩ = some (.int .u64 hst) ∧ w'.cell? ⟨w.heap.size + 1, 15, none⟩ = some (.slice sa sl.length scap))
        (first | exact ⟨s1, s5, s15⟩ | (refine ⟨?_, ?_, ?_⟩ <;> first | assumption | (rw [World.cell?_setCell_far _ _ _ _ (by simp)]; assumption) | (rw [World.cell?_setCell_far _ _ _ _ (by simp), World.cell?_setCell_far _ _ _ _ (by simp)]; assumption) | (rw [World.cell?_setCell_far _ _ _ _ (by simp), World.cell?_setCell_far _ _ _ _ (by simp), World.cell?_setCell_far _ _ _ _ (by simp)]; assumption)))
        (first
        | (go_at_call 18
           refine (clone_any sa scap sl _ hl hS0).mono ?_
           rintro e w3 ⟨lb, cb, rfl, sB, b3, hf3⟩
           have zw : w.heap.size + 1 + 1 < wr.drew.heap.size := kZ1.lt
           have hN : Below wr.heap.size wr w3 := ((Below.refl wr.heap.size wr).drew).trans b3
           have v3 := kV1.below hN kV1.lt
           have z3 := kZ1.below hN kZ1.lt
           have sQ := kS1.below hN kS1.lt
           have s31 := (sQ.cell 1).trans rfl
           have s35 := (sQ.cell 5).trans rfl
           have s3f := (sQ.cell 15).trans rfl
           have v33 := (v3.cell 3).trans rfl
           have v34 := (v3.cell 4).trans rfl
           have v35 := (v3.cell 5).trans rfl
           have q33 := v3.frozen 3
           have q34 := v3.frozen 4
           have q35 := v3.frozen 5
           clear s1 s5 s15))
      have v4 := ((v3.set 3 (.int .i64 hh)).set 4 (.int .u64 hst)).set 5 (.slice lb sl.length cb)
      have z4 := ((z3.setOther ⟨w.heap.size, 3, none⟩ (by simp; omega) (.int .i64 hh)).setOther ⟨w.heap.size, 4, none⟩ (by simp; omega) (.int .u64 hst)).setOther ⟨w.heap.size, 5, none⟩ (by simp; omega) (.slice lb sl.length cb)
      have B4 : Below w.heap.size w (((w3.setCell ⟨w.heap.size, 3, none⟩ (.int .i64 hh)).setCell ⟨w.heap.size, 4, none⟩ (.int .u64 hst)).setCell ⟨w.heap.size, 5, none⟩ (.slice lb sl.length cb)) := (((hB.trans (hN.mono hB.size)).setCell (Nat.le_refl _) _).setCell (Nat.le_refl _) _).setCell (Nat.le_refl _) _
      have sB4 : SL (((w3.setCell ⟨w.heap.size, 3, none⟩ (.int .i64 hh)).setCell ⟨w.heap.size, 4, none⟩ (.int .u64 hst)).setCell ⟨w.heap.size, 5, none⟩ (.slice lb sl.length cb)) lb sl cb := ((sB.setCell (fun x hx => by have := hf3 x hx; simp only; omega) _).setCell (fun x hx => by have := hf3 x hx; simp only; omega) _).setCell (fun x hx => by have := hf3 x hx; simp only; omega) _
      generalize (((w3.setCell ⟨w.heap.size, 3, none⟩ (.int .i64 hh)).setCell ⟨w.heap.size, 4, none⟩ (.int .u64 hst)).setCell ⟨w.heap.size, 5, none⟩ (.slice lb sl.length cb)) = w4 at *
      have v0 := (v4.cell 0).trans rfl
      have v1 := (v4.cell 1).trans rfl
      have v2 := (v4.cell 2).trans rfl
      have v3_ := (v4.cell 3).trans rfl
      have v4_ := (v4.cell 4).trans rfl
      have v5 := (v4.cell 5).trans rfl
      have y0 := (z4.cell 0).trans rfl
      have y1 := (z4.cell 1).trans rfl
      have y2 := (z4.cell 2).trans rfl
      have y3 := (z4.cell 3).trans rfl
      have y4 := (z4.cell 4).trans rfl
      have y5 := (z4.cell 5).trans rfl
      have q0 := z4.frozen 0
      have q1 := z4.frozen 1
      have q2 := z4.frozen 2
      have q3 := z4.frozen 3
      have q4 := z4.frozen 4
      have q5 := z4.frozen 5
      have zz := z4.lt
      have zv := v4.lt
      clear v33 v34 v35 q33 q34 q35 s31 s35 s3f sQ v3 z3 hN b3 hS0 bD kV1 kS1 kZ1 sB
      go_wp2
      refine bodyPost_ret (v := .tuple #[.agg #[.int .i64 vc, .int .i64 vwi, .int .i64 vep, .int .i64 hh, .int .u64 hst, .slice lb sl.length cb], .int .i64 0]) (by simp [results, Tryz.results12, go_sem, y0, y1, y2, y3, y4, y5]) rfl ?_
      refine ⟨?_, Or.inr ⟨HF.out, lb, cb, rfl, ?_, fun a ha => by have := hf3 a ha; omega⟩⟩
      · iterate 6 refine Below.setCell ?_ (by show w.heap.size ≤ w.heap.size + 1 + 1; omega) _
        exact B4
      · iterate 6 refine SL.setCell ?_ (fun x hx => by have := hf3 x hx; simp only; omega) _
        exact sB4
end Go.Proofs.YtblnlfcfjbfhiaaGreat
