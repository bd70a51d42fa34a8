import Derived.Test.YtackcbpabjhmpaaGreatM20
import Derived.Test.YtackcbpabjhmpaaGreatM10
namespace Go.Proofs.YtackcbpabjhmpaaGreat
open Go.RowKit
set_option linter.unusedVariables false
set_option linter.unusedSimpArgs false
set_option maxRecDepth 4000 in
set_option maxHeartbeats 6400000 in
theorem rbench_any (base b : Nat) (la : Option Addr) (lc : Nat) (ps : List (Int × Int)) (B : List UInt8) (far odd : Bool) (w : World) (hb : base ≤ b) (hB : B.length + 12 * ps.length ≤ 1099500000000) (R : RefAt w b B far odd) (hps : PairsLt base w la ps) :
  Calls Tryz.prog 65 #[.pointer (some ⟨b, 0, none⟩), .slice la ps.length lc] w fun e w' => e = .returned (.tuple #[]) ∧ RefAt w' b (B ++ benchZ ps) (far || benchFar ps) (odd || benchOdd ps) ∧ Kp base b w w' := by
 go_enter Tryz.func65, Tryz.ntmps65
 go_wp2_with fail
 refine (rcount_any base b (ps.length : Int) 7 B far odd _ hb (by omega) (by omega) R).mono ?_
 rintro e w1 ⟨rfl, R1, k1⟩
 have l1 := numZ_len (ps.length : Int)
 go_wp2_with fail
 go_loopw [4] (fun iv wv => ∃ (k : Nat), k ≤ ps.length ∧ iv = .int .i64 k ∧ RefAt wv b (B ++ numZ (ps.length : Int) ++ pairsZ (ps.take k)) (far || decide ((7 : Int) < ps.length) || !inNum ps.length || pairsFar (ps.take k)) (odd || oddTo ps k) ∧ Kp base b w wv) (fun iv _ => ps.length - (intOf iv).toNat)
 case atStart => exact ⟨0, Nat.zero_le _, rfl, by simpa [pairsZ, pairsFar, oddTo] using R1, k1⟩
 case round =>
  obtain ⟨k, hk, rfl, Rk, Kk⟩ := hrel
  by_cases hlt : k < ps.length
  ·have hlt' : (k : Int) < (ps.length : Int) := by omega
   have Hz := show Hid (_ = _) from pairsZ_take ps k ps[k] (List.getElem?_eq_getElem hlt)
   have Hf := show Hid (_ = _) from pairsFar_take ps k ps[k] (List.getElem?_eq_getElem hlt)
   have Ho := show Hid (_ = _) from oddTo_succ ps k
   have hlz : (B ++ numZ (ps.length : Int) ++ pairsZ (ps.take k)).length ≤ 1099501000000 := by
    have := pairsZ_len (ps.take k)
    rw [List.length_take] at this
    rw [List.length_append, List.length_append]; omega
   obtain ⟨hbd, h0 | ⟨rb, ro, rfl, hrl, hc⟩⟩ := hps.kp Kk
   ·subst h0; simp at hlt
   obtain ⟨q0, q1⟩ := hc k ps[k] (List.getElem?_eq_getElem hlt)
   obtain ⟨hp1, hp2⟩ := hbd _ (List.getElem_mem hlt)
   have hd : ps.getD k (0, 0) = ps[k] := by simp [List.getD, hlt]
   have Hoa : Hid (oddAt ps k = (decide (ps[k].1 < 1) || decide (ps[k].2 < 1) || (decide (0 < k) && decide (ps[k].1 ≤ (ps.getD (k - 1) (0, 0)).1)))) := by
    show _ = _
    unfold oddAt
    rw [hd]
   have hprev : 0 < k → ∃ pv : Int × Int, ps.getD (k - 1) (0, 0) = pv ∧ wr.cell? ⟨rb, ro + (k - 1) * 2, none⟩ = some (.int .i64 pv.1) := fun h0 => by
    have hk1 : k - 1 < ps.length := by omega
    refine ⟨ps[k - 1], by simp [List.getD, hk1], (hc (k - 1) ps[k - 1] (List.getElem?_eq_getElem hk1)).1⟩
   clear hd
   generalize ps[k] = p at *
   obtain ⟨pa, pc⟩ := p
   simp only at q0 q1 hp1 hp2 Hz Hf Hoa
   generalize hBB : B ++ numZ (ps.length : Int) ++ pairsZ (ps.take k) = BB at *
   generalize hFF : (far || decide ((7 : Int) < ps.length) || !inNum ps.length || pairsFar (ps.take k)) = FF at *
   generalize hOO : (odd || oddTo ps k) = OO at *
   have HB := show Hid (_ = _) from hBB
   have HF := show Hid (_ = _) from hFF
   have HO := show Hid (_ = _) from hOO
   clear hBB hFF hOO hc hbd
   go_wp2_with fail
   refine (rnum_any base b pa BB FF OO _ hb hp1 (by omega) Rk).mono ?_
   rintro e w2 ⟨rfl, R2, k2⟩
   have z1 := numZ_len pa
   have L2 : (BB ++ numZ pa).length ≤ 1099501000010 := by rw [List.length_append]; omega
   have q2 : w2.cell? ⟨rb, ro + k * 2 + 1, none⟩ = some (.int .i64 pc) := by rw [k2.below.cell (p := ⟨rb, ro + k * 2 + 1, none⟩) hrl]; exact q1
   go_wp2_with fail
   refine (rnum_any base b pc _ _ OO _ hb hp2 (by omega) R2).mono ?_
   rintro e w3 ⟨rfl, R3, k3⟩
   have k23 := k2.trans k3
   have r0 : w3.cell? ⟨rb, ro + k * 2, none⟩ = some (.int .i64 pa) := by rw [k23.below.cell (p := ⟨rb, ro + k * 2, none⟩) hrl]; exact q0
   have r1 : w3.cell? ⟨rb, ro + k * 2 + 1, none⟩ = some (.int .i64 pc) := by rw [k23.below.cell (p := ⟨rb, ro + k * 2 + 1, none⟩) hrl]; exact q1
   have KK := Kk.trans k23
   have Hend : Hid (∀ (x : Bool) (w4 : World), x = oddAt ps k → RefAt w4 b (BB ++ numZ pa ++ numZ pc) (FF || !inNum pa || !inNum pc) (OO || x) → RefAt w4 b (B ++ numZ (ps.length : Int) ++ pairsZ (ps.take (k + 1))) (far || decide ((7 : Int) < ps.length) || !inNum ps.length || pairsFar (ps.take (k + 1))) (odd || oddTo ps (k + 1))) := by
    intro x w4 hx h4
    rw [hx] at h4
    rw [← HB.out, ← HF.out, ← HO.out] at h4
    rw [Hz.out, Hf.out, Ho.out]
    simpa [List.append_assoc, Bool.or_assoc] using h4
   clear q0 q1 q2 R2 Rk HB HF HO Hz Hf Ho L2 hlz R1 R
   have hB3 : base ≤ w3.heap.size := Nat.le_trans hb (Nat.le_of_lt (Blk.lt R3))
   by_cases a1 : pa < 1
   ·have a1' : decide (pa < 1) = true := by simpa using a1
    go_wp2_with fail
    refine wp_region_held_drew (S := fun w' => w'.cell? ⟨rb, ro + k * 2, none⟩ = some (.int .i64 pa) ∧ w'.cell? ⟨rb, ro + k * 2 + 1, none⟩ = some (.int .i64 pc)) (by kernel_rfl) ⟨r0, r1⟩ (fun hHeld => ?_)
    refine tk 0 ?_
    refine tk 1 ?_
    refine tk 2 ?_
    refine tk 3 ?_
    refine tk 4 ?_
    refine tk 5 ?_
    refine tk 6 (v := .bool true) ?_
    refine tk 7 ?_
    refine tu 8 ?_
    refine tu 9 ?_
    refine tu 10 ?_
    refine tu 11 ?_
    refine tu 12 ?_
    refine tu 13 ?_
    refine tk 14 ?_
    refine tk 15 ?_
    refine tu 16 ?_
    refine tu 17 ?_
    refine tu 18 ?_
    refine tu 19 ?_
    refine tu 20 ?_
    refine tu 21 ?_
    refine tu 22 ?_
    refine tu 23 ?_
    refine tu 24 ?_
    refine tu 25 ?_
    refine tu 26 ?_
    refine tu 27 ?_
    refine tu 28 ?_
    refine tu 29 ?_
    refine tu 30 ?_
    refine tu 31 ?_
    refine tk 32 ?_
    refine wpAnyH_ready (rs := [33]) (by kernel_rfl) (by simp) ?_
    refine AllReadyH.cons rfl (fun K hK => ?_) AllReadyH.nil
    go_simp
    refine (rodd_any base b true _ _ _ _ hb (R3.below (Below.refl _ _).drew)).mono ?_
    rintro e w4 ⟨rfl, R4, k4'⟩
    have k4 : Kp base b w3 w4 := (Kp.of_below (Below.refl _ _).drew hB3).trans k4'
    have s0 : w4.cell? ⟨rb, ro + k * 2, none⟩ = some (.int .i64 pa) := by rw [k4.below.cell (p := ⟨rb, ro + k * 2, none⟩) hrl]; exact r0
    have s1 : w4.cell? ⟨rb, ro + k * 2 + 1, none⟩ = some (.int .i64 pc) := by rw [k4.below.cell (p := ⟨rb, ro + k * 2 + 1, none⟩) hrl]; exact r1
    refine hK.out _ _ ⟨s0, s1⟩ (fun hHeld2 => ?_)
    clear hK K
    refine wpAnyH_done (by kernel_rfl) ?_ _
    go_wp2
    exact ⟨⟨k + 1, by omega, by go_num, Hend.out true w4 (by rw [Hoa.out]; simp [a1]) R4, KK.trans k4⟩, by simp [intOf]; omega⟩
   ·have a1' : decide (pa < 1) = false := by simpa using a1
    by_cases a2 : pc < 1
    ·have a2' : decide (pc < 1) = true := by simpa using a2
     go_wp2_with fail
     refine wp_region_held_drew (S := fun w' => w'.cell? ⟨rb, ro + k * 2, none⟩ = some (.int .i64 pa) ∧ w'.cell? ⟨rb, ro + k * 2 + 1, none⟩ = some (.int .i64 pc)) (by kernel_rfl) ⟨r0, r1⟩ (fun hHeld => ?_)
     refine tk 0 ?_
     refine tk 1 ?_
     refine tk 2 ?_
     refine tk 3 ?_
     refine tk 4 ?_
     refine tk 5 ?_
     refine tk 6 (v := .bool false) ?_
     refine tk 7 ?_
     refine tk 8 ?_
     refine tk 9 ?_
     refine tk 10 ?_
     refine tk 11 ?_
     refine tk 12 ?_
     refine tk 13 (v := .bool true) ?_
     refine tk 14 ?_
     refine tk 15 ?_
     refine tu 16 ?_
     refine tu 17 ?_
     refine tu 18 ?_
     refine tu 19 ?_
     refine tu 20 ?_
     refine tu 21 ?_
     refine tu 22 ?_
     refine tu 23 ?_
     refine tu 24 ?_
     refine tu 25 ?_
     refine tu 26 ?_
     refine tu 27 ?_
     refine tu 28 ?_
     refine tu 29 ?_
     refine tu 30 ?_
     refine tu 31 ?_
     refine tk 32 ?_
     refine wpAnyH_ready (rs := [33]) (by kernel_rfl) (by simp) ?_
     refine AllReadyH.cons rfl (fun K hK => ?_) AllReadyH.nil
     go_simp
     refine (rodd_any base b true _ _ _ _ hb (R3.below (Below.refl _ _).drew)).mono ?_
     rintro e w4 ⟨rfl, R4, k4'⟩
     have k4 : Kp base b w3 w4 := (Kp.of_below (Below.refl _ _).drew hB3).trans k4'
     have s0 : w4.cell? ⟨rb, ro + k * 2, none⟩ = some (.int .i64 pa) := by rw [k4.below.cell (p := ⟨rb, ro + k * 2, none⟩) hrl]; exact r0
     have s1 : w4.cell? ⟨rb, ro + k * 2 + 1, none⟩ = some (.int .i64 pc) := by rw [k4.below.cell (p := ⟨rb, ro + k * 2 + 1, none⟩) hrl]; exact r1
     refine hK.out _ _ ⟨s0, s1⟩ (fun hHeld2 => ?_)
     clear hK K
     refine wpAnyH_done (by kernel_rfl) ?_ _
     go_wp2
     exact ⟨⟨k + 1, by omega, by go_num, Hend.out true w4 (by rw [Hoa.out]; simp [a2]) R4, KK.trans k4⟩, by simp [intOf]; omega⟩
    ·have a2' : decide (pc < 1) = false := by simpa using a2
     by_cases a3 : k = 0
     ·have a3d : decide ((0 : Int) < (k : Int)) = false := by simp; omega
      have H3 := show Hid (_ = _) from a3
      clear a3
      go_wp2_with fail
      refine wp_region_held_drew (S := fun w' => w'.cell? ⟨rb, ro + k * 2, none⟩ = some (.int .i64 pa) ∧ w'.cell? ⟨rb, ro + k * 2 + 1, none⟩ = some (.int .i64 pc)) (by kernel_rfl) ⟨r0, r1⟩ (fun hHeld => ?_)
      refine tk 0 ?_
      refine tk 1 ?_
      refine tk 2 ?_
      refine tk 3 ?_
      refine tk 4 ?_
      refine tk 5 ?_
      refine tk 6 (v := .bool false) ?_
      refine tk 7 ?_
      refine tk 8 ?_
      refine tk 9 ?_
      refine tk 10 ?_
      refine tk 11 ?_
      refine tk 12 ?_
      refine tk 13 (v := .bool false) ?_
      refine tk 14 ?_
      refine tk 15 ?_
      refine tk 16 ?_
      refine wpAnyH_take (i := 17) (v := .bool false) rfl (by kernel_rfl) (by kernel_rfl) (by kernel_rfl) (fun _ _ _ h => h) (Or.inl ⟨by kernel_rfl, ?_⟩) (by assumption) ?_
      ·intro w hSw
       obtain ⟨y0, y1⟩ := hSw
       go_simp
       exact H3.out
      simp only [Act.put, List.setIfInBounds_toArray, List.set_cons_zero, List.set_cons_succ]
      refine tk 18 ?_
      refine tu 19 ?_
      refine tu 20 ?_
      refine tu 21 ?_
      refine tu 22 ?_
      refine tu 23 ?_
      refine tu 24 ?_
      refine tu 25 ?_
      refine tu 26 ?_
      refine tu 27 ?_
      refine tu 28 ?_
      refine tu 29 ?_
      refine tu 30 ?_
      refine tk 31 ?_
      refine tk 32 ?_
      refine wpAnyH_ready (rs := [33]) (by kernel_rfl) (by simp) ?_
      refine AllReadyH.cons rfl (fun K hK => ?_) AllReadyH.nil
      go_simp
      refine (rodd_any base b false _ _ _ _ hb (R3.below (Below.refl _ _).drew)).mono ?_
      rintro e w4 ⟨rfl, R4, k4'⟩
      have k4 : Kp base b w3 w4 := (Kp.of_below (Below.refl _ _).drew hB3).trans k4'
      have s0 : w4.cell? ⟨rb, ro + k * 2, none⟩ = some (.int .i64 pa) := by rw [k4.below.cell (p := ⟨rb, ro + k * 2, none⟩) hrl]; exact r0
      have s1 : w4.cell? ⟨rb, ro + k * 2 + 1, none⟩ = some (.int .i64 pc) := by rw [k4.below.cell (p := ⟨rb, ro + k * 2 + 1, none⟩) hrl]; exact r1
      refine hK.out _ _ ⟨s0, s1⟩ (fun hHeld2 => ?_)
      clear hK K
      refine wpAnyH_done (by kernel_rfl) ?_ _
      go_wp2
      exact ⟨⟨k + 1, by omega, by go_num, Hend.out false w4 (by rw [Hoa.out, a1', a2']; simp [H3.out]) R4, KK.trans k4⟩, by simp [intOf]; omega⟩
     ·have a3' : (0 : Int) < (k : Int) := by omega
      have a3d : decide ((0 : Int) < (k : Int)) = true := by simpa using a3'
      obtain ⟨⟨pv, pw⟩, hpv, rp0⟩ := hprev (by omega)
      have Hpv := show Hid (_ = _) from hpv
      have rp : w3.cell? ⟨rb, ro + (k - 1) * 2, none⟩ = some (.int .i64 pv) := by rw [k23.below.cell (p := ⟨rb, ro + (k - 1) * 2, none⟩) hrl]; exact rp0
      have hw1 : IntKind.i64.wrap ((k : Int) - 1) = ((k - 1 : Nat) : Int) := by rw [IntKind.wrap_i64]; omega
      have hlt2 : ((k - 1 : Nat) : Int) < (ps.length : Int) := by omega
      have hkpos : 0 < k := by omega
      clear rp0 hpv
      go_wp2_with fail
      refine wp_region_held_drew (S := fun w' => w'.cell? ⟨rb, ro + k * 2, none⟩ = some (.int .i64 pa) ∧ w'.cell? ⟨rb, ro + k * 2 + 1, none⟩ = some (.int .i64 pc) ∧ w'.cell? ⟨rb, ro + (k - 1) * 2, none⟩ = some (.int .i64 pv)) (by kernel_rfl) ⟨r0, r1, rp⟩ (fun hHeld => ?_)
      refine tk 0 ?_
      refine tk 1 ?_
      refine tk 2 ?_
      refine tk 3 ?_
      refine tk 4 ?_
      refine tk 5 ?_
      refine tk 6 (v := .bool false) ?_
      refine tk 7 ?_
      refine tk 8 ?_
      refine tk 9 ?_
      refine tk 10 ?_
      refine tk 11 ?_
      refine tk 12 ?_
      refine tk 13 (v := .bool false) ?_
      refine tk 14 ?_
      refine tk 15 ?_
      refine tk 16 ?_
      refine tk 17 (v := .bool true) ?_
      refine tk 18 ?_
      refine tk 19 ?_
      refine tk 20 ?_
      refine tk 21 ?_
      refine tk 22 ?_
      refine tk 23 ?_
      refine tk 24 ?_
      refine tk 25 ?_
      refine tk 26 ?_
      refine tk 27 ?_
      refine tk 28 ?_
      refine tk 29 ?_
      refine tk 30 ?_
      refine tk 31 ?_
      refine tk 32 ?_
      refine wpAnyH_ready (rs := [33]) (by kernel_rfl) (by simp) ?_
      refine AllReadyH.cons rfl (fun K hK => ?_) AllReadyH.nil
      go_simp
      refine (rodd_any base b (decide (pa ≤ pv)) _ _ _ _ hb (R3.below (Below.refl _ _).drew)).mono ?_
      rintro e w4 ⟨rfl, R4, k4'⟩
      have k4 : Kp base b w3 w4 := (Kp.of_below (Below.refl _ _).drew hB3).trans k4'
      have s0 : w4.cell? ⟨rb, ro + k * 2, none⟩ = some (.int .i64 pa) := by rw [k4.below.cell (p := ⟨rb, ro + k * 2, none⟩) hrl]; exact r0
      have s1 : w4.cell? ⟨rb, ro + k * 2 + 1, none⟩ = some (.int .i64 pc) := by rw [k4.below.cell (p := ⟨rb, ro + k * 2 + 1, none⟩) hrl]; exact r1
      have sp : w4.cell? ⟨rb, ro + (k - 1) * 2, none⟩ = some (.int .i64 pv) := by rw [k4.below.cell (p := ⟨rb, ro + (k - 1) * 2, none⟩) hrl]; exact rp
      refine hK.out _ _ ⟨s0, s1, sp⟩ (fun hHeld2 => ?_)
      clear hK K
      refine wpAnyH_done (by kernel_rfl) ?_ _
      go_wp2
      exact ⟨⟨k + 1, by omega, by go_num, Hend.out (decide (pa ≤ pv)) w4 (by rw [Hoa.out]; rw [Hpv.out, a1', a2']; simp [hkpos]) R4, KK.trans k4⟩, by simp [intOf]; omega⟩
  ·have hkk : k = ps.length := by omega
   have Hf : Hid (RefAt wr b (B ++ benchZ ps) (far || benchFar ps) (odd || benchOdd ps)) := by
    have h := Rk
    rw [hkk, List.take_length] at h
    show RefAt _ _ _ _ _
    unfold benchZ benchFar benchOdd
    simpa [List.append_assoc, Bool.or_assoc] using h
   have hge : ¬ (k : Int) < (ps.length : Int) := by omega
   clear hkk Rk
   go_wp2
   go_end0
   exact ⟨rfl, Hf.out, Kk⟩
end Go.Proofs.YtackcbpabjhmpaaGreat
