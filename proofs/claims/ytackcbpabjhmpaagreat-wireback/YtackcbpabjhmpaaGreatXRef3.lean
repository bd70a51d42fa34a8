import Derived.Test.YtackcbpabjhmpaaGreatXRef2
import Derived.Test.YtackcbpabjhmpaaGreatXRefB
namespace Go.Proofs.YtackcbpabjhmpaaGreat
open Go.RowKit
set_option linter.unusedVariables false
set_option linter.unusedSimpArgs false
set_option maxRecDepth 4000 in
set_option maxHeartbeats 6400000 in
theorem rproof_anyX (base b : Nat) (x : Proof) (l : List Atom) (odd : Bool) (w : World) (hb : base ≤ b) (hL : wtL l + wtL x.atoms ≤ 1099400000000) (R : RefL w b l odd) (g : goods base w x.flds) :
  Calls Tryz.prog 77 #[.pointer (some ⟨b, 0, none⟩), .agg #[.slice x.tu.la x.tu.xs.length x.tu.lc, .bool x.leaf, .string ⟨x.key.toArray⟩, .string ⟨x.val.toArray⟩]] w fun e w' => e = .returned (.tuple #[]) ∧ RefL w' b (l ++ x.atoms) (odd || x.odd) ∧ Kp base b w w' := by
 have hlt := R.lt
 have hB0 : base ≤ w.heap.size := Nat.le_trans hb (Nat.le_of_lt hlt)
 have bA : Below w.heap.size w (w.alloc (.cells #[.slice x.tu.la x.tu.xs.length x.tu.lc, .bool x.leaf, .string ⟨x.key.toArray⟩, .string ⟨x.val.toArray⟩] 57)) := (Below.refl _ _).alloc (Nat.le_refl _) _
 have X0 := Blk.new w #[.slice x.tu.la x.tu.xs.length x.tu.lc, .bool x.leaf, .string ⟨x.key.toArray⟩, .string ⟨x.val.toArray⟩] 57
 have K0 : Kp base b w (w.alloc (.cells #[.slice x.tu.la x.tu.xs.length x.tu.lc, .bool x.leaf, .string ⟨x.key.toArray⟩, .string ⟨x.val.toArray⟩] 57)) := Kp.of_below bA hB0
 have R0 := R.below bA
 have hXb : w.heap.size ≠ b := by omega
 have HW : Hid (wtL l + (6 + wtL (eachL Turn.atoms x.tu.xs) + 1 + 6 + x.key.length + 6 + x.val.length) ≤ 1099400000000) := by
  have h := hL
  simp only [Proof.atoms, wtL_append, nums, digs, intA, flagL, digL, textL, listL, List.map, wtL, Atom.wt, flagB, be_len, List.length_cons, List.length_nil] at h
  show _ ≤ _
  omega
 clear hL
 go_enter Tryz.func77, Tryz.ntmps77
 have hh0 := Lst.held Turn.len (g.get 0 rfl)
 have hc0 := hh0.1
 have hm0 := hh0.2.1
 unfold maxLen at hm0
 have q0 := X0.cell 0
 simp only [List.getElem?_toArray, List.getElem?_cons_zero] at q0
 go_wp2_with fail
 refine (rcountL base b (x.tu.xs.length : Int) 288 l odd _ hb (by omega) (by omega) (by have := HW.out; omega) R0).mono ?_
 rintro e w1 ⟨rfl, R1, k⟩
 obtain ⟨m1, Hl1⟩ : ∃ l', Hid (l' = l ++ [Atom.num 288 (x.tu.xs.length : Int)]) := ⟨_, rfl⟩
 rw [← Hl1.out] at R1
 have HL1 : Hid (wtL m1 = wtL l + (6)) := by
  show _ = _
  rw [Hl1.out, wtL_append] <;> rfl
 have X1 := X0.kp k hXb
 have K1 := K0.trans k
 clear q0 k X0 R0
 go_wp2_with fail
 go_loopw [4] (fun iv wv => ∃ (k : Nat), k ≤ x.tu.xs.length ∧ iv = .int .i64 k ∧ RefL wv b (m1 ++ eachL Turn.atoms (x.tu.xs.take k)) (odd || backsOdd x.tu.xs k) ∧ Kp base b w1 wv) (fun iv _ => x.tu.xs.length - (intOf iv).toNat)
 case atStart => exact ⟨0, Nat.zero_le _, rfl, by simpa [eachL, riseOdd, backsOdd] using R1, Kp.refl _ _ _⟩
 case round =>
  obtain ⟨k, hk, rfl, Rk, Kk⟩ := hrel
  have Xk := X1.kp Kk hXb
  have q0 := Xk.cell 0
  simp only [List.getElem?_toArray, List.getElem?_cons_zero] at q0
  by_cases hk2 : k < x.tu.xs.length
  ·have hk3 : (k : Int) < (x.tu.xs.length : Int) := by omega
   have Hst : Hid (_ = _) := eachL_take Turn.atoms x.tu.xs k (x.tu.xs[k]'hk2) (List.getElem?_eq_getElem hk2)
   have HLk : Hid (wtL (m1 ++ eachL Turn.atoms (x.tu.xs.take k)) + wtL (Turn.atoms (x.tu.xs[k]'hk2)) ≤ 1099400000000) := by
    show _ ≤ _
    have h1 := eachL_wt Turn.atoms x.tu.xs k (x.tu.xs[k]'hk2) (List.getElem?_eq_getElem hk2)
    have h2 := HW.out
    have := HL1.out
    rw [wtL_append]; omega
   obtain ⟨_, _, h0 | ⟨rb, ro, e0, rl, rz, rc⟩⟩ := (hh0.below K1.below).below Kk.below
   ·rw [h0] at hk2; simp at hk2
   have rk := rc k (x.tu.xs[k]'hk2) (List.getElem?_eq_getElem hk2)
   obtain ⟨y, Hy⟩ : ∃ y : Turn, Hid (y = x.tu.xs[k]'hk2) := ⟨x.tu.xs[k]'hk2, rfl⟩
   rw [← Hy.out] at rk Hst HLk
   rw [e0] at q0
   have He0 := show Hid (_ = _) from e0
   clear e0
   have e1 := rk.get0 rfl
   have e2 := rk.get 1 rfl
   simp only [Fld.val] at e1 e2
   have hyb : -9223372036854775808 ≤ y.p ∧ y.p ≤ 9223372036854775807 := rk.goods.get 0 rfl
   have hyd : 0 ≤ y.d ∧ y.d ≤ 18446744073709551615 := rk.goods.get 1 rfl
   have Hoa : Hid (backOdd x.tu.xs k = (decide (0 < k) && decide (y.p ≤ (x.tu.xs.map Turn.p).getD (k - 1) 0))) := by
    show _ = _
    unfold backOdd
    rw [show (x.tu.xs.map Turn.p).getD k 0 = y.p by rw [Hy.out]; simp [List.getD, hk2]]
   have hprev : 0 < k → ∃ pv : Int, (x.tu.xs.map Turn.p).getD (k - 1) 0 = pv ∧ wr.cell? ⟨rb, ro + (k - 1) * 2, none⟩ = some (.int .i64 pv) := fun h0 => by
    have hk1 : k - 1 < x.tu.xs.length := by omega
    refine ⟨x.tu.xs[k - 1].p, by simp [List.getD, hk1], ?_⟩
    exact (rc (k - 1) (x.tu.xs[k - 1]'hk1) (List.getElem?_eq_getElem hk1)).get0 rfl
   have hLk : Hid (wtL (m1 ++ eachL Turn.atoms (x.tu.xs.take k)) + 14 ≤ 1099400000000) := by
    have h := HLk.out
    simp only [Turn.atoms, wtL_append, digL, wtL, Atom.wt, be_len] at h
    show _ ≤ _
    rw [wtL_append]; omega
   go_wp2_with fail
   refine (rnumL base b y.p _ _ _ hb hyb (by have := hLk.out; omega) Rk).mono ?_
   rintro e v2 ⟨rfl, R2, k2⟩
   have X2' := Xk.kp k2 hXb
   have e2' : v2.cell? ⟨rb, ro + k * 2 + 1, none⟩ = some (.int .u64 y.d) := by rw [k2.below.cell (p := ⟨rb, ro + k * 2 + 1, none⟩) rl]; exact e2
   clear q0
   have q0 := X2'.cell 0
   simp only [List.getElem?_toArray, List.getElem?_cons_zero] at q0
   rw [He0.out] at q0
   go_wp2_with fail
   refine (rdigL base b y.d _ _ _ hb hyd (by have := hLk.out; rw [wtL_append]; simp only [intA, wtL, Atom.wt]; omega) R2).mono ?_
   rintro e v3 ⟨rfl, R3v, k3v⟩
   have X3v := X2'.kp k3v hXb
   have kv := k2.trans k3v
   have KKv := Kk.trans kv
   have r0v : v3.cell? ⟨rb, ro + k * 2, none⟩ = some (.int .i64 y.p) := by rw [kv.below.cell (p := ⟨rb, ro + k * 2, none⟩) rl]; exact e1
   clear q0
   have q0v := X3v.cell 0
   simp only [List.getElem?_toArray, List.getElem?_cons_zero] at q0v
   rw [He0.out] at q0v
   obtain ⟨_, _, _, _, f1v, _, _⟩ := RefAt.cells R3v
   have hltv := R3v.lt
   have Hend : Hid (∀ (z : Bool) (w4 : World), z = backOdd x.tu.xs k → RefL w4 b (m1 ++ eachL Turn.atoms (x.tu.xs.take (k + 1))) (odd || backsOdd x.tu.xs k || z) → RefL w4 b (m1 ++ eachL Turn.atoms (x.tu.xs.take (k + 1))) (odd || backsOdd x.tu.xs (k + 1))) := by
    intro z w4 hz h4
    rw [hz, Bool.or_assoc, ← backsOdd_succ] at h4
    exact h4
   clear HLk hLk rk e1 e2 Rk Xk R2 e2'
   by_cases hp : 288 ≤ y.p
   ·have hpd : decide (288 ≤ y.p) = true := by simpa using hp
    have R3 := turn_far hp R3v
    rw [List.append_assoc, ← Hst.out] at R3
    have k3 := kv.trans (Kp.set (w := v3) hb 1 (.bool true))
    have X3 := X3v.setOther ⟨b, 1, none⟩ hXb (.bool true)
    have r0 : (v3.setCell ⟨b, 1, none⟩ (.bool true)).cell? ⟨rb, ro + k * 2, none⟩ = some (.int .i64 y.p) := by rw [(Kp.set (w := v3) hb 1 (.bool true)).below.cell (p := ⟨rb, ro + k * 2, none⟩) rl]; exact r0v
    have KK := Kk.trans k3
    go_wp2_with fail
    generalize v3.setCell ⟨b, 1, none⟩ (.bool true) = w3 at *
    have q0 := X3.cell 0
    simp only [List.getElem?_toArray, List.getElem?_cons_zero] at q0
    rw [He0.out] at q0
    have hB3 : base ≤ w3.heap.size := Nat.le_trans hb (Nat.le_of_lt R3.lt)
    have hx3 := X3.lt
    clear Hst R3v X3v k3v r0v q0v f1v KKv
    by_cases a3 : k = 0
    ·have a3' : ¬ (0 : Int) < (k : Int) := by omega
     have a3d : decide ((0 : Int) < (k : Int)) = false := by simpa using a3'
     have H3 := show Hid (_ = _) from a3
     clear a3
     clear hprev
     go_wp2_with fail
     refine wp_region_held_drew (S := fun w' => w'.cell? ⟨w.heap.size, 0, none⟩ = some (.slice (some ⟨rb, ro, none⟩) x.tu.xs.length x.tu.lc) ∧ w'.cell? ⟨rb, ro + k * 2, none⟩ = some (.int .i64 y.p)) (by kernel_rfl) ⟨q0, r0⟩ (fun hHeld => ?_)
     refine tk 0 ?_
     refine tk 1 ?_
     refine wpAnyH_take (i := 2) (v := .bool false) rfl (by kernel_rfl) (by kernel_rfl) (by kernel_rfl) (fun _ _ _ h => h) (Or.inl ⟨by kernel_rfl, ?_⟩) (by assumption) ?_
     ·intro w hSw
      obtain ⟨y0, y1⟩ := hSw
      go_simp
      try exact H3.out
     simp only [Act.put, List.setIfInBounds_toArray, List.set_cons_zero, List.set_cons_succ]
     refine tk 3 ?_
     refine tu 4 ?_
     refine tu 5 ?_
     refine tu 6 ?_
     refine tu 7 ?_
     refine tu 8 ?_
     refine tu 9 ?_
     refine tu 10 ?_
     refine tu 11 ?_
     refine tu 12 ?_
     refine tu 13 ?_
     refine tu 14 ?_
     refine tu 15 ?_
     refine tu 16 ?_
     refine tu 17 ?_
     refine tk 18 ?_
     refine wpAnyH_ready (rs := [19]) (by kernel_rfl) (by simp) ?_
     refine AllReadyH.cons rfl (fun K hK => ?_) AllReadyH.nil
     go_simp
     refine (roddL base b false _ _ _ hb (R3.below (Below.refl _ _).drew)).mono ?_
     rintro e w4 ⟨rfl, R4, k4'⟩
     have k4 : Kp base b w3 w4 := (Kp.of_below (Below.refl _ _).drew hB3).trans k4'
     have zq0 : w4.cell? ⟨w.heap.size, 0, none⟩ = some (.slice (some ⟨rb, ro, none⟩) x.tu.xs.length x.tu.lc) := by rw [Safe.cell (a := ⟨w.heap.size, 0, none⟩) (X3.safe (b := b) (by decide) hXb) k4]; exact q0
     have zr0 : w4.cell? ⟨rb, ro + k * 2, none⟩ = some (.int .i64 y.p) := by rw [k4.below.cell (p := ⟨rb, ro + k * 2, none⟩) rl]; exact r0
     refine hK.out _ _ ⟨zq0, zr0⟩ (fun hHeld2 => ?_)
     clear hK K
     refine wpAnyH_done (by kernel_rfl) ?_ _
     go_wp2
     exact ⟨⟨k + 1, by omega, by go_num, Hend.out false w4 (by rw [Hoa.out]; simp [H3.out]) R4, KK.trans k4⟩, by simp [intOf]; omega⟩
    ·have a3' : (0 : Int) < (k : Int) := by omega
     have a3d : decide ((0 : Int) < (k : Int)) = true := by simpa using a3'
     obtain ⟨pv, hpv, rp0⟩ := hprev (by omega)
     have Hpv := show Hid (_ = _) from hpv
     have rp : w3.cell? ⟨rb, ro + (k - 1) * 2, none⟩ = some (.int .i64 pv) := by rw [k3.below.cell (p := ⟨rb, ro + (k - 1) * 2, none⟩) rl]; exact rp0
     have hw1 : IntKind.i64.wrap ((k : Int) - 1) = ((k - 1 : Nat) : Int) := by rw [IntKind.wrap_i64]; omega
     have hlt2 : ((k - 1 : Nat) : Int) < (x.tu.xs.length : Int) := by omega
     have hkpos : 0 < k := by omega
     clear rp0 hpv a3
     skip
     go_wp2_with fail
     refine wp_region_held_drew (S := fun w' => w'.cell? ⟨w.heap.size, 0, none⟩ = some (.slice (some ⟨rb, ro, none⟩) x.tu.xs.length x.tu.lc) ∧ w'.cell? ⟨rb, ro + k * 2, none⟩ = some (.int .i64 y.p) ∧ w'.cell? ⟨rb, ro + (k - 1) * 2, none⟩ = some (.int .i64 pv)) (by kernel_rfl) ⟨q0, r0, rp⟩ (fun hHeld => ?_)
     refine tk 0 ?_
     refine tk 1 ?_
     refine wpAnyH_take (i := 2) (v := .bool true) rfl (by kernel_rfl) (by kernel_rfl) (by kernel_rfl) (fun _ _ _ h => h) (Or.inl ⟨by kernel_rfl, ?_⟩) (by assumption) ?_
     ·intro w hSw
      obtain ⟨y0, y1, y2⟩ := hSw
      go_simp
      try exact H3.out
     simp only [Act.put, List.setIfInBounds_toArray, List.set_cons_zero, List.set_cons_succ]
     refine tk 3 ?_
     refine tk 4 ?_
     refine tk 5 ?_
     refine tk 6 ?_
     refine tk 7 ?_
     refine tk 8 ?_
     refine tk 9 ?_
     refine tk 10 ?_
     refine tk 11 ?_
     refine tk 12 ?_
     refine tk 13 ?_
     refine tk 14 ?_
     refine tk 15 ?_
     refine tk 16 ?_
     refine tk 17 ?_
     refine tk 18 ?_
     refine wpAnyH_ready (rs := [19]) (by kernel_rfl) (by simp) ?_
     refine AllReadyH.cons rfl (fun K hK => ?_) AllReadyH.nil
     go_simp
     refine (roddL base b (decide (y.p ≤ pv)) _ _ _ hb (R3.below (Below.refl _ _).drew)).mono ?_
     rintro e w4 ⟨rfl, R4, k4'⟩
     have k4 : Kp base b w3 w4 := (Kp.of_below (Below.refl _ _).drew hB3).trans k4'
     have zq0 : w4.cell? ⟨w.heap.size, 0, none⟩ = some (.slice (some ⟨rb, ro, none⟩) x.tu.xs.length x.tu.lc) := by rw [Safe.cell (a := ⟨w.heap.size, 0, none⟩) (X3.safe (b := b) (by decide) hXb) k4]; exact q0
     have zr0 : w4.cell? ⟨rb, ro + k * 2, none⟩ = some (.int .i64 y.p) := by rw [k4.below.cell (p := ⟨rb, ro + k * 2, none⟩) rl]; exact r0
     have zrp : w4.cell? ⟨rb, ro + (k - 1) * 2, none⟩ = some (.int .i64 pv) := by rw [k4.below.cell (p := ⟨rb, ro + (k - 1) * 2, none⟩) rl]; exact rp
     refine hK.out _ _ ⟨zq0, zr0, zrp⟩ (fun hHeld2 => ?_)
     clear hK K
     refine wpAnyH_done (by kernel_rfl) ?_ _
     go_wp2
     exact ⟨⟨k + 1, by omega, by go_num, Hend.out (decide (y.p ≤ pv)) w4 (by rw [Hoa.out, Hpv.out]; simp [hkpos]) R4, KK.trans k4⟩, by simp [intOf]; omega⟩
   ·have hpd : decide (288 ≤ y.p) = false := by simpa using hp
    have R3 := turn_near hp R3v
    rw [List.append_assoc, ← Hst.out] at R3
    have k3 := kv
    have X3 := X3v
    have r0 := r0v
    have KK := KKv
    go_wp2_with fail
    generalize v3 = w3 at *
    have q0 := X3.cell 0
    simp only [List.getElem?_toArray, List.getElem?_cons_zero] at q0
    rw [He0.out] at q0
    have hB3 : base ≤ w3.heap.size := Nat.le_trans hb (Nat.le_of_lt R3.lt)
    have hx3 := X3.lt
    clear Hst R3v X3v k3v r0v q0v f1v KKv
    by_cases a3 : k = 0
    ·have a3' : ¬ (0 : Int) < (k : Int) := by omega
     have a3d : decide ((0 : Int) < (k : Int)) = false := by simpa using a3'
     have H3 := show Hid (_ = _) from a3
     clear a3
     clear hprev
     go_wp2_with fail
     refine wp_region_held_drew (S := fun w' => w'.cell? ⟨w.heap.size, 0, none⟩ = some (.slice (some ⟨rb, ro, none⟩) x.tu.xs.length x.tu.lc) ∧ w'.cell? ⟨rb, ro + k * 2, none⟩ = some (.int .i64 y.p)) (by kernel_rfl) ⟨q0, r0⟩ (fun hHeld => ?_)
     refine tk 0 ?_
     refine tk 1 ?_
     refine wpAnyH_take (i := 2) (v := .bool false) rfl (by kernel_rfl) (by kernel_rfl) (by kernel_rfl) (fun _ _ _ h => h) (Or.inl ⟨by kernel_rfl, ?_⟩) (by assumption) ?_
     ·intro w hSw
      obtain ⟨y0, y1⟩ := hSw
      go_simp
      try exact H3.out
     simp only [Act.put, List.setIfInBounds_toArray, List.set_cons_zero, List.set_cons_succ]
     refine tk 3 ?_
     refine tu 4 ?_
     refine tu 5 ?_
     refine tu 6 ?_
     refine tu 7 ?_
     refine tu 8 ?_
     refine tu 9 ?_
     refine tu 10 ?_
     refine tu 11 ?_
     refine tu 12 ?_
     refine tu 13 ?_
     refine tu 14 ?_
     refine tu 15 ?_
     refine tu 16 ?_
     refine tu 17 ?_
     refine tk 18 ?_
     refine wpAnyH_ready (rs := [19]) (by kernel_rfl) (by simp) ?_
     refine AllReadyH.cons rfl (fun K hK => ?_) AllReadyH.nil
     go_simp
     refine (roddL base b false _ _ _ hb (R3.below (Below.refl _ _).drew)).mono ?_
     rintro e w4 ⟨rfl, R4, k4'⟩
     have k4 : Kp base b w3 w4 := (Kp.of_below (Below.refl _ _).drew hB3).trans k4'
     have zq0 : w4.cell? ⟨w.heap.size, 0, none⟩ = some (.slice (some ⟨rb, ro, none⟩) x.tu.xs.length x.tu.lc) := by rw [Safe.cell (a := ⟨w.heap.size, 0, none⟩) (X3.safe (b := b) (by decide) hXb) k4]; exact q0
     have zr0 : w4.cell? ⟨rb, ro + k * 2, none⟩ = some (.int .i64 y.p) := by rw [k4.below.cell (p := ⟨rb, ro + k * 2, none⟩) rl]; exact r0
     refine hK.out _ _ ⟨zq0, zr0⟩ (fun hHeld2 => ?_)
     clear hK K
     refine wpAnyH_done (by kernel_rfl) ?_ _
     go_wp2
     exact ⟨⟨k + 1, by omega, by go_num, Hend.out false w4 (by rw [Hoa.out]; simp [H3.out]) R4, KK.trans k4⟩, by simp [intOf]; omega⟩
    ·have a3' : (0 : Int) < (k : Int) := by omega
     have a3d : decide ((0 : Int) < (k : Int)) = true := by simpa using a3'
     obtain ⟨pv, hpv, rp0⟩ := hprev (by omega)
     have Hpv := show Hid (_ = _) from hpv
     have rp : w3.cell? ⟨rb, ro + (k - 1) * 2, none⟩ = some (.int .i64 pv) := by rw [k3.below.cell (p := ⟨rb, ro + (k - 1) * 2, none⟩) rl]; exact rp0
     have hw1 : IntKind.i64.wrap ((k : Int) - 1) = ((k - 1 : Nat) : Int) := by rw [IntKind.wrap_i64]; omega
     have hlt2 : ((k - 1 : Nat) : Int) < (x.tu.xs.length : Int) := by omega
     have hkpos : 0 < k := by omega
     clear rp0 hpv a3
     skip
     go_wp2_with fail
     refine wp_region_held_drew (S := fun w' => w'.cell? ⟨w.heap.size, 0, none⟩ = some (.slice (some ⟨rb, ro, none⟩) x.tu.xs.length x.tu.lc) ∧ w'.cell? ⟨rb, ro + k * 2, none⟩ = some (.int .i64 y.p) ∧ w'.cell? ⟨rb, ro + (k - 1) * 2, none⟩ = some (.int .i64 pv)) (by kernel_rfl) ⟨q0, r0, rp⟩ (fun hHeld => ?_)
     refine tk 0 ?_
     refine tk 1 ?_
     refine wpAnyH_take (i := 2) (v := .bool true) rfl (by kernel_rfl) (by kernel_rfl) (by kernel_rfl) (fun _ _ _ h => h) (Or.inl ⟨by kernel_rfl, ?_⟩) (by assumption) ?_
     ·intro w hSw
      obtain ⟨y0, y1, y2⟩ := hSw
      go_simp
      try exact H3.out
     simp only [Act.put, List.setIfInBounds_toArray, List.set_cons_zero, List.set_cons_succ]
     refine tk 3 ?_
     refine tk 4 ?_
     refine tk 5 ?_
     refine tk 6 ?_
     refine tk 7 ?_
     refine tk 8 ?_
     refine tk 9 ?_
     refine tk 10 ?_
     refine tk 11 ?_
     refine tk 12 ?_
     refine tk 13 ?_
     refine tk 14 ?_
     refine tk 15 ?_
     refine tk 16 ?_
     refine tk 17 ?_
     refine tk 18 ?_
     refine wpAnyH_ready (rs := [19]) (by kernel_rfl) (by simp) ?_
     refine AllReadyH.cons rfl (fun K hK => ?_) AllReadyH.nil
     go_simp
     refine (roddL base b (decide (y.p ≤ pv)) _ _ _ hb (R3.below (Below.refl _ _).drew)).mono ?_
     rintro e w4 ⟨rfl, R4, k4'⟩
     have k4 : Kp base b w3 w4 := (Kp.of_below (Below.refl _ _).drew hB3).trans k4'
     have zq0 : w4.cell? ⟨w.heap.size, 0, none⟩ = some (.slice (some ⟨rb, ro, none⟩) x.tu.xs.length x.tu.lc) := by rw [Safe.cell (a := ⟨w.heap.size, 0, none⟩) (X3.safe (b := b) (by decide) hXb) k4]; exact q0
     have zr0 : w4.cell? ⟨rb, ro + k * 2, none⟩ = some (.int .i64 y.p) := by rw [k4.below.cell (p := ⟨rb, ro + k * 2, none⟩) rl]; exact r0
     have zrp : w4.cell? ⟨rb, ro + (k - 1) * 2, none⟩ = some (.int .i64 pv) := by rw [k4.below.cell (p := ⟨rb, ro + (k - 1) * 2, none⟩) rl]; exact rp
     refine hK.out _ _ ⟨zq0, zr0, zrp⟩ (fun hHeld2 => ?_)
     clear hK K
     refine wpAnyH_done (by kernel_rfl) ?_ _
     go_wp2
     exact ⟨⟨k + 1, by omega, by go_num, Hend.out (decide (y.p ≤ pv)) w4 (by rw [Hoa.out, Hpv.out]; simp [hkpos]) R4, KK.trans k4⟩, by simp [intOf]; omega⟩
  ·have hkk : k = x.tu.xs.length := by omega
   rw [hkk, List.take_length] at Rk
   have hge : ¬ (k : Int) < (x.tu.xs.length : Int) := by omega
   clear hkk
   have K2 := K1.trans Kk
   have X2 := Xk
   have R2 := Rk
   clear Rk Xk X1 R1 Kk
   obtain ⟨o1, Ho1⟩ : ∃ o', Hid (o' = (odd || backsOdd x.tu.xs x.tu.xs.length)) := ⟨_, rfl⟩
   rw [← Ho1.out] at R2
   obtain ⟨m2, Hl2⟩ : ∃ l', Hid (l' = m1 ++ eachL Turn.atoms x.tu.xs) := ⟨_, rfl⟩
   rw [← Hl2.out] at R2
   have HL2 : Hid (wtL m2 = wtL m1 + (wtL (eachL Turn.atoms x.tu.xs))) := by
    show _ = _
    rw [Hl2.out, wtL_append] <;> rfl
   have q1 := X2.cell 1
   simp only [List.getElem?_toArray, List.getElem?_cons_succ, List.getElem?_cons_zero] at q1
   go_wp2_with fail
   refine (rflagL base b x.leaf m2 o1 _ hb (by have := HW.out; have := HL1.out; have := HL2.out; omega) R2).mono ?_
   rintro e w3 ⟨rfl, R3, k⟩
   obtain ⟨m3, Hl3⟩ : ∃ l', Hid (l' = m2 ++ flagL x.leaf) := ⟨_, rfl⟩
   rw [← Hl3.out] at R3
   have HL3 : Hid (wtL m3 = wtL m2 + (1)) := by
    show _ = _
    rw [Hl3.out, wtL_append] <;> rfl
   have X3 := X2.kp k hXb
   have K3 := K2.trans k
   clear q1 k X2 R2
   have q2 := X3.cell 2
   simp only [List.getElem?_toArray, List.getElem?_cons_succ, List.getElem?_cons_zero] at q2
   go_wp2_with fail
   refine (rtextL base b x.key 32 m3 o1 _ hb (by omega) (by have := HW.out; have := HL1.out; have := HL2.out; have := HL3.out; omega) R3).mono ?_
   rintro e w4 ⟨rfl, R4, k⟩
   obtain ⟨m4, Hl4⟩ : ∃ l', Hid (l' = m3 ++ textL 32 x.key) := ⟨_, rfl⟩
   rw [← Hl4.out] at R4
   have HL4 : Hid (wtL m4 = wtL m3 + (6 + x.key.length)) := by
    show _ = _
    rw [Hl4.out, wtL_append]
    simp only [textL, wtL, Atom.wt]; omega
   have X4 := X3.kp k hXb
   have K4 := K3.trans k
   clear q2 k X3 R3
   have q3 := X4.cell 3
   simp only [List.getElem?_toArray, List.getElem?_cons_succ, List.getElem?_cons_zero] at q3
   go_wp2_with fail
   refine (rtextL base b x.val 4096 m4 o1 _ hb (by omega) (by have := HW.out; have := HL1.out; have := HL2.out; have := HL3.out; have := HL4.out; omega) R4).mono ?_
   rintro e w5 ⟨rfl, R5, k⟩
   obtain ⟨m5, Hl5⟩ : ∃ l', Hid (l' = m4 ++ textL 4096 x.val) := ⟨_, rfl⟩
   rw [← Hl5.out] at R5
   have HL5 : Hid (wtL m5 = wtL m4 + (6 + x.val.length)) := by
    show _ = _
    rw [Hl5.out, wtL_append]
    simp only [textL, wtL, Atom.wt]; omega
   have X5 := X4.kp k hXb
   have K5 := K4.trans k
   clear q3 k X4 R4
   have q1 := X5.cell 1
   have q3 := X5.cell 3
   simp only [List.getElem?_toArray, List.getElem?_cons_succ, List.getElem?_cons_zero] at q1 q3
   go_upto_region 13 with fail
   go_cut [] (fun wx => RefL wx b m5 (o1 || (x.leaf && decide (x.val = []))) ∧ Kp base b w5 wx)
   case first =>
    by_cases h1 : x.leaf = true
    ·rw [h1] at q1
     have Hh1 := show Hid (_) from h1
     clear h1
     go_wp2_with fail
     refine (roddL base b _ _ _ _ hb R5).mono ?_
     rintro e w' ⟨rfl, R', k'⟩
     go_wp2_with fail
     go_meet
     case rel => exact ⟨R'.as rfl (by have h : x.leaf = true := Hh1.out; cases hv : x.val <;> simp [h, hv]), k'⟩
    ·rw [Bool.not_eq_true] at h1
     rw [h1] at q1
     have Hh1 := show Hid (_) from h1
     clear h1
     go_wp2_with fail
     refine (roddL base b _ _ _ _ hb R5).mono ?_
     rintro e w' ⟨rfl, R', k'⟩
     go_wp2_with fail
     go_meet
     case rel => exact ⟨R'.as rfl (by have h : x.leaf = false := Hh1.out; simp [h]), k'⟩
   case rest =>
    obtain ⟨R6, k⟩ := hcut
    obtain ⟨o2, Ho2⟩ : ∃ o', Hid (o' = (o1 || (x.leaf && decide (x.val = [])))) := ⟨_, rfl⟩
    rw [← Ho2.out] at R6
    have X6 := X5.kp k hXb
    have K6 := K5.trans k
    clear q1 q3 k X5 R5
    have q0 := X6.cell 0
    have q1 := X6.cell 1
    have q2 := X6.cell 2
    have q3 := X6.cell 3
    simp only [List.getElem?_toArray, List.getElem?_cons_succ, List.getElem?_cons_zero] at q0 q1 q2 q3
    go_upto_region 14 with fail
    have Hfin : Hid (∀ w', RefL w' b m5 (o2 || (!x.leaf && (decide (0 < x.tu.xs.length) || decide (x.key ≠ []) || decide (x.val ≠ [])))) → Kp base b wc w' → RefL w' b (l ++ x.atoms) (odd || x.odd) ∧ Kp base b w w') := by
     intro w' h k
     refine ⟨h.as ?_ ?_, K6.trans k⟩
     ·rw [Hl5.out, Hl4.out, Hl3.out, Hl2.out, Hl1.out]
      simp only [Proof.atoms, nums, digs, intA, flagL, digL, textL, listL, List.map, List.append_assoc, List.cons_append, List.nil_append]
     ·rw [Ho2.out, Ho1.out]
      simp only [Proof.odd, Bool.or_assoc]
    by_cases h1 : x.leaf = true
    ·rw [h1] at q1
     have Hh1 := show Hid (_) from h1
     clear h1
     go_wp2_with fail
     refine (roddL base b _ _ _ _ hb R6).mono ?_
     rintro e w' ⟨rfl, R', k'⟩
     go_wp2
     go_end0
     exact ⟨rfl, Hfin.out _ (R'.as rfl (by have h := Hh1.out; simp [h])) k'⟩
    ·rw [Bool.not_eq_true] at h1
     rw [h1] at q1
     have Hh1 := show Hid (_) from h1
     clear h1
     by_cases h2 : 0 < x.tu.xs.length
     ·have h2b : (0 : Int) < (x.tu.xs.length : Int) := by omega
      have h2d : decide ((0 : Int) < (x.tu.xs.length : Int)) = true := by simpa using h2b
      have h2n : decide (0 < x.tu.xs.length) = true := by simpa using h2
      have Hh2 := show Hid (_) from h2
      clear h2
      go_wp2_with fail
      refine (roddL base b _ _ _ _ hb R6).mono ?_
      rintro e w' ⟨rfl, R', k'⟩
      go_wp2
      go_end0
      exact ⟨rfl, Hfin.out _ (R'.as rfl (by have h : x.leaf = false := Hh1.out; have h2 : 0 < x.tu.xs.length := Hh2.out; simp [h, h2])) k'⟩
     ·have h2b : ¬ (0 : Int) < (x.tu.xs.length : Int) := by omega
      have h2d : decide ((0 : Int) < (x.tu.xs.length : Int)) = false := by simpa using h2b
      have h2n : decide (0 < x.tu.xs.length) = false := by simpa using h2
      have Hh2 := show Hid (_) from h2
      clear h2
      by_cases h3 : x.key = []
      ·rw [h3] at q2
       have Hh3 := show Hid (_) from h3
       clear h3
       go_wp2_with fail
       refine (roddL base b _ _ _ _ hb R6).mono ?_
       rintro e w' ⟨rfl, R', k'⟩
       go_wp2
       go_end0
       exact ⟨rfl, Hfin.out _ (R'.as rfl (by have h : x.leaf = false := Hh1.out; have h2 : ¬ 0 < x.tu.xs.length := Hh2.out; have h3 : x.key = [] := Hh3.out; cases hv : x.val <;> simp [h, h2, h3, hv])) k'⟩
      ·have h3b : x.key.isEmpty = false := by simpa using h3
       have Hh3 := show Hid (_) from h3
       clear h3
       go_wp2_with fail
       refine (roddL base b _ _ _ _ hb R6).mono ?_
       rintro e w' ⟨rfl, R', k'⟩
       go_wp2
       go_end0
       exact ⟨rfl, Hfin.out _ (R'.as rfl (by have h : x.leaf = false := Hh1.out; have h2 : ¬ 0 < x.tu.xs.length := Hh2.out; have h3 : ¬ x.key = [] := Hh3.out; cases hv : x.val <;> simp [h, h2, h3, hv])) k'⟩
set_option maxRecDepth 4000 in
set_option maxHeartbeats 6400000 in
theorem rsight_anyX (base b : Nat) (x : Sight) (l : List Atom) (odd : Bool) (w : World) (hb : base ≤ b) (hL : wtL l + wtL x.atoms ≤ 1099400000000) (R : RefL w b l odd) (g : goods base w x.flds) :
  Calls Tryz.prog 169 #[.pointer (some ⟨b, 0, none⟩), .agg #[.int .i64 x.hd.c, .int .i64 x.hd.h, .int .u64 x.hd.pa, .int .u64 x.hd.tx, .int .u64 x.hd.gu, .int .u64 x.hd.st, .int .u64 x.hd.re, .int .u64 x.hd.be, .int .i64 x.hd.pr, .int .i64 x.ce.h, .int .i64 x.ce.r, .int .i64 x.ce.s, .bool x.ce.has, .int .u64 x.ce.bl, .slice x.ce.fr.la x.ce.fr.xs.length x.ce.fr.lc, .slice x.se.la x.se.xs.length x.se.lc]] w fun e w' => e = .returned (.tuple #[]) ∧ RefL w' b (l ++ x.atoms) (odd || x.odd) ∧ Kp base b w w' := by
 have hlt := R.lt
 have hB0 : base ≤ w.heap.size := Nat.le_trans hb (Nat.le_of_lt hlt)
 have bA : Below w.heap.size w (w.alloc (.cells #[.int .i64 x.hd.c, .int .i64 x.hd.h, .int .u64 x.hd.pa, .int .u64 x.hd.tx, .int .u64 x.hd.gu, .int .u64 x.hd.st, .int .u64 x.hd.re, .int .u64 x.hd.be, .int .i64 x.hd.pr, .int .i64 x.ce.h, .int .i64 x.ce.r, .int .i64 x.ce.s, .bool x.ce.has, .int .u64 x.ce.bl, .slice x.ce.fr.la x.ce.fr.xs.length x.ce.fr.lc, .slice x.se.la x.se.xs.length x.se.lc] 233)) := (Below.refl _ _).alloc (Nat.le_refl _) _
 have X0 := Blk.new w #[.int .i64 x.hd.c, .int .i64 x.hd.h, .int .u64 x.hd.pa, .int .u64 x.hd.tx, .int .u64 x.hd.gu, .int .u64 x.hd.st, .int .u64 x.hd.re, .int .u64 x.hd.be, .int .i64 x.hd.pr, .int .i64 x.ce.h, .int .i64 x.ce.r, .int .i64 x.ce.s, .bool x.ce.has, .int .u64 x.ce.bl, .slice x.ce.fr.la x.ce.fr.xs.length x.ce.fr.lc, .slice x.se.la x.se.xs.length x.se.lc] 233
 have K0 : Kp base b w (w.alloc (.cells #[.int .i64 x.hd.c, .int .i64 x.hd.h, .int .u64 x.hd.pa, .int .u64 x.hd.tx, .int .u64 x.hd.gu, .int .u64 x.hd.st, .int .u64 x.hd.re, .int .u64 x.hd.be, .int .i64 x.hd.pr, .int .i64 x.ce.h, .int .i64 x.ce.r, .int .i64 x.ce.s, .bool x.ce.has, .int .u64 x.ce.bl, .slice x.ce.fr.la x.ce.fr.xs.length x.ce.fr.lc, .slice x.se.la x.se.xs.length x.se.lc] 233)) := Kp.of_below bA hB0
 have R0 := R.below bA
 have hXb : w.heap.size ≠ b := by omega
 have HW : Hid (wtL l + (wtL x.hd.atoms + wtL x.ce.atoms + wtL (benchL x.se.xs)) ≤ 1099400000000) := by
  have h := hL
  simp only [Sight.atoms, wtL_append, nums, digs, intA, flagL, digL, textL, listL, List.map, wtL, Atom.wt, flagB, be_len, List.length_cons, List.length_nil] at h
  show _ ≤ _
  omega
 clear hL
 go_enter Tryz.func169, Tryz.ntmps169
 have q0 := X0.cell 0
 have q1 := X0.cell 1
 have q2 := X0.cell 2
 have q3 := X0.cell 3
 have q4 := X0.cell 4
 have q5 := X0.cell 5
 have q6 := X0.cell 6
 have q7 := X0.cell 7
 have q8 := X0.cell 8
 simp only [List.getElem?_toArray, List.getElem?_cons_succ, List.getElem?_cons_zero] at q0 q1 q2 q3 q4 q5 q6 q7 q8
 go_wp2_with fail
 refine (rheader_anyX base b x.hd l odd _ hb (by have := HW.out; omega) R0 ((g.below K0.below).app.1)).mono ?_
 rintro e w1 ⟨rfl, R1, k⟩
 obtain ⟨m1, Hl1⟩ : ∃ l', Hid (l' = l ++ x.hd.atoms) := ⟨_, rfl⟩
 rw [← Hl1.out] at R1
 have HL1 : Hid (wtL m1 = wtL l + (wtL x.hd.atoms)) := by
  show _ = _
  rw [Hl1.out, wtL_append] <;> rfl
 have X1 := X0.kp k hXb
 have K1 := K0.trans k
 clear q0 q1 q2 q3 q4 q5 q6 q7 q8 k X0 R0
 have q9 := X1.cell 9
 have q10 := X1.cell 10
 have q11 := X1.cell 11
 have q12 := X1.cell 12
 have q13 := X1.cell 13
 have q14 := X1.cell 14
 simp only [List.getElem?_toArray, List.getElem?_cons_succ, List.getElem?_cons_zero] at q9 q10 q11 q12 q13 q14
 go_wp2_with fail
 refine (rcert_anyX base b x.ce m1 odd _ hb (by have := HW.out; have := HL1.out; omega) R1 ((g.below K1.below).app.2.app.1)).mono ?_
 rintro e w2 ⟨rfl, R2, k⟩
 obtain ⟨o1, Ho1⟩ : ∃ o', Hid (o' = (odd || x.ce.odd)) := ⟨_, rfl⟩
 rw [← Ho1.out] at R2
 obtain ⟨m2, Hl2⟩ : ∃ l', Hid (l' = m1 ++ x.ce.atoms) := ⟨_, rfl⟩
 rw [← Hl2.out] at R2
 have HL2 : Hid (wtL m2 = wtL m1 + (wtL x.ce.atoms)) := by
  show _ = _
  rw [Hl2.out, wtL_append] <;> rfl
 have X2 := X1.kp k hXb
 have K2 := K1.trans k
 clear q9 q10 q11 q12 q13 q14 k X1 R1
 have q15 := X2.cell 15
 simp only [List.getElem?_toArray, List.getElem?_cons_succ, List.getElem?_cons_zero] at q15
 go_wp2_with fail
 refine (rbench_anyX base b x.se m2 o1 _ hb (by have := HW.out; have := HL1.out; have := HL2.out; omega) R2 (Lst.held pairF_len ((g.below K2.below).get 15 rfl))).mono ?_
 rintro e w3 ⟨rfl, R3, k⟩
 obtain ⟨o2, Ho2⟩ : ∃ o', Hid (o' = (o1 || benchOdd x.se.xs)) := ⟨_, rfl⟩
 rw [← Ho2.out] at R3
 obtain ⟨m3, Hl3⟩ : ∃ l', Hid (l' = m2 ++ benchL x.se.xs) := ⟨_, rfl⟩
 rw [← Hl3.out] at R3
 have HL3 : Hid (wtL m3 = wtL m2 + (wtL (benchL x.se.xs))) := by
  show _ = _
  rw [Hl3.out, wtL_append] <;> rfl
 have X3 := X2.kp k hXb
 have K3 := K2.trans k
 clear q15 k X2 R2
 go_wp2
 go_end0
 have el : m3 = l ++ x.atoms := by
  rw [Hl3.out, Hl2.out, Hl1.out]
  simp only [Sight.atoms, nums, digs, intA, flagL, digL, textL, listL, List.map, List.append_assoc, List.cons_append, List.nil_append]
 have eo : o2 = (odd || x.odd) := by
  rw [Ho2.out, Ho1.out]
  simp only [Sight.odd, Bool.or_assoc]
 exact ⟨rfl, R3.as el eo, K3⟩
end Go.Proofs.YtackcbpabjhmpaaGreat
