/- Whose turn it is: the answer's. -/
import Derived.Test.YthofmfnjlihpcaaBTurn
namespace Go.Proofs.Ythofmfnjlihpcaa
open Go.RowKit
set_option linter.unusedVariables false
set_option linter.unusedSimpArgs false

set_option maxHeartbeats 1600000 in
theorem rturn_any (la : Option Addr) (ca : Nat) (l : List (Int × Int)) (t : Int) (w : World) (hl : l.length ≤ maxLen) (h1 : SeatsAt w la l) :
    Calls Try.prog 6 #[.slice la l.length ca, .int .i64 t] w fun e w' => e = .returned (.int .i64 (turnP l t)) ∧ Below w.heap.size w w' := by
  by_cases hg : GoodB l
  rotate_left
  · have HP : Hid (turnP l t = 0) := by show _ = _; unfold turnP; rw [if_neg (fun h => hg ((fitB_iff l).1 h.1))]
    go_enter Try.func6, Try.ntmps6
    go_wp2_with fail
    refine (rfits_any la ca l w hl h1).mono ?_
    rintro e w1 ⟨rfl, b1⟩
    rw [fitB_false hg]
    go_wp2
    go_ret
    exact ⟨by rw [HP.out]; rfl, b1⟩
  by_cases ht : 0 ≤ t ∧ t ≤ 65535
  rotate_left
  · have HP : Hid (turnP l t = 0) := by show _ = _; unfold turnP; rw [if_neg (fun h => ht h.2)]
    go_enter Try.func6, Try.ntmps6
    go_wp2_with fail
    refine (rfits_any la ca l w hl h1).mono ?_
    rintro e w1 ⟨rfl, b1⟩
    rw [fitB_true hg]
    by_cases h0 : t < 0
    · go_wp2
      go_ret
      exact ⟨by rw [HP.out]; rfl, b1⟩
    · have h0d : decide (t < 0) = false := by simpa using h0
      have h6 : 65535 < t := by omega
      go_wp2
      go_ret
      exact ⟨by rw [HP.out]; rfl, b1⟩
  obtain ⟨n, rfl⟩ : ∃ n : Nat, t = n := ⟨t.toNat, by omega⟩
  have hn : n ≤ 65535 := by omega
  have HP : Hid (turnP l (n : Int) = (l.getD (leadAt l n) (0, 0)).1) := by
    show _ = _
    unfold turnP
    rw [if_pos ⟨fitB_true hg, ht⟩, Int.toNat_natCast]
  have hl7 := hg.few
  have hl1 := hg.pos
  have hmk := make_gv l.length (by omega)
  go_enter Try.func6, Try.ntmps6
  go_wp2_with fail
  refine (rfits_any la ca l w hl h1).mono ?_
  rintro e w1 ⟨rfl, b1⟩
  rw [fitB_true hg]
  have hn0 : ¬ ((n : Int) < 0) := by omega
  have hn6 : ¬ (65535 < (n : Int)) := by omega
  clear ht
  go_wp2_with fail
  refine (rtotal_any la ca l _ (by omega) hg.w (h1.below b1)).mono ?_
  rintro e w2 ⟨rfl, b2⟩
  have b12 := b1.trans (b2.mono b1.size)
  have bA : Below w.heap.size w (w2.alloc (.cells (gv (fun _ => 0) l.length) 3)) := b12.alloc b12.size _
  have kG := Blk.new w2 (gv (fun _ => 0) l.length) 3
  have hgb : w.heap.size ≤ w2.heap.size := b12.size
  obtain ⟨t1, t2⟩ := totP_bound hg.w
  have t3 : totP l ≤ 1099511627775 * 7 := by omega
  clear t2 b1 b2 b12
  go_wp2_with fail
  clear hmk hn0 hn6
  generalize w2.heap.size = gb at *
  go_loopw [8, 9] (fun fv iv wv => ∃ (k f : Nat), k ≤ n + 1 ∧ iv = .int .i64 k ∧ fv = .int .i64 f ∧ Hid (k ≠ 0 → f = leadAt l (k - 1)) ∧ Hid (Blk wv gb (gv (ledF l k) l.length) 3) ∧ Below w.heap.size w wv) (fun _ iv _ => n + 1 - (intOf iv).toNat)
  case atStart => exact ⟨0, 0, Nat.zero_le _, rfl, rfl, fun h => absurd rfl h, kG, bA⟩
  case round =>
    obtain ⟨k, f0, hk, rfl, rfl, HF0, HK, hb⟩ := hrel
    by_cases hlt : k < n + 1
    · have hlt' : (k : Int) ≤ (n : Int) := by omega
      clear HF0 kG bA
      go_wp2_with fail
      generalize wr = wq at *
      go_loopw [8, 10] (fun fv iv wv => ∃ (i f : Nat), 1 ≤ i ∧ i ≤ l.length ∧ iv = .int .i64 i ∧ fv = .int .i64 f ∧ f < i ∧ Hid (f = argN (fun i => ((k : Int) + 1) * wtAt l i - ledF l k i * totP l) (i - 1)) ∧ Below wq.heap.size wq wv) (fun _ iv _ => l.length - (intOf iv).toNat)
      case atStart => exact ⟨1, 0, Nat.le_refl _, hl1, rfl, rfl, by omega, rfl, Below.refl _ _⟩
      case round =>
        obtain ⟨i, f, hi1, hi2, rfl, rfl, hfi, HF, hbq⟩ := hrel
        have hB := hb.trans (hbq.mono hb.size)
        have kq := HK.out.below hbq HK.out.lt
        have zg := kq.lt
        by_cases hil : i < l.length
        · have hil' : (i : Int) < (l.length : Int) := by omega
          have hfl : f < l.length := by omega
          have hfl' : (f : Int) < (l.length : Int) := by omega
          obtain ⟨b3, o3, e3, z3, a1, a2⟩ := (h1.below hB).one hil
          obtain ⟨b4, o4, e4, z4, a3, a4⟩ := (h1.below hB).one hfl
          subst e3
          injection e4 with e4
          injection e4 with e4 e5
          rw [← e4, ← e5] at a3 a4
          clear e4 e5 z4 a1 a3
          have mi := (hg.may _ (List.getElem_mem hil)).2
          have mf := (hg.may _ (List.getElem_mem hfl)).2
          have c1 := (kq.cell i).trans (gv_get _ hil)
          have c2 := (kq.cell f).trans (gv_get _ hfl)
          obtain ⟨l1, l2⟩ := ledF_bound l k i
          obtain ⟨l3, l4⟩ := ledF_bound l k f
          have HV : Hid (argN (fun i => ((k : Int) + 1) * wtAt l i - ledF l k i * totP l) (i + 1 - 1) = if ((k : Int) + 1) * l[f].2 - ledF l k f * totP l < ((k : Int) + 1) * l[i].2 - ledF l k i * totP l then i else f) := by
            show _ = _
            obtain ⟨j, rfl⟩ : ∃ j, i = j + 1 := ⟨i - 1, by omega⟩
            have h9 := HF.out
            rw [Nat.add_sub_cancel] at h9
            rw [Nat.add_sub_cancel, ← wtAt_of hil, ← wtAt_of hfl]
            unfold argN
            rw [← h9]
          clear HF kq
          generalize l[i].2 = xv at *
          generalize l[f].2 = yv at *
          generalize ledF l k i = xl at *
          generalize ledF l k f = yl at *
          have HT : Hid (0 ≤ totP l ∧ totP l ≤ 1099511627775 * 7) := ⟨t1, t3⟩
          have p1 : 0 ≤ ((k : Int) + 1) * xv := Int.mul_nonneg (by omega) (by omega)
          have p2 : ((k : Int) + 1) * xv ≤ 65536 * 1099511627775 := Int.mul_le_mul (by omega) (by omega) (by omega) (by omega)
          have p3 : 0 ≤ xl * totP l := Int.mul_nonneg l1 t1
          have p4 : xl * totP l ≤ 65536 * (1099511627775 * 7) := Int.mul_le_mul (by omega) (by omega) (by omega) (by omega)
          have p5 : 0 ≤ ((k : Int) + 1) * yv := Int.mul_nonneg (by omega) (by omega)
          have p6 : ((k : Int) + 1) * yv ≤ 65536 * 1099511627775 := Int.mul_le_mul (by omega) (by omega) (by omega) (by omega)
          have p7 : 0 ≤ yl * totP l := Int.mul_nonneg l3 t1
          have p8 : yl * totP l ≤ 65536 * (1099511627775 * 7) := Int.mul_le_mul (by omega) (by omega) (by omega) (by omega)
          have q1 := wrapI (((k : Int) + 1) * xv) (by omega) (by omega)
          have q2 := wrapI (xl * totP l) (by omega) (by omega)
          have q3 := wrapI (((k : Int) + 1) * yv) (by omega) (by omega)
          have q4 := wrapI (yl * totP l) (by omega) (by omega)
          have q5 := wrapI (((k : Int) + 1) * xv - xl * totP l) (by omega) (by omega)
          have q6 := wrapI (((k : Int) + 1) * yv - yl * totP l) (by omega) (by omega)
          have q7 := wrapI ((k : Int) + 1) (by omega) (by omega)
          by_cases hgt : ((k : Int) + 1) * yv - yl * totP l < ((k : Int) + 1) * xv - xl * totP l
          · have HN : Hid (i = argN (fun i => ((k : Int) + 1) * wtAt l i - ledF l k i * totP l) (i + 1 - 1)) := by show _ = _; rw [HV.out, if_pos hgt]
            clear HV
            go_upto_region 14 with fail
            go_quiet (fail)
            go_wp2
            exact ⟨⟨i + 1, i, by omega, by omega, by go_num, rfl, by omega, HN, below_drewN hbq _⟩, by simp [intOf]; omega⟩
          · have hgd : decide (((k : Int) + 1) * yv - yl * totP l < ((k : Int) + 1) * xv - xl * totP l) = false := by simpa using hgt
            have HN : Hid (f = argN (fun i => ((k : Int) + 1) * wtAt l i - ledF l k i * totP l) (i + 1 - 1)) := by show _ = _; rw [HV.out, if_neg hgt]
            clear HV
            go_upto_region 14 with fail
            go_quiet (fail)
            go_wp2
            exact ⟨⟨i + 1, f, by omega, by omega, by go_num, rfl, by omega, HN, below_drewN hbq _⟩, by simp [intOf]; omega⟩
        · have hil' : ¬ (i : Int) < (l.length : Int) := by omega
          obtain rfl : i = l.length := by omega
          have HL : Hid (f = leadAt l k) := HF.out
          obtain ⟨l3, l4⟩ := ledF_bound l k f
          have c2 := (kq.cell f).trans (gv_get _ hfi)
          have cf := kq.frozen f
          have hfl' : (f : Int) < (l.length : Int) := by omega
          have kB := kq.set f (.int .i64 (ledF l k f + 1))
          have hnx : (fun j => if j = f then ledF l k f + 1 else ledF l k j) = ledF l (k + 1) := by
            funext j
            rw [ledF_succ, ← HL.out]
            split
            · rename_i h; rw [h]
            · simp
          rw [gv_set, hnx] at kB
          have bB := hB.setCell (p := ⟨gb, f, none⟩) hgb (.int .i64 (ledF l k f + 1))
          have HB : Hid (Blk (wr.setCell ⟨gb, f, none⟩ (.int .i64 (ledF l k f + 1))) gb (gv (ledF l (k + 1)) l.length) 3) := kB
          clear kB kq hnx HF
          generalize ledF l k f = yl at *
          go_wp2
          exact ⟨⟨k + 1, f, by omega, by go_num, rfl, fun _ => HL.out, HB, bB⟩, by simp [intOf]; omega⟩
    · have hge : ¬ (k : Int) ≤ (n : Int) := by omega
      obtain rfl : k = n + 1 := by omega
      have hfe := HF0.out (by omega)
      rw [Nat.add_sub_cancel] at hfe
      have hll := leadAt_lt hl1 n
      rw [← hfe] at hll
      obtain ⟨b3, o3, e3, z3, a1, a2⟩ := (h1.below hb).one hll
      subst e3
      have HR : Hid (turnP l (n : Int) = l[f0].1) := by
        show _ = _
        rw [HP.out, ← hfe]
        simp [List.getD, hll]
      clear HF0 HK HP hfe
      generalize l[f0] = x at *
      obtain ⟨xk, xv⟩ := x
      simp only at a1 a2
      have hll' : (f0 : Int) < (l.length : Int) := by omega
      go_wp2
      go_ret
      exact ⟨by rw [HR.out]; rfl, hb⟩
end Go.Proofs.Ythofmfnjlihpcaa
