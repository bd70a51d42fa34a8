/- Whose turn it is: the program's and the answer's. -/
import Derived.Test.YthofmfnjlihpcaaBTurnP
import Derived.Test.YthofmfnjlihpcaaBFits
import Derived.Laws.OwnMore
namespace Go.Proofs.Ythofmfnjlihpcaa
open Go.RowKit
set_option linter.unusedVariables false
set_option linter.unusedSimpArgs false

/-- Cells of n numbers. -/
def gv (g : Nat → Int) (n : Nat) : Array Value := ((List.range n).map fun i => Value.int .i64 (g i)).toArray
theorem gv_get (g : Nat → Int) {n i : Nat} (h : i < n) : (gv g n)[i]? = some (.int .i64 (g i)) := by simp [gv, h]
theorem gv_size (g : Nat → Int) (n : Nat) : (gv g n).size = n := by simp [gv]
theorem gv_congr {g g' : Nat → Int} {n : Nat} (h : ∀ i, i < n → g i = g' i) : gv g n = gv g' n := by
  unfold gv
  congr 1
  refine List.map_congr_left fun i hi => ?_
  rw [h i (by simpa using hi)]
theorem gv_set (g : Nat → Int) (n i : Nat) (x : Int) : (gv g n).setIfInBounds i (.int .i64 x) = gv (fun j => if j = i then x else g j) n := by
  apply Array.ext
  · simp [gv]
  · intro j h1 h2
    simp only [gv, Array.getElem_setIfInBounds, List.getElem_toArray, List.getElem_map, List.getElem_range]
    by_cases h : j = i
    · subst h; simp
    · simp [h, Ne.symm h]
theorem made_gv (n : Nat) : madeCells (Value.int .i64 0).cells (n * 1) = gv (fun _ => 0) n := by
  apply Array.ext
  · simp [madeCells, gv]
  · intro i h1 h2
    simp [madeCells, gv, Value.cells, Nat.mod_one]
theorem make_gv (n : Nat) (hn : n ≤ 2048) (w : World) : (Instr.makeSlice 27 (.int .i64 n) (.int .i64 n)).run Try.prog w = .ok (.slice (some ⟨w.heap.size, 0, none⟩) n n) (w.alloc (.cells (gv (fun _ => 0) n) 3)) := by
  obtain ⟨i0, hinf, hz0, hz1, hz2⟩ := info_parts infoInt
  have := run_make (P := Try.prog) w 27 3 i0 (.int .i64 0) Try.underlying27 hinf hz0 .i64 .i64 n n (by omega) (Int.le_refl _) (by rw [hz2]; omega) (by omega)
  rw [this, hz1]
  simp only [Int.toNat_natCast]
  rw [made_gv]

theorem Blk.drewN {w : World} {b : Nat} {cs : Array Value} {t : TypeId} (h : Blk w b cs t) (n : Nat) : Blk (w.drewN n) b cs t := h.below (below_drewN (Below.refl w.heap.size w) n) h.lt

/-- Under way: the first i have gained. -/
def gUp (l : List (Int × Int)) (g : Nat → Int) (i j : Nat) : Int := if j < i then g j + wtAt l j else g j
theorem gUp_step (l : List (Int × Int)) (g : Nat → Int) (i : Nat) : (fun j => if j = i then g i + wtAt l i else gUp l g i j) = gUp l g (i + 1) := by
  funext j
  unfold gUp
  by_cases h : j = i
  · subst h; simp
  · simp only [if_neg h]
    by_cases h2 : j < i
    · rw [if_pos h2, if_pos (by omega)]
    · rw [if_neg h2, if_neg (by omega)]

set_option maxHeartbeats 1600000 in
theorem gain_any (la : Option Addr) (ca gb gc : Nat) (l : List (Int × Int)) (g : Nat → Int) (w0 w : World) (hG : GoodB l) (hg : ∀ i, i < l.length → -1152921504606846976 ≤ g i ∧ g i ≤ 1152921504606846976)
    (h1 : SeatsAt w0 la l) (hb0 : Below w0.heap.size w0 w) (hgb : w0.heap.size ≤ gb) (kG : Blk w gb (gv g l.length) 3) :
    Calls Try.prog 14 #[.slice la l.length ca, .slice (some ⟨gb, 0, none⟩) l.length gc] w fun e w' =>
      e = .returned (.int .i64 (argN (fun i => g i + wtAt l i) (l.length - 1))) ∧ Blk w' gb (gv (fun i => g i + wtAt l i) l.length) 3 ∧ Below w0.heap.size w0 w' := by
  have hl7 := hG.few
  have hl1 := hG.pos
  go_enter Try.func14, Try.ntmps14
  go_wp2_with fail
  go_loopw [5, 10] (fun fv iv wv => ∃ (i f : Nat), i ≤ l.length ∧ iv = .int .i64 i ∧ fv = .int .i64 f ∧ (f < i ∨ f = 0) ∧ Hid (f = argN (fun i => g i + wtAt l i) (i - 1)) ∧ Hid (Blk wv gb (gv (gUp l g i) l.length) 3) ∧ Below w0.heap.size w0 wv) (fun _ iv _ => l.length - (intOf iv).toNat)
  case atStart => exact ⟨0, 0, Nat.zero_le _, rfl, rfl, .inr rfl, rfl, by show Blk _ _ _ _; rw [gv_congr (g' := g) (fun i hi => by simp [gUp])]; exact kG, hb0⟩
  case round =>
    obtain ⟨i, f, hi, rfl, rfl, hf, HF, HK, hb⟩ := hrel
    by_cases hlt : i < l.length
    · have hlt' : (i : Int) < (l.length : Int) := by omega
      obtain ⟨b1, o1, e1, z1, a1, a2⟩ := (h1.below hb).one hlt
      subst e1
      have hm := (hG.may _ (List.getElem_mem hlt)).2
      have hwt := wtAt_of hlt
      have hgi := hg i hlt
      generalize l[i] = x at *
      obtain ⟨xk, xv⟩ := x
      simp only at a1 a2 hm hwt
      have bA : Below w0.heap.size w0 (wr.alloc (.cells #[.int .i64 xk, .int .i64 xv] 29)) := hb.alloc hb.size _
      have kS := Blk.new wr #[.int .i64 xk, .int .i64 xv] 29
      have kA := HK.out.alloc (.cells #[.int .i64 xk, .int .i64 xv] 29)
      go_upto_region 5 with fail
      have hne : gb < wr.heap.size := HK.out.lt
      clear HK a1 a2
      generalize wr.alloc (.cells #[.int .i64 xk, .int .i64 xv] 29) = wA at *
      have y1 := (kS.cell 1).trans rfl
      have zs := kS.lt
      have c0 := (kA.cell i).trans (gv_get _ hlt)
      have cf := kA.frozen i
      have e0 : gUp l g i i = g i := by simp [gUp]
      rw [e0] at c0
      have zg := kA.lt
      have kB : Blk (wA.setCell ⟨gb, i, none⟩ (.int .i64 (g i + xv))).drew gb (gv (gUp l g (i + 1)) l.length) 3 := by
        have := kA.set i (.int .i64 (g i + xv))
        rw [gv_set, ← hwt, gUp_step, hwt] at this
        exact this.drew
      have bB : Below w0.heap.size w0 (wA.setCell ⟨gb, i, none⟩ (.int .i64 (g i + xv))).drew := (bA.setCell (p := ⟨gb, i, none⟩) hgb _).drew
      go_region
      have hfl : f < l.length := by omega
      have hgf := hg f hfl
      have hmf := (hG.may _ (List.getElem_mem hfl)).2
      have hwf := wtAt_of hfl
      rw [← hwf] at hmf
      clear c0 cf y1 kA kS hwf
      generalize (wA.setCell ⟨gb, i, none⟩ (.int .i64 (g i + xv))).drew = wB at *
      have c1 := (kB.cell i).trans (gv_get _ hlt)
      have c2 := (kB.cell f).trans (gv_get _ hfl)
      have e1 : gUp l g (i + 1) i = g i + xv := by simp [gUp, hwt]
      have e2 : gUp l g (i + 1) f = g f + wtAt l f := by unfold gUp; rw [if_pos (by omega)]
      rw [e1] at c1
      rw [e2] at c2
      have zB := kB.lt
      have HK : Hid (Blk wB gb (gv (gUp l g (i + 1)) l.length) 3) := kB
      have HV : Hid (∀ j, argN (fun i => g i + wtAt l i) (j + 1) = if g (argN (fun i => g i + wtAt l i) j) + wtAt l (argN (fun i => g i + wtAt l i) j) < g (j + 1) + wtAt l (j + 1) then j + 1 else argN (fun i => g i + wtAt l i) j) := fun j => rfl
      by_cases hgt : g f + wtAt l f < g i + xv
      · have HN : Hid (i = argN (fun i => g i + wtAt l i) (i + 1 - 1)) := by
          show _ = _
          rw [Nat.add_sub_cancel]
          cases i with
          | zero =>
            exfalso
            have : f = 0 := by omega
            subst this
            omega
          | succ j =>
            have h9 := HF.out
            rw [Nat.add_sub_cancel] at h9
            rw [HV.out j, ← h9, if_pos (by rw [hwt]; exact hgt)]
        clear HF HV kB e0 e1 e2 hwt
        go_upto_region 6 with fail
        go_quiet (fail)
        go_wp2
        exact ⟨⟨i + 1, i, by omega, by go_num, rfl, by omega, HN, HK.out.drewN _, below_drewN bB _⟩, by simp [intOf]; omega⟩
      · have hgd : decide (g f + wtAt l f < g i + xv) = false := by simpa using hgt
        have HN : Hid (f = argN (fun i => g i + wtAt l i) (i + 1 - 1)) := by
          show _ = _
          rw [Nat.add_sub_cancel]
          cases i with
          | zero =>
            have : f = 0 := by omega
            subst this
            rfl
          | succ j =>
            have h9 := HF.out
            rw [Nat.add_sub_cancel] at h9
            rw [HV.out j, ← h9, if_neg (by rw [hwt]; exact hgt)]
        clear HF HV kB e0 e1 e2 hwt
        go_upto_region 6 with fail
        go_quiet (fail)
        go_wp2
        exact ⟨⟨i + 1, f, by omega, by go_num, rfl, by omega, HN, HK.out.drewN _, below_drewN bB _⟩, by simp [intOf]; omega⟩
    · have hge : ¬ (i : Int) < (l.length : Int) := by omega
      obtain rfl : i = l.length := by omega
      have HK2 : Hid (Blk wr gb (gv (fun i => g i + wtAt l i) l.length) 3) := by
        have := HK.out
        rw [gv_congr (g' := fun i => g i + wtAt l i) (fun i hi => by simp [gUp, hi])] at this
        exact this
      clear HK
      go_wp2
      go_ret
      exact ⟨by rw [← HF.out]; rfl, HK2.out, hb⟩

/-- What a seat has gained behind n turns. -/
def gainN (l : List (Int × Int)) (n i : Nat) : Int := (n : Int) * wtAt l i - ledF l n i * totP l
theorem gainN_up (l : List (Int × Int)) (n : Nat) : (fun i => gainN l n i + wtAt l i) = fun i => ((n : Int) + 1) * wtAt l i - ledF l n i * totP l := by
  funext i
  unfold gainN
  rw [Int.add_mul]
  omega
theorem gainN_lead (l : List (Int × Int)) (n : Nat) : argN (fun i => gainN l n i + wtAt l i) (l.length - 1) = leadAt l n := by rw [gainN_up]; rfl
theorem gainN_next (l : List (Int × Int)) (n : Nat) : (fun j => if j = leadAt l n then gainN l n (leadAt l n) + wtAt l (leadAt l n) - totP l else gainN l n j + wtAt l j) = gainN l (n + 1) := by
  funext j
  unfold gainN
  rw [ledF_succ, Int.natCast_add]
  by_cases h : j = leadAt l n
  · subst h
    simp only [if_true]
    rw [Int.add_mul, Int.add_mul]
    simp
    omega
  · simp only [if_neg h]
    rw [Int.add_mul]
    simp
    omega
theorem gainN_bound {l : List (Int × Int)} (h : GoodB l) {n i : Nat} (hn : n ≤ 65536) (hi : i < l.length) : -1152921504606846976 ≤ gainN l n i ∧ gainN l n i ≤ 1152921504606846976 := by
  have hm := (h.may _ (List.getElem_mem hi)).2
  rw [← wtAt_of hi] at hm
  obtain ⟨t1, t2⟩ := totP_bound h.w
  have h7 := h.few
  obtain ⟨l1, l2⟩ := ledF_bound l n i
  unfold gainN
  have p1 : 0 ≤ (n : Int) * wtAt l i := Int.mul_nonneg (by omega) (by omega)
  have p2 : (n : Int) * wtAt l i ≤ 65536 * 1099511627775 := Int.mul_le_mul (by omega) (by omega) (by omega) (by omega)
  have p3 : 0 ≤ ledF l n i * totP l := Int.mul_nonneg l1 t1
  have p4 : ledF l n i * totP l ≤ 65536 * (1099511627775 * 7) := Int.mul_le_mul (by omega) (by omega) (by omega) (by omega)
  omega
/-- Who leads in the turn t. -/
noncomputable def turnP (l : List (Int × Int)) (t : Int) : Int := if fitB l = true ∧ 0 ≤ t ∧ t ≤ 65535 then (l.getD (leadAt l t.toNat) (0, 0)).1 else 0

set_option maxHeartbeats 1600000 in
theorem turn_any (la : Option Addr) (ca : Nat) (l : List (Int × Int)) (t : Int) (w : World) (hl : l.length ≤ maxLen) (h1 : SeatsAt w la l) :
    Calls Try.prog 5 #[.slice la l.length ca, .int .i64 t] w fun e w' => e = .returned (.int .i64 (turnP l t)) ∧ Below w.heap.size w w' := by
  by_cases hg : GoodB l
  rotate_left
  · have HP : Hid (turnP l t = 0) := by show _ = _; unfold turnP; rw [if_neg (fun h => hg ((fitB_iff l).1 h.1))]
    go_enter Try.func5, Try.ntmps5
    go_wp2_with fail
    refine (fits_any la ca l w hl h1).mono ?_
    rintro e w1 ⟨rfl, b1⟩
    rw [fitB_false hg]
    go_wp2
    go_ret
    exact ⟨by rw [HP.out]; rfl, b1⟩
  by_cases ht : 0 ≤ t ∧ t ≤ 65535
  rotate_left
  · have HP : Hid (turnP l t = 0) := by show _ = _; unfold turnP; rw [if_neg (fun h => ht h.2)]
    go_enter Try.func5, Try.ntmps5
    go_wp2_with fail
    refine (fits_any la ca l w hl h1).mono ?_
    rintro e w1 ⟨rfl, b1⟩
    rw [fitB_true hg]
    by_cases h0 : t < 0
    · go_wp2
      go_ret
      exact ⟨by rw [HP.out]; rfl, b1⟩
    · have h0d : decide (t < 0) = false := by simpa using h0
      have h6 : 65535 < t := by omega
      go_wp2
      go_ret
      exact ⟨by rw [HP.out]; rfl, b1⟩
  obtain ⟨n, rfl⟩ : ∃ n : Nat, t = n := ⟨t.toNat, by omega⟩
  have hn : n ≤ 65535 := by omega
  have HP : Hid (turnP l (n : Int) = (l.getD (leadAt l n) (0, 0)).1) := by
    show _ = _
    unfold turnP
    rw [if_pos ⟨fitB_true hg, ht⟩, Int.toNat_natCast]
  have hl7 := hg.few
  have hl1 := hg.pos
  have hmk := make_gv l.length (by omega)
  go_enter Try.func5, Try.ntmps5
  go_wp2_with fail
  refine (fits_any la ca l w hl h1).mono ?_
  rintro e w1 ⟨rfl, b1⟩
  rw [fitB_true hg]
  have bA : Below w.heap.size w (w1.alloc (.cells (gv (fun _ => 0) l.length) 3)) := b1.alloc b1.size _
  have kG := Blk.new w1 (gv (fun _ => 0) l.length) 3
  have hn0 : ¬ ((n : Int) < 0) := by omega
  have hn6 : ¬ (65535 < (n : Int)) := by omega
  clear ht
  go_wp2_with fail
  refine (total_any la ca l _ (by omega) hg.w (h1.below bA)).mono ?_
  rintro e w2 ⟨rfl, b2⟩
  have hB2 := bA.trans (b2.mono bA.size)
  have k2 := kG.below b2 kG.lt
  have hgb : w.heap.size ≤ w1.heap.size := b1.size
  clear bA b2 kG hmk
  obtain ⟨t1, t2⟩ := totP_bound hg.w
  have t3 : totP l ≤ 1099511627775 * 7 := by omega
  clear t2
  generalize w1.heap.size = gb at *
  clear b1
  go_wp2_with fail
  go_loopw [7, 26] (fun fv iv wv => ∃ (k f : Nat), k ≤ n + 1 ∧ iv = .int .i64 k ∧ fv = .int .i64 f ∧ Hid (k ≠ 0 → f = leadAt l (k - 1)) ∧ Hid (Blk wv gb (gv (gainN l k) l.length) 3) ∧ Below w.heap.size w wv) (fun _ iv _ => n + 1 - (intOf iv).toNat)
  case atStart => exact ⟨0, 0, Nat.zero_le _, rfl, rfl, fun h => absurd rfl h, by show Blk _ _ _ _; rw [gv_congr (g' := fun _ => 0) (fun i hi => by simp [gainN, ledF])]; exact k2, hB2⟩
  case round =>
    obtain ⟨k, f, hk, rfl, rfl, HF, HK, hb⟩ := hrel
    by_cases hlt : k < n + 1
    · have hlt' : (k : Int) < (n : Int) + 1 := by omega
      have hgn := gain_any la ca gb l.length l (gainN l k) w wr hg (fun i hi => gainN_bound hg (by omega) hi) h1 hb hgb HK.out
      rw [gainN_lead] at hgn
      have hll := leadAt_lt hl1 k
      have hbd := gainN_bound hg (n := k) (by omega) hll
      have hmw := (hg.may _ (List.getElem_mem hll)).2
      rw [← wtAt_of hll] at hmw
      have hnx := gainN_next l k
      have HL : Hid (leadAt l k = leadAt l (k + 1 - 1)) := rfl
      generalize leadAt l k = j at *
      clear HF HK
      go_wp2_with fail
      refine hgn.mono ?_
      rintro e w3 ⟨rfl, k3, b3⟩
      clear hgn
      have c0 := (k3.cell j).trans (gv_get _ hll)
      have cf := k3.frozen j
      have zg := k3.lt
      have hll' : (j : Int) < (l.length : Int) := by omega
      have kB := k3.set j (.int .i64 (gainN l k j + wtAt l j - totP l))
      rw [gv_set, hnx] at kB
      have bB := b3.setCell (p := ⟨gb, j, none⟩) hgb (.int .i64 (gainN l k j + wtAt l j - totP l))
      have HB : Hid (Blk (w3.setCell ⟨gb, j, none⟩ (.int .i64 (gainN l k j + wtAt l j - totP l))) gb (gv (gainN l (k + 1)) l.length) 3) := kB
      clear kB k3 hnx
      generalize gainN l k j = G at *
      generalize wtAt l j = W at *
      go_wp2
      exact ⟨⟨k + 1, j, by omega, by go_num, rfl, fun _ => HL.out, HB, bB⟩, by simp [intOf]; omega⟩
    · have hge : ¬ (k : Int) < (n : Int) + 1 := by omega
      obtain rfl : k = n + 1 := by omega
      have hfe := HF.out (by omega)
      rw [Nat.add_sub_cancel] at hfe
      have hll := leadAt_lt hl1 n
      rw [← hfe] at hll
      obtain ⟨b3, o3, e3, z3, a1, a2⟩ := (h1.below hb).one hll
      subst e3
      have HR : Hid (turnP l (n : Int) = l[f].1) := by
        show _ = _
        rw [HP.out, ← hfe]
        simp [List.getD, hll]
      clear HF HK HP hfe
      generalize l[f] = x at *
      obtain ⟨xk, xv⟩ := x
      simp only at a1 a2
      have hll' : (f : Int) < (l.length : Int) := by omega
      go_wp2
      go_ret
      exact ⟨by rw [HR.out]; rfl, hb⟩
end Go.Proofs.Ythofmfnjlihpcaa
