/- BenchTurns: each leads as often as it weighs. -/
import Derived.Test.YthofmfnjlihpcaaBTurnR
namespace Go.Proofs.Ythofmfnjlihpcaa
open Go.RowKit
set_option linter.unusedVariables false
set_option linter.unusedSimpArgs false

/-- Which of n things c speaks of. -/
def pickP (c n : Int) : Int := if c < 0 then -((c + 1).tmod n) else c.tmod n
theorem pickP_in {c n : Int} (hn : 1 ≤ n) : 0 ≤ pickP c n ∧ pickP c n < n := by
  unfold pickP
  split
  · have hq := Int.emod_nonneg (-(c + 1)) (show n ≠ 0 by omega)
    have hq2 := Int.emod_lt_of_pos (-(c + 1)) (show 0 < n by omega)
    have e : -((c + 1).tmod n) = -(c + 1) % n := by rw [← Int.neg_tmod, Int.tmod_eq_emod_of_nonneg (by omega)]
    rw [e]
    exact ⟨hq, hq2⟩
  · have hq := Int.emod_nonneg c (show n ≠ 0 by omega)
    have hq2 := Int.emod_lt_of_pos c (show 0 < n by omega)
    rw [Int.tmod_eq_emod_of_nonneg (by omega)]
    exact ⟨hq, hq2⟩
theorem pickX (c n : Int) (w : World) (hc : -9223372036854775808 ≤ c ∧ c ≤ 9223372036854775807) (hn : 1 ≤ n ∧ n ≤ 9223372036854775807) :
    Calls Try.prog 9 #[.int .i64 c, .int .i64 n] w fun e w' => e = .returned (.int .i64 (pickP c n)) ∧ w = w' := by
  unfold pickP
  by_cases h : c < 0
  · rw [if_pos h]
    go_enter Try.func9, Try.ntmps9
    go_wp2
    go_ret
    exact ⟨rfl, rfl⟩
  · rw [if_neg h]
    have e : c.tmod n = c % n := Int.tmod_eq_emod_of_nonneg (by omega)
    go_enter Try.func9, Try.ntmps9
    go_wp2
    go_ret
    exact ⟨by first | rfl | (rw [e]; rfl), rfl⟩

theorem rises_inj {l : List (Int × Int)} (h : Rises l) {i j : Nat} (hi : i < l.length) (hj : j < l.length) (e : l[i].1 = l[j].1) : i = j := by
  have hp := List.pairwise_iff_getElem.1 h
  rcases Nat.lt_trichotomy i j with hlt | heq | hgt
  · have := hp i j hi hj hlt; omega
  · exact heq
  · have := hp j i hj hi hgt; omega
theorem turnP_at {l : List (Int × Int)} (h : GoodB l) {n : Nat} (hn : n ≤ 65535) : turnP l (n : Int) = (l[leadAt l n]'(leadAt_lt h.pos n)).1 := by
  unfold turnP
  rw [if_pos ⟨fitB_true h, by omega, by omega⟩, Int.toNat_natCast]
  have := leadAt_lt h.pos n
  simp [List.getD, this]

set_option maxHeartbeats 1600000 in
theorem turns_any (la : Option Addr) (ca : Nat) (l : List (Int × Int)) (t fr : Int) (w : World) (hl : l.length ≤ maxLen)
    (hw : ∀ x ∈ l, (-9223372036854775808 ≤ x.1 ∧ x.1 ≤ 9223372036854775807) ∧ -9223372036854775808 ≤ x.2 ∧ x.2 ≤ 9223372036854775807) (ht : -9223372036854775808 ≤ t ∧ t ≤ 9223372036854775807) (hfr : -9223372036854775808 ≤ fr ∧ fr ≤ 9223372036854775807) (h1 : SeatsAt w la l) :
    Calls Try.prog 3 #[.slice la l.length ca, .int .i64 t, .int .i64 fr] w fun e w' => e = .returned (.bool true) ∧ Below w.heap.size w w' := by
  have hll := hl
  unfold maxLen at hl
  by_cases hg : 4096 < l.length
  · have g1' : (4096 : Int) < (l.length : Int) := by omega
    go_enter Try.func3, Try.ntmps3
    go_wp2
    go_ret
    exact ⟨rfl, Below.refl _ _⟩
  have g1' : ¬ (4096 : Int) < (l.length : Int) := by omega
  go_enter Try.func3, Try.ntmps3
  go_wp2_with fail
  refine (turn_any la ca l t w hll h1).mono ?_
  rintro e w1 ⟨rfl, b1⟩
  go_wp2_with fail
  refine (rturn_any la ca l t w1 hll (h1.below b1)).mono ?_
  rintro e w2 ⟨rfl, b2⟩
  have b12 := b1.trans (b2.mono b1.size)
  generalize turnP l t = tt
  go_wp2_with fail
  refine (seated_any la ca l w2 hll hw (h1.below b12)).mono ?_
  rintro e w3 ⟨⟨v, x, rfl, hgd, hox⟩, b3⟩
  obtain ⟨xa, xc, rfl, hsx⟩ := SeatsAt.of_owns hox
  have hB3 := b12.trans (b3.mono b12.size)
  have hx7 := hgd.few
  have hx1 := hgd.pos
  clear hox h1 hw b1 b2 b3 b12
  go_wp2_with fail
  refine (rtotal_any xa xc x w3 (by omega) hgd.w hsx).mono ?_
  rintro e w4 ⟨rfl, b4⟩
  go_wp2_with fail
  refine (pickX t 3000 w4 ht (by omega)).mono ?_
  rintro e w5 ⟨rfl, rfl⟩
  go_wp2_with fail
  refine (turn_any xa xc x (pickP t 3000) w4 (by unfold maxLen; omega) (hsx.below b4)).mono ?_
  rintro e w5 ⟨rfl, b5⟩
  have b45 := b4.trans (b5.mono b4.size)
  go_wp2_with fail
  refine (pickX t 3000 w5 ht (by omega)).mono ?_
  rintro e w6 ⟨rfl, rfl⟩
  go_wp2_with fail
  refine (rturn_any xa xc x (pickP t 3000) w5 (by unfold maxLen; omega) (hsx.below b45)).mono ?_
  rintro e w6 ⟨rfl, b6⟩
  have b46 := b45.trans (b6.mono b45.size)
  have hsx6 := hsx.below b46
  have hB6 := hB3.trans (b46.mono hB3.size)
  clear b4 b5 b45 b6 b46 hsx
  generalize turnP x (pickP t 3000) = tt2
  have hT := totP_pos hgd
  by_cases h60 : 60 < totP x
  · go_wp2
    go_ret
    exact ⟨rfl, hB6⟩
  have h60' : ¬ (60 < totP x) := h60
  have hmk := make_gv x.length (by omega)
  go_wp2_with fail
  refine (pickX fr 3 _ hfr (by omega)).mono ?_
  rintro e w7 ⟨rfl, rfl⟩
  obtain ⟨r1, r2⟩ := pickP_in (c := fr) (n := 3) (by omega)
  obtain ⟨r, hr⟩ : ∃ r : Nat, pickP fr 3 = r := ⟨(pickP fr 3).toNat, by omega⟩
  obtain ⟨T, hTT⟩ : ∃ T : Nat, totP x = T := ⟨(totP x).toNat, by omega⟩
  have HS0 : Hid (((r * T : Nat) : Int) = r * totP x) := by show _ = _; rw [Int.natCast_mul, hTT]
  have HS1 : Hid (((r * T + T : Nat) : Int) = ((r + 1 : Nat) : Int) * totP x) := by show _ = _; rw [Int.natCast_add, Int.natCast_mul, hTT, Int.natCast_add, Int.add_mul]; simp
  have hSe : (T : Int) * (r : Int) = ((r * T : Nat) : Int) := by rw [Int.natCast_mul, Int.mul_comm]
  have hS : r * T ≤ 120 := by
    have h9 := Nat.mul_le_mul (show r ≤ 2 by omega) (show T ≤ 60 by omega)
    omega
  have qS := wrapI (((r * T : Nat) : Int)) (by omega) (by omega)
  have bA : Below w.heap.size w (w6.alloc (.cells (gv (fun _ => 0) x.length) 3)) := hB6.alloc hB6.size _
  have kG := Blk.new w6 (gv (fun _ => 0) x.length) 3
  have hsxA := hsx6.below ((Below.refl w6.heap.size w6).alloc (Nat.le_refl _) (.cells (gv (fun _ => 0) x.length) 3))
  have hgb : w6.heap.size ≤ w6.heap.size := Nat.le_refl _
  have HW : Hid (∀ q, q < x.length → ledF x (r * T + T) q - ledF x (r * T) q = wtAt x q) := fun q hq => by
    rw [led_times hgd (r + 1) (r * T + T) HS1.out q hq, led_times hgd r (r * T) HS0.out q hq, Int.natCast_add, Int.add_mul]
    simp
    omega
  have hTp : 1 ≤ T := by omega
  have hT6 : T ≤ 60 := by omega
  rw [hr, hTT]
  clear HS0 HS1 hr r1 r2 h60 h60' hT hTT hmk
  generalize r * T = S at *
  go_wp2_with fail
  have hzA : Below w6.heap.size w6 (w6.alloc (.cells (gv (fun _ => 0) x.length) 3)) := (Below.refl w6.heap.size w6).alloc (Nat.le_refl _) _
  clear hsxA bA qS hSe
  generalize w6.alloc (.cells (gv (fun _ => 0) x.length) 3) = wA at *
  have HG : Hid (∃ gb, gb = w6.heap.size) := ⟨_, rfl⟩
  generalize hgbe : w6.heap.size = gb at *
  go_loopw [11] (fun iv wv => ∃ i : Nat, i ≤ T ∧ iv = .int .i64 i ∧ Hid (Blk wv gb (gv (fun q => ledF x (S + i) q - ledF x S q) x.length) 3) ∧ Hid (Below w6.heap.size w6 wv)) (fun iv _ => T - (intOf iv).toNat)
  case atStart => exact ⟨0, Nat.zero_le _, rfl, by show Blk _ _ _ _; rw [gv_congr (g' := fun _ => 0) (fun i hi => by simp)]; exact kG, by show Below _ _ _; rw [hgbe]; exact hzA⟩
  case round =>
    obtain ⟨i, hi, rfl, HK, HB0⟩ := hrel
    have hb := HB0.out
    clear kG hzA
    by_cases hlt : i < T
    · have hlt' : (i : Int) < (T : Int) := by omega
      have htu := turn_any xa xc x ((S : Int) + (i : Int)) wr (by unfold maxLen; omega) (hsx6.below hb)
      obtain ⟨j, hjl, hwe, hin, hnx⟩ : ∃ j, ∃ hjl : j < x.length, turnP x ((S : Int) + (i : Int)) = x[j].1 ∧ (∀ k (hk : k < x.length), x[k].1 = x[j].1 → k = j) ∧ ∀ q, ledF x (S + (i + 1)) q = ledF x (S + i) q + if q = j then 1 else 0 :=
        ⟨leadAt x (S + i), leadAt_lt hx1 (S + i), by rw [show (S : Int) + (i : Int) = ((S + i : Nat) : Int) by omega]; exact turnP_at hgd (by omega), fun k hk e => rises_inj hgd.rises hk (leadAt_lt hx1 (S + i)) e, fun q => ledF_succ x (S + i) q⟩
      rw [hwe] at htu
      obtain ⟨who, hwho⟩ : ∃ who, x[j].1 = who := ⟨_, rfl⟩
      rw [hwho] at htu
      simp only [hwho] at hin
      clear hwe
      have hbl : ∀ q, 0 ≤ ledF x (S + i) q - ledF x S q + 200 ∧ ledF x (S + i) q - ledF x S q ≤ 200 := fun q => by
        have h8 := ledF_bound x (S + i) q
        have h9 := ledF_bound x S q
        omega
      have HWH : Hid (x[j].1 = who) := hwho
      clear hwho
      go_wp2_with fail
      refine htu.mono ?_
      rintro e w7 ⟨rfl, b7⟩
      have hB7 := hb.trans (b7.mono hb.size)
      have k7 := HK.out.below b7 HK.out.lt
      clear htu hb HB0 HK b7
      go_wp2_with fail
      go_loopw [13] (fun kv wv => ∃ k : Nat, k ≤ x.length ∧ kv = .int .i64 k ∧ Hid (Blk wv gb (gv (fun q => ledF x (S + i) q - ledF x S q + if q = j ∧ q < k then 1 else 0) x.length) 3) ∧ Hid (Below w6.heap.size w6 wv)) (fun kv _ => x.length - (intOf kv).toNat)
      case atStart => exact ⟨0, Nat.zero_le _, rfl, by show Blk _ _ _ _; rw [gv_congr (g' := fun q => ledF x (S + i) q - ledF x S q) (fun i hi => by simp)]; exact k7, hB7⟩
      case round =>
        obtain ⟨k, hk, rfl, HK, HB0⟩ := hrel
        have hb := HB0.out
        clear k7 hB7
        by_cases hkl : k < x.length
        · have hkl' : (k : Int) < (x.length : Int) := by omega
          obtain ⟨b3, o3, e3, z3, a1, a2⟩ := (hsx6.below hb).one hkl
          have hik := hin k hkl
          have kq := HK.out
          have c0 := (kq.cell k).trans (gv_get _ hkl)
          have cf := kq.frozen k
          have zg := kq.lt
          have hbk := hbl k
          subst e3
          by_cases hkj : k = j
          · subst hkj
            rw [HWH.out] at a1
            have kB := kq.set k (.int .i64 (ledF x (S + i) k - ledF x S k + 1))
            rw [gv_set, gv_congr (g' := fun q => ledF x (S + i) q - ledF x S q + if q = k ∧ q < k + 1 then 1 else 0) (fun q hq => by
              by_cases h : q = k
              · subst h; simp
              · simp [h])] at kB
            have bB := hb.setCell (p := ⟨gb, k, none⟩) (by rw [hgbe]; exact Nat.le_refl _) (.int .i64 (ledF x (S + i) k - ledF x S k + 1))
            simp only [Nat.lt_irrefl, and_false, if_false, Int.add_zero] at c0
            have HKB : Hid (Blk (wr.setCell ⟨gb, k, none⟩ (.int .i64 (ledF x (S + i) k - ledF x S k + 1))) gb (gv (fun q => ledF x (S + i) q - ledF x S q + if q = k ∧ q < k + 1 then 1 else 0) x.length) 3) := kB
            have HBB : Hid (Below w6.heap.size w6 (wr.setCell ⟨gb, k, none⟩ (.int .i64 (ledF x (S + i) k - ledF x S k + 1)))) := bB
            clear kB bB kq HK HB0 hik hin hnx hbl
            generalize ledF x (S + i) k - ledF x S k = L at *
            go_wp2
            exact ⟨⟨k + 1, by omega, by go_num, HKB, HBB⟩, by simp [intOf]; omega⟩
          · have hne : (x[k].1 == who) = false := by
              simp only [beq_eq_false_iff_ne, ne_eq]
              intro e
              exact hkj (hik e)
            have HKB : Hid (Blk wr gb (gv (fun q => ledF x (S + i) q - ledF x S q + if q = j ∧ q < k + 1 then 1 else 0) x.length) 3) := by
              show Blk _ _ _ _
              rw [gv_congr (g' := fun q => ledF x (S + i) q - ledF x S q + if q = j ∧ q < k then 1 else 0) (fun q hq => by
                by_cases h : q = j
                · subst h
                  by_cases h2 : q < k
                  · rw [if_pos ⟨rfl, by omega⟩, if_pos ⟨rfl, h2⟩]
                  · rw [if_neg (fun h3 => by omega), if_neg (fun h3 => h2 h3.2)]
                · simp [h])]
              exact kq
            clear kq HK hik hin hnx hbl c0 cf hbk
            generalize x[k] = y at *
            obtain ⟨yk, yv⟩ := y
            simp only at a1 a2 hne
            go_wp2
            exact ⟨⟨k + 1, by omega, by go_num, HKB, HB0⟩, by simp [intOf]; omega⟩
        · have hkl' : ¬ (k : Int) < (x.length : Int) := by omega
          have HKB : Hid (Blk wr gb (gv (fun q => ledF x (S + (i + 1)) q - ledF x S q) x.length) 3) := by
            show Blk _ _ _ _
            rw [gv_congr (g' := fun q => ledF x (S + i) q - ledF x S q + if q = j ∧ q < k then 1 else 0) (fun q hq => by
              show ledF x (S + (i + 1)) q - ledF x S q = _
              rw [hnx q]
              by_cases h : q = j
              · rw [if_pos h, if_pos ⟨h, by omega⟩]; omega
              · rw [if_neg h, if_neg (fun h3 => h h3.1)]; omega)]
            exact HK.out
          clear HK hin hnx hbl
          go_wp2
          exact ⟨⟨i + 1, by omega, by go_num, HKB, HB0⟩, by simp [intOf]; omega⟩
    · have hge : ¬ (i : Int) < (T : Int) := by omega
      obtain rfl : i = T := by omega
      have k8 : Blk wr gb (gv (wtAt x) x.length) 3 := by
        have := HK.out
        rw [gv_congr (g' := wtAt x) (fun q hq => HW.out q hq)] at this
        exact this
      clear HK HW HB0
      go_wp2_with fail
      generalize wr = wq at *
      go_loopw [14] (fun kv wv => ∃ k : Nat, k ≤ x.length ∧ kv = .int .i64 k ∧ Below wq.heap.size wq wv) (fun kv _ => x.length - (intOf kv).toNat)
      case atStart => exact ⟨0, Nat.zero_le _, rfl, Below.refl _ _⟩
      case round =>
        obtain ⟨k, hk, rfl, hbq⟩ := hrel
        have hB := hb.trans (hbq.mono hb.size)
        by_cases hkl : k < x.length
        · have hkl' : (k : Int) < (x.length : Int) := by omega
          obtain ⟨b3, o3, e3, z3, a1, a2⟩ := (hsx6.below hB).one hkl
          subst e3
          have kq := k8.below hbq k8.lt
          have c0 := (kq.cell k).trans (gv_get _ hkl)
          have zg := kq.lt
          rw [wtAt_of hkl] at c0
          clear kq k8
          generalize x[k] = y at *
          obtain ⟨yk, yv⟩ := y
          simp only at a1 a2 c0
          go_upto_region 25 with fail
          go_quiet (fail)
          go_wp2
          exact ⟨⟨k + 1, by omega, by go_num, below_drewN hbq _⟩, by simp [intOf]; omega⟩
        · have hkl' : ¬ (k : Int) < (x.length : Int) := by omega
          go_wp2
          go_ret
          exact ⟨rfl, hB6.trans (hB.mono hB6.size)⟩
end Go.Proofs.Ythofmfnjlihpcaa
