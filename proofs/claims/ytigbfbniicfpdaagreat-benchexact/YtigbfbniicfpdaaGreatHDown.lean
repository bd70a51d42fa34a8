/- The heap of seats: down. -/
import Derived.Test.YtigbfbniicfpdaaGreatHUp
import Derived.Deep.CutBlock
namespace Go.Proofs.YtigbfbniicfpdaaGreat
open Go.RowKit
set_option linter.unusedVariables false
set_option linter.unusedSimpArgs false

/-- The child that gives way first. -/
def kidP (l : List (Int × Int)) (i n : Nat) : Nat := if 2 * i + 2 < n ∧ lessP (at2 l (2 * i + 2)) (at2 l (2 * i + 1)) = true then 2 * i + 2 else 2 * i + 1
theorem kidP_le (l : List (Int × Int)) {i n : Nat} (h : 2 * i + 1 < n) : kidP l i n < n ∧ i < kidP l i n := by unfold kidP; split <;> omega

/-- A seat goes down among the first n. -/
def downP (l : List (Int × Int)) (i n : Nat) : List (Int × Int) := if h : 2 * i + 1 < n then (if lessP (at2 l (kidP l i n)) (at2 l i) = true then downP (swapL l i (kidP l i n)) (kidP l i n) n else l) else l
termination_by n - i
decreasing_by have := kidP_le l h; omega
theorem downP_end {l : List (Int × Int)} {i n : Nat} (h : ¬ 2 * i + 1 < n) : downP l i n = l := by rw [downP, dif_neg h]
theorem downP_stay {l : List (Int × Int)} {i n : Nat} (h : lessP (at2 l (kidP l i n)) (at2 l i) = false) : downP l i n = l := by
  rw [downP]
  split
  · rw [h]; rfl
  · rfl
theorem downP_go {l : List (Int × Int)} {i n : Nat} (h0 : 2 * i + 1 < n) (h : lessP (at2 l (kidP l i n)) (at2 l i) = true) : downP l i n = downP (swapL l i (kidP l i n)) (kidP l i n) n := by
  rw [downP, dif_pos h0, if_pos h]

set_option maxRecDepth 8000 in
set_option maxHeartbeats 3200000 in
theorem down_any (g sc : Nat) (l : List (Int × Int)) (n : Nat) (h0n : 0 < n) (hnl : n ≤ l.length) (hn : l.length ≤ 100) (base hb mb : Nat) (w : World) (H : HpAt w base hb mb l (some ⟨g, 0, none⟩) sc) :
    Calls Tryz.prog 60 #[.iface 35 (.pointer (some ⟨hb, 0, none⟩)), .int .i64 0, .int .i64 n] w fun e w' => (∃ z, e = .returned (.bool z)) ∧ HpAt w' base hb mb (downP l 0 n) (some ⟨g, 0, none⟩) sc ∧ Hk base mb w w' := by
  go_enter Tryz.func60, Tryz.ntmps60
  go_upto_block 0 with fail
  go_cut [7] (fun iv wx => ∃ k : Nat, iv = .int .i64 k ∧ k ≤ 100 ∧ HpAt wx base hb mb (downP l 0 n) (some ⟨g, 0, none⟩) sc ∧ Hk base mb w wx)
  case rest =>
    obtain ⟨k, rfl, hk, G, K⟩ := hcut
    generalize wc = wx at *
    go_wp2
    go_ret
    exact ⟨⟨_, rfl⟩, G, K⟩
  case first =>
    go_wp2_with fail
    go_loopw [7] (fun iv wv => ∃ (k : Nat) (m : List (Int × Int)), iv = .int .i64 k ∧ k < n ∧ m.length = l.length ∧ Hid (downP m k n = downP l 0 n) ∧ HpAt wv base hb mb m (some ⟨g, 0, none⟩) sc ∧ Hk base mb w wv) (fun iv _ => n - (intOf iv).toNat)
    case atStart => exact ⟨0, l, rfl, h0n, rfl, rfl, H, Hk.refl _ _ _⟩
    case round =>
      obtain ⟨k, m, rfl, hk, hml, HU, G, K⟩ := hrel
      have hm100 : m.length ≤ 100 := by omega
      have hnm : n ≤ m.length := by omega
      have Hml := show Hid (m.length = l.length) from hml
      clear hml
      have hn100 : n ≤ 100 := by omega
      have c0 : wr.cell? ⟨hb, 0, none⟩ = some (.slice (some ⟨g, 0, none⟩) m.length sc) := (G.k.cell 0).trans rfl
      have zb := G.k.lt
      by_cases h1 : 2 * k + 1 < n
      rotate_left
      · have HE : Hid (downP l 0 n = m) := by show _ = _; rw [← HU.out, downP_end h1]
        have hge : (n : Int) ≤ 2 * (k : Int) + 1 := by omega
        have hged : decide ((n : Int) ≤ 2 * (k : Int) + 1) = true := by simpa using hge
        clear HU
        go_wp2_with fail
        go_meet
        case rel => exact ⟨k, rfl, by omega, by rw [HE.out]; exact G, K⟩
      · have hge : ¬ (n : Int) ≤ 2 * (k : Int) + 1 := by omega
        have hged : decide ((n : Int) ≤ 2 * (k : Int) + 1) = false := by simpa using hge
        have hpos : decide (2 * (k : Int) + 1 < 0) = false := by simp; omega
        have hj1 : 2 * k + 1 < m.length := by omega
        have hkm : k < m.length := by omega
        obtain ⟨j1, ej1⟩ : ∃ j1, 2 * k + 1 = j1 := ⟨_, rfl⟩
        obtain ⟨j2, ej2⟩ : ∃ j2, 2 * k + 2 = j2 := ⟨_, rfl⟩
        have f1 : 2 * (k : Int) + 1 = (j1 : Int) := by omega
        have f2 : (j1 : Int) + 1 = (j2 : Int) := by omega
        rw [f1] at hge hged hpos
        have hj1 : j1 < m.length := by omega
        have HJ : Hid (j1 = 2 * k + 1 ∧ j2 = 2 * k + 2) := ⟨ej1.symm, ej2.symm⟩
        by_cases h2 : 2 * k + 2 < n
        rotate_left
        · have HC : Hid (kidP m k n = j1) := by show _ = _; unfold kidP; rw [if_neg (fun q => h2 q.1), ej1]
          have h2' : ¬ (j2 : Int) < (n : Int) := by omega
          clear ej1 ej2
          go_upto_region 6 with fail
          have hml := m_less hb _ wr c0
          go_wp2_with fail
          refine (less_any (some ⟨g, 0, none⟩) sc m j1 k hj1 hkm hm100 wr G.at_).mono ?_
          rintro e w7 ⟨rfl, b7⟩
          rw [← at2_get hj1, ← at2_get hkm]
          have G7 := G.next b7
          have K7 := K.trans (Hk.of b7 G.hi G.mh)
          clear hml c0 zb b7
          have c0 : w7.cell? ⟨hb, 0, none⟩ = some (.slice (some ⟨g, 0, none⟩) m.length sc) := (G7.k.cell 0).trans rfl
          have zb := G7.k.lt
          cases hL : lessP (at2 m j1) (at2 m k) with
          | false =>
            have HE : Hid (downP l 0 n = m) := by show _ = _; rw [← HU.out]; exact downP_stay (by rw [HC.out]; exact hL)
            clear HU hL HC
            go_wp2_with fail
            go_meet
            case rel => exact ⟨k, rfl, by omega, by rw [HE.out]; exact G7, K7⟩
          | true =>
            have HE : Hid (downP (swapL m k j1) j1 n = downP l 0 n) := by show _ = _; rw [← HU.out, downP_go h1 (by rw [HC.out]; exact hL), HC.out]
            have hcn : j1 < n ∧ k < j1 := by have := kidP_le m h1; rw [HC.out] at this; exact this
            clear HU hL HC
            have hms := m_swap hb _ w7 c0
            go_wp2_with fail
            refine (swap_any g sc m k j1 hkm hj1 (by omega) hm100 base hb mb w7 G7).mono ?_
            rintro e w8 ⟨rfl, G8, K8⟩
            rw [← at2_get hj1, ← at2_get hkm] at G8
            have K9 := K7.trans K8
            clear hms c0 zb K8 G7 K7
            go_wp2
            exact ⟨⟨j1, swapL m k j1, rfl, hcn.1, by rw [swapL_len]; exact Hml.out, HE, G8, K9⟩, by simp [intOf]; omega⟩
        · have h2' : (j2 : Int) < (n : Int) := by omega
          have hj2 : j2 < m.length := by omega
          have HC0 : Hid (∀ z, lessP (at2 m j2) (at2 m j1) = z → kidP m k n = if z = true then j2 else j1) := fun z hz => by
            unfold kidP
            rw [ej1, ej2, hz]
            cases z
            · rw [if_neg (fun q => by cases q.2), if_neg (by simp)]
            · rw [if_pos ⟨by omega, rfl⟩, if_pos rfl]
          clear ej1 ej2
          have hml := m_less hb _ wr c0
          go_upto_region 6 with fail
          go_wp2_with fail
          refine (less_any (some ⟨g, 0, none⟩) sc m j2 j1 hj2 hj1 hm100 wr G.at_).mono ?_
          rintro e w2 ⟨rfl, b2⟩
          rw [← at2_get hj2, ← at2_get hj1]
          have G2 := G.next b2
          have K2 := K.trans (Hk.of b2 G.hi G.mh)
          clear hml c0 zb b2 G K
          have c0 : w2.cell? ⟨hb, 0, none⟩ = some (.slice (some ⟨g, 0, none⟩) m.length sc) := (G2.k.cell 0).trans rfl
          have zb := G2.k.lt
          cases hL2 : lessP (at2 m j2) (at2 m j1) with
          | false =>
            have HC : Hid (kidP m k n = j1) := (HC0.out _ hL2).trans (if_neg (by simp))
            clear HC0 hL2
            have hml := m_less hb _ w2 c0
            go_wp2_with fail
            refine (less_any (some ⟨g, 0, none⟩) sc m j1 k hj1 hkm hm100 w2 G2.at_).mono ?_
            rintro e w7 ⟨rfl, b7⟩
            rw [← at2_get hj1, ← at2_get hkm]
            have G7 := G2.next b7
            have K7 := K2.trans (Hk.of b7 G2.hi G2.mh)
            clear hml c0 zb b7
            have c0 : w7.cell? ⟨hb, 0, none⟩ = some (.slice (some ⟨g, 0, none⟩) m.length sc) := (G7.k.cell 0).trans rfl
            have zb := G7.k.lt
            cases hL : lessP (at2 m j1) (at2 m k) with
            | false =>
              have HE : Hid (downP l 0 n = m) := by show _ = _; rw [← HU.out]; exact downP_stay (by rw [HC.out]; exact hL)
              clear HU hL HC
              go_wp2_with fail
              go_meet
              case rel => exact ⟨k, rfl, by omega, by rw [HE.out]; exact G7, K7⟩
            | true =>
              have HE : Hid (downP (swapL m k j1) j1 n = downP l 0 n) := by show _ = _; rw [← HU.out, downP_go h1 (by rw [HC.out]; exact hL), HC.out]
              have hcn : j1 < n ∧ k < j1 := by have := kidP_le m h1; rw [HC.out] at this; exact this
              clear HU hL HC
              have hms := m_swap hb _ w7 c0
              go_wp2_with fail
              refine (swap_any g sc m k j1 hkm hj1 (by omega) hm100 base hb mb w7 G7).mono ?_
              rintro e w8 ⟨rfl, G8, K8⟩
              rw [← at2_get hj1, ← at2_get hkm] at G8
              have K9 := K7.trans K8
              clear hms c0 zb K8 G7 K7
              go_wp2
              exact ⟨⟨j1, swapL m k j1, rfl, hcn.1, by rw [swapL_len]; exact Hml.out, HE, G8, K9⟩, by simp [intOf]; omega⟩
          | true =>
            have HC : Hid (kidP m k n = j2) := (HC0.out _ hL2).trans (if_pos rfl)
            clear HC0 hL2
            have hml := m_less hb _ w2 c0
            go_wp2_with fail
            refine (less_any (some ⟨g, 0, none⟩) sc m j2 k hj2 hkm hm100 w2 G2.at_).mono ?_
            rintro e w7 ⟨rfl, b7⟩
            rw [← at2_get hj2, ← at2_get hkm]
            have G7 := G2.next b7
            have K7 := K2.trans (Hk.of b7 G2.hi G2.mh)
            clear hml c0 zb b7
            have c0 : w7.cell? ⟨hb, 0, none⟩ = some (.slice (some ⟨g, 0, none⟩) m.length sc) := (G7.k.cell 0).trans rfl
            have zb := G7.k.lt
            cases hL : lessP (at2 m j2) (at2 m k) with
            | false =>
              have HE : Hid (downP l 0 n = m) := by show _ = _; rw [← HU.out]; exact downP_stay (by rw [HC.out]; exact hL)
              clear HU hL HC
              go_wp2_with fail
              go_meet
              case rel => exact ⟨k, rfl, by omega, by rw [HE.out]; exact G7, K7⟩
            | true =>
              have HE : Hid (downP (swapL m k j2) j2 n = downP l 0 n) := by show _ = _; rw [← HU.out, downP_go h1 (by rw [HC.out]; exact hL), HC.out]
              have hcn : j2 < n ∧ k < j2 := by have := kidP_le m h1; rw [HC.out] at this; exact this
              clear HU hL HC
              have hms := m_swap hb _ w7 c0
              go_wp2_with fail
              refine (swap_any g sc m k j2 hkm hj2 (by omega) hm100 base hb mb w7 G7).mono ?_
              rintro e w8 ⟨rfl, G8, K8⟩
              rw [← at2_get hj2, ← at2_get hkm] at G8
              have K9 := K7.trans K8
              clear hms c0 zb K8 G7 K7
              go_wp2
              exact ⟨⟨j2, swapL m k j2, rfl, hcn.1, by rw [swapL_len]; exact Hml.out, HE, G8, K9⟩, by simp [intOf]; omega⟩
end Go.Proofs.YtigbfbniicfpdaaGreat
