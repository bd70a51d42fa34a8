/- The heap of seats: up. -/
import Derived.Test.YtigbfbniicfpdaaGreatHPop
import Derived.Deep.CutRange
import Derived.Deep.DeepCutAuto
namespace Go.Proofs.YtigbfbniicfpdaaGreat
open Go.RowKit
set_option linter.unusedVariables false
set_option linter.unusedSimpArgs false

def at2 (l : List (Int × Int)) (i : Nat) : Int × Int := l.getD i (0, 0)
def swapL (l : List (Int × Int)) (i j : Nat) : List (Int × Int) := (l.set i (at2 l j)).set j (at2 l i)
theorem swapL_len (l : List (Int × Int)) (i j : Nat) : (swapL l i j).length = l.length := by simp [swapL]
theorem at2_get {l : List (Int × Int)} {i : Nat} (h : i < l.length) : at2 l i = l[i] := by unfold at2; rw [List.getD_eq_getElem?_getD, List.getElem?_eq_getElem h]; rfl

/-- A seat goes up. -/
def upP (l : List (Int × Int)) (j : Nat) : List (Int × Int) := if h : j = 0 then l else if lessP (at2 l j) (at2 l ((j - 1) / 2)) = true then upP (swapL l ((j - 1) / 2) j) ((j - 1) / 2) else l
termination_by j
decreasing_by omega
theorem upP_zero (l : List (Int × Int)) : upP l 0 = l := by unfold upP; simp
theorem upP_stay {l : List (Int × Int)} {j : Nat} (h : lessP (at2 l j) (at2 l ((j - 1) / 2)) = false) : upP l j = l := by
  unfold upP
  split
  · rfl
  · rw [h]; rfl
theorem upP_go {l : List (Int × Int)} {j : Nat} (h0 : j ≠ 0) (h : lessP (at2 l j) (at2 l ((j - 1) / 2)) = true) : upP l j = upP (swapL l ((j - 1) / 2) j) ((j - 1) / 2) := by
  rw [upP, dif_neg h0, if_pos h]

set_option maxRecDepth 8000 in
set_option maxHeartbeats 1600000 in
theorem up_any (g sc : Nat) (l : List (Int × Int)) (j : Nat) (hj : j < l.length) (hn : l.length ≤ 100) (base hb mb : Nat) (w : World) (H : HpAt w base hb mb l (some ⟨g, 0, none⟩) sc) :
    Calls Tryz.prog 59 #[.iface 35 (.pointer (some ⟨hb, 0, none⟩)), .int .i64 j] w fun e w' => e = .returned (.tuple #[]) ∧ HpAt w' base hb mb (upP l j) (some ⟨g, 0, none⟩) sc ∧ Hk base mb w w' := by
  go_enter Tryz.func59, Tryz.ntmps59
  go_wp2_with fail
  go_loopw [1] (fun jv wv => ∃ (k : Nat) (m : List (Int × Int)), jv = .int .i64 k ∧ k < m.length ∧ m.length = l.length ∧ Hid (upP m k = upP l j) ∧ HpAt wv base hb mb m (some ⟨g, 0, none⟩) sc ∧ Hk base mb w wv) (fun jv _ => (intOf jv).toNat)
  case atStart => exact ⟨j, l, rfl, hj, rfl, rfl, H, Hk.refl _ _ _⟩
  case round =>
    obtain ⟨k, m, rfl, hk, hml, HU, G, K⟩ := hrel
    have hm100 : m.length ≤ 100 := by omega
    have Hml := show Hid (m.length = l.length) from hml
    clear hml
    have c0 : wr.cell? ⟨hb, 0, none⟩ = some (.slice (some ⟨g, 0, none⟩) m.length sc) := (G.k.cell 0).trans rfl
    have zb := G.k.lt
    by_cases h0 : k = 0
    · subst h0
      have HE : Hid (upP l j = m) := by show _ = _; rw [← HU.out, upP_zero]
      have e1 : Int.tdiv (((0 : Nat) : Int) - 1) 2 = 0 := by decide
      clear HU
      go_wp2
      go_end0
      exact ⟨rfl, by rw [HE.out]; exact G, K⟩
    · have e1 : Int.tdiv ((k : Int) - 1) 2 = (((k - 1) / 2 : Nat) : Int) := by
        rw [Int.tdiv_eq_ediv_of_nonneg (by omega)]
        omega
      obtain ⟨i, hi⟩ : ∃ i, (k - 1) / 2 = i := ⟨_, rfl⟩
      rw [hi] at e1
      have hik : i < k := by omega
      have hne : ((i : Int) == (k : Int)) = false := by simp; omega
      have hi2 : i < m.length := by omega
      have hml := m_less hb _ wr c0
      have HS : Hid (lessP (at2 m k) (at2 m i) = false → upP m k = m) := fun q => upP_stay (by rw [hi]; exact q)
      have HG : Hid (lessP (at2 m k) (at2 m i) = true → upP m k = upP (swapL m i k) i) := fun q => by rw [upP_go h0 (by rw [hi]; exact q), hi]
      clear h0 hi
      go_wp2_with fail
      refine (less_any (some ⟨g, 0, none⟩) sc m k i hk hi2 hm100 wr G.at_).mono ?_
      rintro e w2 ⟨rfl, b2⟩
      rw [← at2_get hk, ← at2_get hi2]
      have G2 := G.next b2
      have K2 := K.trans (Hk.of b2 G.hi G.mh)
      clear hml c0 zb b2
      have c0 : w2.cell? ⟨hb, 0, none⟩ = some (.slice (some ⟨g, 0, none⟩) m.length sc) := (G2.k.cell 0).trans rfl
      have zb := G2.k.lt
      cases hL : lessP (at2 m k) (at2 m i) with
      | false =>
        have HE : Hid (upP l j = m) := by show _ = _; rw [← HU.out]; exact HS.out hL
        clear HU HS HG hL
        go_wp2
        go_end0
        exact ⟨rfl, by rw [HE.out]; exact G2, K2⟩
      | true =>
        have HE : Hid (upP (swapL m i k) i = upP l j) := by show _ = _; rw [← HU.out]; exact (HG.out hL).symm
        clear HU HS HG hL
        have hms := m_swap hb _ w2 c0
        go_wp2_with fail
        refine (swap_any g sc m i k hi2 hk (by omega) hm100 base hb mb w2 G2).mono ?_
        rintro e w3 ⟨rfl, G3, K3⟩
        rw [← at2_get hk, ← at2_get hi2] at G3
        have K4 := K2.trans K3
        clear hms c0 zb K3 G2 K2
        go_wp2
        exact ⟨⟨i, swapL m i k, rfl, by rw [swapL_len]; exact hi2, by rw [swapL_len]; exact Hml.out, HE, G3, K4⟩, by simp [intOf]; omega⟩
end Go.Proofs.YtigbfbniicfpdaaGreat
