/- The heap of seats: Push, Pop, keep. -/
import Derived.Test.YtigbfbniicfpdaaGreatHDown
namespace Go.Proofs.YtigbfbniicfpdaaGreat
open Go.RowKit
set_option linter.unusedVariables false
set_option linter.unusedSimpArgs false

theorem upP_len (l : List (Int × Int)) (j : Nat) : (upP l j).length = l.length := by
  induction j using Nat.strongRecOn generalizing l with
  | ind j ih =>
    by_cases h0 : j = 0
    · subst h0; rw [upP_zero]
    · cases h : lessP (at2 l j) (at2 l ((j - 1) / 2)) with
      | false => rw [upP_stay h]
      | true => rw [upP_go h0 h, ih _ (by omega), swapL_len]
theorem downP_len (n : Nat) (l : List (Int × Int)) (i : Nat) : (downP l i n).length = l.length := by
  induction hd : n - i using Nat.strongRecOn generalizing l i with
  | ind d ih =>
    by_cases h0 : 2 * i + 1 < n
    · cases h : lessP (at2 l (kidP l i n)) (at2 l i) with
      | false => rw [downP_stay h]
      | true =>
        have := kidP_le l h0
        rw [downP_go h0 h, ih (n - kidP l i n) (by omega) _ _ rfl, swapL_len]
    · rw [downP_end h0]

set_option maxRecDepth 8000 in
set_option maxHeartbeats 1600000 in
theorem hpush_any (sa : Option Addr) (sc : Nat) (l : List (Int × Int)) (xk xv : Int) (hn : l.length ≤ 90) (base hb mb : Nat) (w : World) (H : HpAt w base hb mb l sa sc) :
    Calls Tryz.prog 39 #[.iface 35 (.pointer (some ⟨hb, 0, none⟩)), .iface 39 (.agg #[.int .i64 xk, .int .i64 xv])] w fun e w' => e = .returned (.tuple #[]) ∧ ∃ g sc2, HpAt w' base hb mb (upP (l ++ [(xk, xv)]) l.length) (some ⟨g, 0, none⟩) sc2 ∧ Hk base mb w w' := by
  have hmp := fun w' : World => m_push (.pointer (some ⟨hb, 0, none⟩)) w'
  have hl : (l ++ [(xk, xv)]).length = l.length + 1 := by simp
  go_enter Tryz.func39, Tryz.ntmps39
  go_wp2_with fail
  refine (mpush_any sa sc l xk xv (by omega) base hb mb w H).mono ?_
  rintro e w1 ⟨rfl, sa2, sc2, H1, K1⟩
  have Hm := H1.k.cell 0
  obtain ⟨g, cur, hsa, _⟩ := H1.row (by simp)
  subst hsa
  have c1 : w1.cell? ⟨hb, 0, none⟩ = some (.slice (some ⟨g, 0, none⟩) (l.length + 1) sc2) := by rw [← hl]; exact (H1.k.cell 0).trans rfl
  have hml := m_len hb _ w1 c1
  clear hmp Hm
  go_wp2_with fail
  refine (len_any (some ⟨g, 0, none⟩) sc2 (l.length + 1) w1).mono ?_
  rintro e w2 ⟨rfl, rfl⟩
  go_wp2_with fail
  refine (up_any g sc2 (l ++ [(xk, xv)]) l.length (by rw [hl]; omega) (by rw [hl]; omega) base hb mb w1 H1).mono ?_
  rintro e w3 ⟨rfl, H3, K3⟩
  clear hml c1
  go_wp2
  go_end0
  exact ⟨rfl, g, sc2, H3, K1.trans K3⟩

set_option maxRecDepth 8000 in
set_option maxHeartbeats 1600000 in
theorem hpop_any (g sc : Nat) (l : List (Int × Int)) (n : Nat) (hl : l.length = n + 1) (h1 : 1 ≤ n) (hn : l.length ≤ 100) (base hb mb : Nat) (w : World) (H : HpAt w base hb mb l (some ⟨g, 0, none⟩) sc) :
    Calls Tryz.prog 41 #[.iface 35 (.pointer (some ⟨hb, 0, none⟩))] w fun e w' => (∃ v, e = .returned v) ∧ HpAt w' base hb mb ((downP (swapL l 0 n) 0 n).take n) (some ⟨g, 0, none⟩) sc ∧ Hk base mb w w' := by
  have c0 : w.cell? ⟨hb, 0, none⟩ = some (.slice (some ⟨g, 0, none⟩) (n + 1) sc) := by rw [← hl]; exact (H.k.cell 0).trans rfl
  have hml := m_len hb _ w c0
  have hms := m_swap hb _ w c0
  have hmp := fun w' : World => m_pop (.pointer (some ⟨hb, 0, none⟩)) w'
  have hn2 : n ≤ 100 := by omega
  go_enter Tryz.func41, Tryz.ntmps41
  go_wp2_with fail
  refine (len_any (some ⟨g, 0, none⟩) sc (n + 1) w).mono ?_
  rintro e w2 ⟨rfl, rfl⟩
  go_wp2_with fail
  have key := swap_any g sc l 0 n (by omega) (by omega) (by omega) hn base hb mb w H
  rw [← at2_get (by omega), ← at2_get (by omega), hl] at key
  refine key.mono ?_
  rintro e w3 ⟨rfl, H3, K3⟩
  have H3 : HpAt w3 base hb mb (swapL l 0 n) (some ⟨g, 0, none⟩) sc := H3
  clear hml hms c0 key
  go_wp2_with fail
  refine (down_any g sc (swapL l 0 n) n (by omega) (by rw [swapL_len]; omega) (by rw [swapL_len]; omega) base hb mb w3 H3).mono ?_
  rintro e w4 ⟨⟨z, rfl⟩, H4, K4⟩
  go_wp2_with fail
  refine (mpop_any g sc (downP (swapL l 0 n) 0 n) n (by rw [downP_len, swapL_len, hl]) (by rw [downP_len, swapL_len]; omega) base hb mb w4 H4).mono ?_
  rintro e w5 ⟨⟨v, rfl⟩, H5, K5⟩
  clear hmp
  go_wp2
  go_ret
  exact ⟨⟨_, rfl⟩, H5, K3.trans (K4.trans K5)⟩

/-- A seat more is kept. -/
def keepP (l : List (Int × Int)) (x : Int × Int) : List (Int × Int) := if 7 < l.length + 1 then (downP (swapL (upP (l ++ [x]) l.length) 0 l.length) 0 l.length).take l.length else upP (l ++ [x]) l.length

set_option maxRecDepth 8000 in
set_option maxHeartbeats 1600000 in
theorem keep_any (sa : Option Addr) (sc : Nat) (l : List (Int × Int)) (xk xv : Int) (hn : l.length ≤ 7) (base hb mb : Nat) (w : World) (H : HpAt w base hb mb l sa sc) :
    Calls Tryz.prog 23 #[.pointer (some ⟨hb, 0, none⟩), .agg #[.int .i64 xk, .int .i64 xv]] w fun e w' => e = .returned (.tuple #[]) ∧ ∃ g sc2, HpAt w' base hb mb (keepP l (xk, xv)) (some ⟨g, 0, none⟩) sc2 ∧ Hk base mb w w' := by
  have bA : Below w.heap.size w (w.alloc (.cells #[.int .i64 xk, .int .i64 xv] 39)) := (Below.refl _ _).alloc (Nat.le_refl _) _
  have HA := H.next bA
  have KA := Hk.of bA H.hi H.mh
  have hlu : (upP (l ++ [(xk, xv)]) l.length).length = l.length + 1 := by rw [upP_len]; simp
  go_enter Tryz.func23, Tryz.ntmps23
  go_wp2_with fail
  refine (hpush_any sa sc l xk xv (by omega) base hb mb _ HA).mono ?_
  rintro e w1 ⟨rfl, g, sc2, H1, K1⟩
  have K2 := KA.trans K1
  have c1 : w1.cell? ⟨hb, 0, none⟩ = some (.slice (some ⟨g, 0, none⟩) (l.length + 1) sc2) := by rw [← hlu]; exact (H1.k.cell 0).trans rfl
  have z1 := H1.k.lt
  clear HA KA bA H K1
  go_wp2_with fail
  refine (len_any (some ⟨g, 0, none⟩) sc2 (l.length + 1) w1).mono ?_
  rintro e w2 ⟨rfl, rfl⟩
  by_cases h7 : l.length = 7
  · have hg : (7 : Int) < ((l.length + 1 : Nat) : Int) := by omega
    have HE : Hid (keepP l (xk, xv) = (downP (swapL (upP (l ++ [(xk, xv)]) l.length) 0 l.length) 0 l.length).take l.length) := by show _ = _; unfold keepP; rw [if_pos (by omega)]
    have hl1 : 1 ≤ l.length := by omega
    clear h7
    go_wp2_with fail
    refine (hpop_any g sc2 (upP (l ++ [(xk, xv)]) l.length) l.length hlu hl1 (by omega) base hb mb w1 H1).mono ?_
    rintro e w3 ⟨⟨v, rfl⟩, H3, K3⟩
    go_wp2
    go_end0
    exact ⟨rfl, g, sc2, by rw [HE.out]; exact H3, K2.trans K3⟩
  · have hg : ¬ (7 : Int) < ((l.length + 1 : Nat) : Int) := by omega
    have HE : Hid (keepP l (xk, xv) = upP (l ++ [(xk, xv)]) l.length) := by show _ = _; unfold keepP; rw [if_neg (by omega)]
    clear h7
    go_wp2
    go_end0
    exact ⟨rfl, g, sc2, by rw [HE.out]; exact H1, K2⟩
end Go.Proofs.YtigbfbniicfpdaaGreat
