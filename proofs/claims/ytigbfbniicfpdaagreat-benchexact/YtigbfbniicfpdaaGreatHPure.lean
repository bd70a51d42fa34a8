/- Who is kept: no program: a heap's top is the one that gives way first; the seven that are left are the answer's. -/
import Derived.Test.YtigbfbniicfpdaaGreatHKeep
namespace Go.Proofs.YtigbfbniicfpdaaGreat
open Go.RowKit
set_option linter.unusedVariables false
set_option linter.unusedSimpArgs false

theorem less_iff (a b : Int × Int) : lessP a b = true ↔ a.2 < b.2 ∨ (a.2 = b.2 ∧ b.1 < a.1) := by
  unfold lessP
  by_cases e : a.2 = b.2
  · simp [e]
  · simp [e]
theorem nless_iff (a b : Int × Int) : lessP a b = false ↔ ¬ (a.2 < b.2 ∨ (a.2 = b.2 ∧ b.1 < a.1)) := by
  rw [← less_iff]; simp
theorem less_trans {a b c : Int × Int} (h1 : lessP a b = true) (h2 : lessP b c = true) : lessP a c = true := by
  rw [less_iff] at *; omega
theorem less_irrefl (a : Int × Int) : lessP a a = false := by rw [nless_iff]; omega
theorem less_total {a b : Int × Int} (h : a.1 ≠ b.1) (h1 : lessP a b = false) : lessP b a = true := by
  rw [nless_iff] at h1; rw [less_iff]; omega
theorem less_asymm {a b : Int × Int} (h : lessP a b = true) : lessP b a = false := by
  rw [less_iff] at h; rw [nless_iff]; omega
/-- Not ahead: a does not give way before b. -/
theorem nless_trans {a b c : Int × Int} (h1 : lessP b a = false) (h2 : lessP c b = false) : lessP c a = false := by
  rw [nless_iff] at *; omega

theorem at2_set {l : List (Int × Int)} {i : Nat} (hi : i < l.length) (x : Int × Int) (k : Nat) : at2 (l.set i x) k = if k = i then x else at2 l k := by
  unfold at2
  rw [List.getD_eq_getElem?_getD, List.getD_eq_getElem?_getD]
  by_cases h : k = i
  · subst h; simp [hi]
  · rw [if_neg h, List.getElem?_set_ne (fun e => h e.symm)]
theorem at2_swap {l : List (Int × Int)} {i j : Nat} (hi : i < l.length) (hj : j < l.length) (k : Nat) : at2 (swapL l i j) k = if k = j then at2 l i else if k = i then at2 l j else at2 l k := by
  unfold swapL
  rw [at2_set (by simpa using hj), at2_set hi]
theorem swap_perm {l : List (Int × Int)} {i j : Nat} (hi : i < l.length) (hj : j < l.length) : (swapL l i j).Perm l := by
  unfold swapL
  rw [at2_get hi, at2_get hj]
  exact List.set_set_perm hi hj

/-- A heap, but perhaps at the place j (which may give way before its parent). -/
def HeapBut (l : List (Int × Int)) (n j : Nat) : Prop := ∀ k, 0 < k → k < n → k ≠ j → lessP (at2 l k) (at2 l ((k - 1) / 2)) = false
def Heap (l : List (Int × Int)) (n : Nat) : Prop := ∀ k, 0 < k → k < n → lessP (at2 l k) (at2 l ((k - 1) / 2)) = false
/-- And what is below j does not give way before what is above it. -/
def Bridged (l : List (Int × Int)) (n j : Nat) : Prop := ∀ k, 0 < k → k < n → (k - 1) / 2 = j → 0 < j → lessP (at2 l k) (at2 l ((j - 1) / 2)) = false

theorem up_heap : ∀ (j : Nat) (l : List (Int × Int)), j < l.length → HeapBut l l.length j → Bridged l l.length j → Heap (upP l j) l.length ∧ (upP l j).Perm l := by
  intro j
  induction j using Nat.strongRecOn with
  | ind j ih =>
    intro l hj hH hB
    by_cases h0 : j = 0
    · subst h0
      rw [upP_zero]
      exact ⟨fun k h1 h2 => hH k h1 h2 (by omega), List.Perm.refl _⟩
    · cases hL : lessP (at2 l j) (at2 l ((j - 1) / 2)) with
      | false =>
        rw [upP_stay hL]
        refine ⟨fun k h1 h2 => ?_, List.Perm.refl _⟩
        by_cases hk : k = j
        · rw [hk]; exact hL
        · exact hH k h1 h2 hk
      | true =>
        rw [upP_go h0 hL]
        obtain ⟨i, hi⟩ : ∃ i, (j - 1) / 2 = i := ⟨_, rfl⟩
        rw [hi] at hL ⊢
        have hil : i < l.length := by omega
        have hij : i < j := by omega
        have hsl : (swapL l i j).length = l.length := swapL_len _ _ _
        have sw := at2_swap hil hj
        have key := ih i hij (swapL l i j) (by rw [hsl]; exact hil) ?_ ?_
        · rw [hsl] at key
          exact ⟨key.1, key.2.trans (swap_perm hil hj)⟩
        · rw [hsl]
          intro k h1 h2 hki
          rw [sw k, sw ((k - 1) / 2)]
          by_cases hkj : k = j
          · subst hkj
            rw [if_pos rfl, if_neg (by omega), if_pos hi]
            exact less_asymm hL
          · rw [if_neg hkj, if_neg hki]
            by_cases hp : (k - 1) / 2 = j
            · rw [if_pos hp]
              have := hB k h1 h2 hp (by omega)
              rw [hi] at this
              exact this
            · rw [if_neg hp]
              by_cases hp2 : (k - 1) / 2 = i
              · rw [if_pos hp2]
                have h3 := hH k h1 h2 hkj
                rw [hp2] at h3
                exact nless_trans (less_asymm hL) h3
              · rw [if_neg hp2]
                exact hH k h1 h2 hkj
        · rw [hsl]
          intro k h1 h2 hki hi0
          rw [sw k, sw ((i - 1) / 2)]
          rw [if_neg (show ¬ (i - 1) / 2 = j by omega), if_neg (show ¬ (i - 1) / 2 = i by omega)]
          have hip := hH i hi0 (by omega) (by omega)
          by_cases hkj : k = j
          · rw [if_pos hkj]; exact hip
          · rw [if_neg hkj, if_neg (show ¬ k = i by omega)]
            have h3 := hH k h1 h2 hkj
            rw [hki] at h3
            exact nless_trans hip h3
theorem heap_top {l : List (Int × Int)} {n : Nat} (h : Heap l n) : ∀ k, k < n → lessP (at2 l k) (at2 l 0) = false := by
  intro k
  induction k using Nat.strongRecOn with
  | ind k ih =>
    intro hk
    by_cases h0 : k = 0
    · subst h0; exact less_irrefl _
    · exact nless_trans (ih ((k - 1) / 2) (by omega) (by omega)) (h k (by omega) hk)
theorem push_heap {l : List (Int × Int)} (x : Int × Int) (h : Heap l l.length) : Heap (upP (l ++ [x]) l.length) (l.length + 1) ∧ (upP (l ++ [x]) l.length).Perm (x :: l) := by
  have hl : (l ++ [x]).length = l.length + 1 := by simp
  have ha : ∀ k, k < l.length → at2 (l ++ [x]) k = at2 l k := fun k hk => by
    unfold at2
    rw [List.getD_eq_getElem?_getD, List.getD_eq_getElem?_getD, List.getElem?_append_left hk]
  have key := up_heap l.length (l ++ [x]) (by omega) (fun k h1 h2 h3 => by rw [hl] at h2; rw [ha k (by omega), ha _ (by omega)]; exact h k h1 (by omega)) (fun k h1 h2 h3 h4 => by rw [hl] at h2; omega)
  rw [hl] at key
  exact ⟨key.1, key.2.trans (List.perm_append_singleton x l)⟩

/-- A heap among the first n, but perhaps below i. -/
def HeapD (l : List (Int × Int)) (n i : Nat) : Prop := ∀ k, 0 < k → k < n → (k - 1) / 2 ≠ i → lessP (at2 l k) (at2 l ((k - 1) / 2)) = false
theorem kid_first {l : List (Int × Int)} {i n : Nat} (k : Nat) (h1 : 0 < k) (h2 : k < n) (h3 : (k - 1) / 2 = i) : lessP (at2 l k) (at2 l (kidP l i n)) = false := by
  have hk : k = 2 * i + 1 ∨ k = 2 * i + 2 := by omega
  unfold kidP
  split
  · rename_i h
    rcases hk with rfl | rfl
    · exact less_asymm h.2
    · exact less_irrefl _
  · rename_i h
    rcases hk with rfl | rfl
    · exact less_irrefl _
    · cases hl : lessP (at2 l (2 * i + 2)) (at2 l (2 * i + 1)) with
      | false => rfl
      | true => exact absurd ⟨h2, hl⟩ h
theorem kidP_par (l : List (Int × Int)) (i n : Nat) : (kidP l i n - 1) / 2 = i := by unfold kidP; split <;> omega
theorem down_heap (n : Nat) : ∀ (d : Nat) (l : List (Int × Int)) (i : Nat), n - i = d → n ≤ l.length → HeapD l n i → Bridged l n i → Heap (downP l i n) n ∧ (downP l i n).Perm l ∧ ∀ k, n ≤ k → at2 (downP l i n) k = at2 l k := by
  intro d
  induction d using Nat.strongRecOn with
  | ind d ih =>
    intro l i hd hn hH hB
    by_cases h0 : 2 * i + 1 < n
    rotate_left
    · rw [downP_end h0]
      exact ⟨fun k h1 h2 => hH k h1 h2 (by omega), List.Perm.refl _, fun k _ => rfl⟩
    · have hc := kidP_le l h0
      have hcp := kidP_par l i n
      have hkf := fun k h1 h2 h3 => kid_first (l := l) (i := i) (n := n) k h1 h2 h3
      cases hL : lessP (at2 l (kidP l i n)) (at2 l i) with
      | false =>
        rw [downP_stay hL]
        refine ⟨fun k h1 h2 => ?_, List.Perm.refl _, fun k _ => rfl⟩
        by_cases hp : (k - 1) / 2 = i
        · rw [hp]; exact nless_trans hL (hkf k h1 h2 hp)
        · exact hH k h1 h2 hp
      | true =>
        rw [downP_go h0 hL]
        generalize kidP l i n = c at *
        have hil : i < l.length := by omega
        have hcl : c < l.length := by omega
        have hsl : (swapL l i c).length = l.length := swapL_len _ _ _
        have sw := at2_swap hil hcl
        have key := ih (n - c) (by omega) (swapL l i c) c rfl (by rw [hsl]; exact hn) ?_ ?_
        · refine ⟨key.1, key.2.1.trans (swap_perm hil hcl), fun k hk => ?_⟩
          rw [key.2.2 k hk, sw k, if_neg (by omega), if_neg (by omega)]
        · intro k h1 h2 hp
          rw [sw k, sw ((k - 1) / 2)]
          by_cases hkc : k = c
          · subst hkc
            rw [if_pos rfl, if_neg (by omega), if_pos hcp]
            exact less_asymm hL
          · rw [if_neg hkc, if_neg hp]
            by_cases hpi : (k - 1) / 2 = i
            · rw [if_pos hpi, if_neg (by omega)]
              exact hkf k h1 h2 hpi
            · rw [if_neg hpi]
              by_cases hki : k = i
              · subst hki
                rw [if_pos rfl]
                exact hB c (by omega) hc.1 hcp h1
              · rw [if_neg hki]
                exact hH k h1 h2 hpi
        · intro k h1 h2 hp hc0
          rw [sw k, sw ((c - 1) / 2), hcp]
          rw [if_neg (show ¬ k = c by omega), if_neg (show ¬ k = i by omega), if_neg (show ¬ i = c by omega), if_pos rfl]
          have h3 := hH k h1 h2 (by omega)
          rw [hp] at h3
          exact h3

/-- The top is taken away. -/
theorem pop_heap {l : List (Int × Int)} {n : Nat} (hl : l.length = n + 1) (h1 : 1 ≤ n) (h : Heap l (n + 1)) : Heap ((downP (swapL l 0 n) 0 n).take n) n ∧ l.Perm (at2 l 0 :: (downP (swapL l 0 n) 0 n).take n) := by
  have h0l : 0 < l.length := by omega
  have hnl : n < l.length := by omega
  have hsl : (swapL l 0 n).length = l.length := swapL_len _ _ _
  have sw := at2_swap h0l hnl
  obtain ⟨k1, k2, k3⟩ := down_heap n n (swapL l 0 n) 0 (by omega) (by rw [hsl]; omega) (fun k q1 q2 q3 => by
    rw [sw k, sw ((k - 1) / 2), if_neg (by omega), if_neg (by omega), if_neg (by omega), if_neg q3]
    exact h k q1 (by omega)) (fun k _ _ _ q => by omega)
  have hdl : (downP (swapL l 0 n) 0 n).length = n + 1 := by rw [downP_len, hsl, hl]
  have hlast : at2 (downP (swapL l 0 n) 0 n) n = at2 l 0 := by rw [k3 n (Nat.le_refl _), sw n, if_pos rfl]
  generalize downP (swapL l 0 n) 0 n = m at *
  refine ⟨fun k q1 q2 => ?_, ?_⟩
  · have ht : ∀ j, j < n → at2 (m.take n) j = at2 m j := fun j hj => by
      unfold at2
      rw [List.getD_eq_getElem?_getD, List.getD_eq_getElem?_getD, List.getElem?_take_of_lt hj]
    rw [ht k q2, ht _ (by omega)]
    exact k1 k q1 q2
  · have e : m = m.take n ++ [at2 l 0] := by
      rw [← hlast, at2_get (by omega)]
      have := (List.take_succ_eq_append_getElem (l := m) (i := n) (by omega)).symm
      rw [this, List.take_of_length_le (by omega)]
    have p1 : l.Perm m := (k2.trans (swap_perm h0l hnl)).symm
    refine p1.trans ?_
    conv => lhs; rw [e]
    exact List.perm_append_singleton _ _
end Go.Proofs.YtigbfbniicfpdaaGreat
