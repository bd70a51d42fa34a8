/- What may not be, by the answer, is just what may not be, by the program: where nothing is too far. -/
import Derived.Test.YtomkiglagpfnoaaXMay3
import Derived.Test.YtomkiglagpfnoaaXRefB
import Derived.Test.YtomkiglagpfnoaaWTop2
namespace Go.Proofs.Ytomkiglagpfnoaa.W
open Go.RowKit
set_option linter.unusedVariables false
set_option linter.unusedSimpArgs false

theorem okL_each {α : Type} {atoms : α → List Atom} {xs : List α} (h : okL (eachL atoms xs) = true) : ∀ x ∈ xs, okL (atoms x) = true := by
  induction xs with
  | nil => intro x hx; simp at hx
  | cons y ys ih =>
    simp only [eachL, okL_append, Bool.and_eq_true] at h
    intro x hx
    rcases List.mem_cons.1 hx with rfl | hx
    · exact h.1
    · exact ih h.2 x hx

theorem okL_list {α : Type} {most : Int} {atoms : α → List Atom} {xs : List α} (h : okL (listL most atoms xs) = true) : (xs.length : Int) ≤ most ∧ ∀ x ∈ xs, okL (atoms x) = true := by
  simp only [listL, okL, Bool.and_eq_true, Atom.ok, decide_eq_true_eq] at h
  exact ⟨h.1.2, okL_each h.2⟩

theorem okL_int {n : Int} (h : okL (intA n) = true) : 0 ≤ n ∧ n ≤ 1099511627775 := by
  simpa [intA, okL, Atom.ok] using h

theorem any_all {α : Type} {o m : α → Bool} {xs : List α} (h : ∀ x ∈ xs, o x = !m x) : xs.any o = !xs.all m := by
  induction xs with
  | nil => rfl
  | cons y ys ih =>
    simp only [List.any_cons, List.all_cons]
    rw [h y (by simp), ih fun x hx => h x (by simp [hx])]
    cases m y <;> simp

theorem riseI_pairs (xs : List Int) : ∀ least, riseI least xs = riseP least (xs.map fun n => (n, 0)) := by
  induction xs with
  | nil => intro l; rfl
  | cons n r ih => intro l; simp only [riseI, List.map_cons, riseP, ih]

theorem getD_pairs (xs : List Int) (i : Nat) : ((xs.map fun n => (n, (0 : Int))).getD i (0, 0)).1 = xs.getD i 0 := by
  simp only [List.getD, List.getElem?_map]
  cases xs[i]? <;> rfl

theorem riseI_iff (xs : List Int) (least : Int) (h : ∀ n ∈ xs, 0 ≤ n ∧ n ≤ 1099511627775) :
    riseI least xs = true ↔ ∀ i, i < xs.length → (if i = 0 then least else xs.getD (i - 1) 0 + 1) ≤ xs.getD i 0 := by
  rw [riseI_pairs, riseP_iff _ _ (by
    intro p hp
    obtain ⟨n, hn, rfl⟩ := List.mem_map.1 hp
    exact h n hn)]
  simp only [List.length_map, getD_pairs]

theorem rise_same (xs : List Int) (h : ∀ n ∈ xs, 0 ≤ n ∧ n ≤ 1099511627775) : riseOdd xs xs.length = !riseI 1 xs := by
  have hi := riseI_iff xs 1 h
  have hg : ∀ i, 0 ≤ xs.getD i 0 := by
    intro i
    by_cases hl : i < xs.length
    · simpa [List.getD, hl] using (h xs[i] (List.getElem_mem hl)).1
    · simp [List.getD, Nat.le_of_not_lt hl]
  cases hm : riseI 1 xs
  · show riseOdd xs xs.length = true
    apply Classical.byContradiction
    intro hn
    have hall : ∀ i, i < xs.length → stepOdd xs i = false := fun i hl => by
      cases hc : stepOdd xs i
      · rfl
      · exact absurd (List.any_eq_true.2 ⟨i, List.mem_range.2 hl, hc⟩) hn
    have e1 : riseI 1 xs = true := hi.2 fun i hl => by
      have ho := hall i hl
      simp only [stepOdd, Bool.or_eq_false_iff, Bool.and_eq_false_iff, decide_eq_false_iff_not] at ho
      split
      · omega
      · rcases ho.2 with h | h <;> omega
    rw [e1] at hm
    cases hm
  · show riseOdd xs xs.length = false
    cases hc : riseOdd xs xs.length
    · rfl
    · exfalso
      obtain ⟨i, hl, ho⟩ := List.any_eq_true.1 hc
      have q1 := hi.1 hm i (List.mem_range.1 hl)
      have q3 := hg (i - 1)
      simp only [stepOdd, Bool.or_eq_true, Bool.and_eq_true, decide_eq_true_eq] at ho
      split at q1 <;> omega

theorem backs_same (xs : List Turn) (h : ∀ n ∈ xs, 0 ≤ n.p ∧ n.p ≤ 1099511627775) : backsOdd xs xs.length = !riseI 0 (xs.map Turn.p) := by
  have hp : ∀ n ∈ xs.map Turn.p, 0 ≤ n ∧ n ≤ 1099511627775 := by
    intro n hn
    obtain ⟨y, hy, rfl⟩ := List.mem_map.1 hn
    exact h y hy
  have hi := riseI_iff (xs.map Turn.p) 0 hp
  rw [List.length_map] at hi
  have hg : ∀ i, 0 ≤ (xs.map Turn.p).getD i 0 := by
    intro i
    by_cases hl : i < (xs.map Turn.p).length
    · have h1 := (hp ((xs.map Turn.p)[i]'hl) (List.getElem_mem hl)).1
      have h2 : (xs.map Turn.p).getD i 0 = (xs.map Turn.p)[i]'hl := by simp only [List.getD, List.getElem?_eq_getElem hl, Option.getD_some]
      rw [h2]; exact h1
    · simp [List.getD, Nat.le_of_not_lt (by simpa using hl)]
  cases hm : riseI 0 (xs.map Turn.p)
  · show backsOdd xs xs.length = true
    apply Classical.byContradiction
    intro hn
    have hall : ∀ i, i < xs.length → backOdd xs i = false := fun i hl => by
      cases hc : backOdd xs i
      · rfl
      · exact absurd (List.any_eq_true.2 ⟨i, List.mem_range.2 hl, hc⟩) hn
    have e1 : riseI 0 (xs.map Turn.p) = true := hi.2 fun i hl => by
      have ho := hall i hl
      simp only [backOdd, Bool.and_eq_false_iff, decide_eq_false_iff_not] at ho
      have := hg i
      split
      · omega
      · rcases ho with h | h <;> omega
    rw [e1] at hm
    cases hm
  · show backsOdd xs xs.length = false
    cases hc : backsOdd xs xs.length
    · rfl
    · exfalso
      obtain ⟨i, hl, ho⟩ := List.any_eq_true.1 hc
      have q1 := hi.1 hm i (List.mem_range.1 hl)
      simp only [backOdd, Bool.and_eq_true, decide_eq_true_eq] at ho
      split at q1 <;> omega

theorem Cert.odd_may (x : Cert) (h : okL x.atoms = true) : x.odd = !x.may := by
  simp only [Cert.atoms, okL_append, Bool.and_eq_true] at h
  have hl := okL_list h.2
  unfold Cert.odd Cert.may
  rw [rise_same x.fr.xs fun n hn => okL_int (hl.2 n hn)]
  cases (decide (x.s ≠ 1) && decide (x.s ≠ 2)) <;> cases (!x.has && decide (x.bl ≠ 0)) <;> simp

theorem Proof.odd_may (x : Proof) (h : okL x.atoms = true) : x.odd = !x.may := by
  simp only [Proof.atoms, okL_append, Bool.and_eq_true] at h
  have hl := okL_list h.1.1.1
  have hp : ∀ y ∈ x.tu.xs, 0 ≤ y.p ∧ y.p ≤ 1099511627775 := fun y hy => by
    have h1 := hl.2 y hy
    simp only [Turn.atoms, okL_append, okL, Atom.ok, Bool.and_eq_true, decide_eq_true_eq] at h1
    omega
  unfold Proof.odd Proof.may
  rw [backs_same x.tu.xs hp]
  cases hv : x.leaf
  · by_cases h0 : x.tu.xs.length = 0
    · have e : x.tu.xs = [] := List.eq_nil_of_length_eq_zero h0
      rw [e]
      by_cases h1 : x.key = [] <;> by_cases h2 : x.val = [] <;> simp [h1, h2, riseI]
    · have h0' : 0 < x.tu.xs.length := by omega
      simp only [h0, h0', decide_true, decide_false]
      simp
  · by_cases h2 : x.val = [] <;> simp [h2]

theorem Sight.odd_may (x : Sight) (h : okL x.atoms = true) : x.odd = !x.may := by
  simp only [Sight.atoms, okL_append, Bool.and_eq_true] at h
  have hb : benchFar x.se.xs = false := by
    obtain ⟨_, p2, _⟩ := pairsZ_each x.se.xs
    have e2 : (!okL (benchL x.se.xs)) = benchFar x.se.xs := by
      simp only [benchL, listL, okL, Bool.not_and, p2, benchFar, far_num 7 _ (show (7 : Int) ≤ 1099511627775 by omega)]
    rw [← e2, h.2]; rfl
  unfold Sight.odd Sight.may
  rw [x.ce.odd_may h.1.2, bench_odd x.se.xs hb]
  simp

theorem Tx.odd_may (x : Tx) (h : okL x.atoms = true) : x.odd = !x.may := by
  simp only [Tx.atoms, okL_append, Bool.and_eq_true] at h
  have hs := okL_list h.1.2
  have hp := okL_list h.2
  have hn : 0 ≤ x.to := by
    have h1 := h.1.1.1.1
    simp only [nums, List.map, okL, Atom.ok, Bool.and_eq_true, decide_eq_true_eq] at h1
    omega
  have e1 : x.si.xs.any Sight.odd = !x.si.xs.all Sight.may := any_all fun y hy => y.odd_may (hs.2 y hy)
  have e2 : x.pr.xs.any Proof.odd = !x.pr.xs.all Proof.may := any_all fun y hy => y.odd_may (hp.2 y hy)
  have e3 : ((isTo x.k && decide (x.to < 1)) || (!isTo x.k && decide (x.to ≠ 0))) = (isTo x.k != decide (1 ≤ x.to)) := by
    by_cases h1 : 1 ≤ x.to
    · have h2 : ¬ x.to < 1 := by omega
      have h3 : ¬ x.to = 0 := by omega
      cases isTo x.k <;> simp [h1, h2, h3]
    · have h2 : x.to = 0 := by omega
      rw [h2]
      cases isTo x.k <;> simp
  have e4 : (decide (x.k ≠ 2) && decide (x.k ≠ 3) && decide (x.te ≠ [])) = (!isTx x.k && decide (x.te ≠ [])) := by
    unfold isTx
    by_cases h2 : x.k = 2 <;> by_cases h3 : x.k = 3 <;> simp [h2, h3]
  have e5 : (decide (x.k ≠ 3) && decide (0 < x.ar.xs.length)) = (!decide (x.k = 3) && decide (0 < x.ar.xs.length)) := by
    by_cases h3 : x.k = 3 <;> simp [h3]
  have e6 : (decide (x.k = 9) != decide (x.si.xs.length = 1)) = decide (nSi x.k ≠ (x.si.xs.length : Int)) := by
    have h1 := hs.1
    unfold nSi
    by_cases h2 : x.k = 9 <;> by_cases h3 : x.si.xs.length = 1
    · simp [h2, h3]
    · have : x.si.xs.length = 0 := by omega
      simp [h2, this]
    · simp [h2, h3]
    · have : x.si.xs.length = 0 := by omega
      simp [h2, this]
  have e7 : (decide (x.k = 10) != decide (x.pr.xs.length = 1)) = decide (nPr x.k ≠ (x.pr.xs.length : Int)) := by
    have h1 := hp.1
    unfold nPr
    by_cases h2 : x.k = 10 <;> by_cases h3 : x.pr.xs.length = 1
    · simp [h2, h3]
    · have : x.pr.xs.length = 0 := by omega
      simp [h2, this]
    · simp [h2, h3]
    · have : x.pr.xs.length = 0 := by omega
      simp [h2, this]
  unfold Tx.odd Tx.may Tx.bad1 Tx.bad2 Tx.bad3 Tx.bad4
  rw [e1, e2, e3, e4, e5, e6, e7]
  generalize x.si.xs.all Sight.may = b1
  generalize x.pr.xs.all Proof.may = b2
  generalize (decide (x.k < 1) || decide (10 < x.k) || decide (x.f < 1)) = b3
  generalize (isTo x.k != decide (1 ≤ x.to)) = b4
  generalize (!isAm x.k && decide (x.am ≠ 0)) = b5
  generalize (!isTx x.k && decide (x.te ≠ [])) = b6
  generalize (!decide (x.k = 3) && decide (0 < x.ar.xs.length)) = b7
  generalize decide (nSi x.k ≠ (x.si.xs.length : Int)) = b8
  generalize decide (nPr x.k ≠ (x.pr.xs.length : Int)) = b9
  revert b1 b2 b3 b4 b5 b6 b7 b8 b9
  decide
end Go.Proofs.Ytomkiglagpfnoaa.W
