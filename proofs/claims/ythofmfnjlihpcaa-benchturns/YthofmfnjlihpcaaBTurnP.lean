/- Whose turn it is: no program. -/
import Derived.Test.YthofmfnjlihpcaaBMeet
namespace Go.Proofs.Ythofmfnjlihpcaa
open Go.RowKit
set_option linter.unusedVariables false
set_option linter.unusedSimpArgs false

/-- The first of 0 to n at which v is greatest. -/
def argN (v : Nat → Int) : Nat → Nat
  | 0 => 0
  | n + 1 => if v (argN v n) < v (n + 1) then n + 1 else argN v n
theorem argN_le (v : Nat → Int) : ∀ n, argN v n ≤ n
  | 0 => Nat.le_refl _
  | n + 1 => by
    have := argN_le v n
    unfold argN
    split <;> omega
theorem argN_max (v : Nat → Int) : ∀ n i, i ≤ n → v i ≤ v (argN v n)
  | 0, i, h => by
    obtain rfl : i = 0 := by omega
    exact Int.le_refl _
  | n + 1, i, h => by
    unfold argN
    by_cases hi : i = n + 1
    · subst hi
      split <;> omega
    · have := argN_max v n i (by omega)
      split <;> omega
theorem argN_congr {v v' : Nat → Int} : ∀ n, (∀ i, i ≤ n → v i = v' i) → argN v n = argN v' n
  | 0, _ => rfl
  | n + 1, h => by
    have ih := argN_congr n fun i hi => h i (by omega)
    unfold argN
    rw [ih, h (n + 1) (Nat.le_refl _), h (argN v' n) (by have := argN_le v' n; omega)]

/-- The sum of the first n. -/
def sumF (f : Nat → Int) : Nat → Int
  | 0 => 0
  | n + 1 => sumF f n + f n
theorem sumF_congr {f g : Nat → Int} : ∀ n, (∀ i, i < n → f i = g i) → sumF f n = sumF g n
  | 0, _ => rfl
  | n + 1, h => by
    unfold sumF
    rw [sumF_congr n fun i hi => h i (by omega), h n (by omega)]
theorem sumF_add (f g : Nat → Int) : ∀ n, sumF (fun i => f i + g i) n = sumF f n + sumF g n
  | 0 => rfl
  | n + 1 => by
    unfold sumF
    rw [sumF_add f g n]
    omega
theorem sumF_mul (c : Int) (f : Nat → Int) : ∀ n, sumF (fun i => c * f i) n = c * sumF f n
  | 0 => by simp [sumF]
  | n + 1 => by
    unfold sumF
    rw [sumF_mul c f n, Int.mul_add]
theorem sumF_one (j : Nat) : ∀ n, sumF (fun i => if i = j then 1 else 0) n = if j < n then 1 else 0
  | 0 => by simp [sumF]
  | n + 1 => by
    unfold sumF
    rw [sumF_one j n]
    by_cases h : n = j
    · subst h
      simp
    · have h2 : (j < n + 1) = (j < n) := by simp; omega
      simp only [if_neg h, h2, Int.add_zero]
theorem sumF_le (f : Nat → Int) (c : Int) : ∀ n, (∀ i, i < n → f i ≤ 0) → sumF f n ≤ 0
  | 0, _ => Int.le_refl _
  | n + 1, h => by
    unfold sumF
    have h1 := sumF_le f c n fun i hi => h i (by omega)
    have h2 := h n (by omega)
    omega
theorem sumF_zero (f : Nat → Int) : ∀ n, (∀ i, i < n → 0 ≤ f i) → sumF f n ≤ 0 → ∀ i, i < n → f i = 0
  | 0, _, _, i, hi => by omega
  | n + 1, h, hs, i, hi => by
    unfold sumF at hs
    have hn := h n (by omega)
    have hp : ∀ k, (∀ i, i < k → 0 ≤ f i) → 0 ≤ sumF f k := by
      intro k
      induction k with
      | zero => intro _; exact Int.le_refl _
      | succ k ih =>
        intro hk
        unfold sumF
        have h1 := ih fun i hi => hk i (by omega)
        have h2 := hk k (by omega)
        omega
    have hq := hp n fun i hi => h i (by omega)
    by_cases hin : i = n
    · subst hin; omega
    · exact sumF_zero f n (fun i hi => h i (by omega)) (by omega) i (by omega)

/-- The weight of the seat i. -/
def wtAt (l : List (Int × Int)) (i : Nat) : Int := (l.getD i (0, 0)).2
theorem wtAt_of {l : List (Int × Int)} {i : Nat} (h : i < l.length) : wtAt l i = l[i].2 := by simp [wtAt, List.getD, h]
theorem totP_sumF (l : List (Int × Int)) : ∀ n, n ≤ l.length → totP (l.take n) = sumF (wtAt l) n
  | 0, _ => rfl
  | n + 1, h => by
    rw [totP_take (show n < l.length by omega), totP_sumF l n (by omega), ← wtAt_of (show n < l.length by omega)]
    rfl
theorem totP_all (l : List (Int × Int)) : totP l = sumF (wtAt l) l.length := by
  have := totP_sumF l l.length (Nat.le_refl _)
  rwa [List.take_length] at this

/-- How often each has led in the first n turns. -/
def ledF (l : List (Int × Int)) : Nat → Nat → Int
  | 0, _ => 0
  | n + 1, i => ledF l n i + if i = argN (fun i => ((n : Int) + 1) * wtAt l i - ledF l n i * totP l) (l.length - 1) then 1 else 0
/-- Who leads in the turn n: its place. -/
def leadAt (l : List (Int × Int)) (n : Nat) : Nat := argN (fun i => ((n : Int) + 1) * wtAt l i - ledF l n i * totP l) (l.length - 1)
theorem ledF_succ (l : List (Int × Int)) (n i : Nat) : ledF l (n + 1) i = ledF l n i + if i = leadAt l n then 1 else 0 := rfl
theorem leadAt_lt {l : List (Int × Int)} (h : 1 ≤ l.length) (n : Nat) : leadAt l n < l.length := by
  have := argN_le (fun i => ((n : Int) + 1) * wtAt l i - ledF l n i * totP l) (l.length - 1)
  unfold leadAt
  omega
theorem ledF_bound (l : List (Int × Int)) : ∀ n i, 0 ≤ ledF l n i ∧ ledF l n i ≤ n
  | 0, i => by simp [ledF]
  | n + 1, i => by
    have := ledF_bound l n i
    rw [ledF_succ]
    split <;> omega
theorem ledF_sum {l : List (Int × Int)} (h : 1 ≤ l.length) : ∀ n : Nat, sumF (ledF l n) l.length = n
  | 0 => by
    have : ∀ k, sumF (ledF l 0) k = 0 := by
      intro k
      induction k with
      | zero => rfl
      | succ k ih => unfold sumF; rw [ih]; rfl
    simpa using this l.length
  | n + 1 => by
    have e : sumF (ledF l (n + 1)) l.length = sumF (fun i => ledF l n i + if i = leadAt l n then 1 else 0) l.length := rfl
    rw [e, sumF_add, ledF_sum h n, sumF_one, if_pos (leadAt_lt h n)]
    omega
theorem gain_low {l : List (Int × Int)} (h : GoodB l) : ∀ (n i : Nat), i < l.length → 1 - totP l ≤ (n : Int) * wtAt l i - ledF l n i * totP l
  | 0, i, hi => by
    have := totP_pos h
    simp [ledF]
    omega
  | n + 1, i, hi => by
    have ih := gain_low h n
    have hT := totP_pos h
    have hw : ∀ k, k < l.length → 1 ≤ wtAt l k := fun k hk => by rw [wtAt_of hk]; exact (h.may _ (List.getElem_mem hk)).2.1
    have hj : 1 ≤ ((n : Int) + 1) * wtAt l (leadAt l n) - ledF l n (leadAt l n) * totP l := by
      apply Classical.byContradiction
      intro hc
      have hall : ∀ k, k < l.length → ((n : Int) + 1) * wtAt l k + (-(totP l)) * ledF l n k ≤ 0 := fun k hk => by
        have := argN_max (fun i => ((n : Int) + 1) * wtAt l i - ledF l n i * totP l) (l.length - 1) k (by omega)
        have e : ((n : Int) + 1) * wtAt l k + (-(totP l)) * ledF l n k = ((n : Int) + 1) * wtAt l k - ledF l n k * totP l := by rw [Int.neg_mul, Int.mul_comm (totP l)]; omega
        rw [e]
        unfold leadAt at hc
        omega
      have hs := sumF_le _ 0 l.length hall
      rw [sumF_add, sumF_mul, sumF_mul, ← totP_all, ledF_sum h.pos] at hs
      rw [Int.add_mul, Int.neg_mul, Int.mul_comm (totP l)] at hs
      omega
    rw [ledF_succ]
    have e1 : ((n + 1 : Nat) : Int) * wtAt l i = (n : Int) * wtAt l i + wtAt l i := by rw [Int.natCast_add, Int.add_mul]; simp
    rw [e1]
    by_cases hi2 : i = leadAt l n
    · rw [if_pos hi2, hi2, Int.add_mul]
      rw [Int.add_mul] at hj
      omega
    · rw [if_neg hi2, Int.add_zero]
      have := ih i hi
      have := hw i hi
      omega
theorem led_times {l : List (Int × Int)} (h : GoodB l) (m t : Nat) (ht : (t : Int) = m * totP l) (i : Nat) (hi : i < l.length) : ledF l t i = m * wtAt l i := by
  have hT := totP_pos h
  have hnn : ∀ k, k < l.length → 0 ≤ (m : Int) * wtAt l k + (-1) * ledF l t k := fun k hk => by
    have := gain_low h t k hk
    apply Classical.byContradiction
    intro hc
    have hc2 : (m : Int) * wtAt l k - ledF l t k ≤ -1 := by omega
    have e : (t : Int) * wtAt l k - ledF l t k * totP l = totP l * ((m : Int) * wtAt l k - ledF l t k) := by
      rw [ht, Int.mul_sub, Int.mul_comm (totP l) (ledF l t k)]
      congr 1
      rw [Int.mul_comm (m : Int) (totP l), Int.mul_assoc]
    rw [e] at this
    have h3 := Int.mul_le_mul_of_nonneg_left hc2 (Int.le_of_lt hT)
    omega
  have hs := sumF_zero _ l.length hnn (by
    rw [sumF_add, sumF_mul, sumF_mul, ← totP_all, ledF_sum h.pos, ht]
    omega) i hi
  omega
end Go.Proofs.Ythofmfnjlihpcaa
