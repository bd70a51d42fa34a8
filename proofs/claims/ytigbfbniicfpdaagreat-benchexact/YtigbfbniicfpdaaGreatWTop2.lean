/- What the answer says of pairs of votes; benches: when one may be, told in two ways. -/
import Derived.Test.YtigbfbniicfpdaaGreatWTop
import Derived.Test.YtigbfbniicfpdaaGreatWWalk2
import Derived.Test.YtigbfbniicfpdaaGreatWRefP
namespace Go.Proofs.YtigbfbniicfpdaaGreat.W
open Go.RowKit
set_option linter.unusedVariables false



theorem Rel.numM {o : Option (List UInt8)} {Z : List UInt8} {F : Bool} (h : Rel o Z F) (most n : Int) (hm : most ≤ 1099511627775) (hn : 0 ≤ n) : Rel (pNum most o n) (Z ++ numZ n) (F || decide (most < n) || !inNum n) := by
  rcases h with ⟨rfl, rfl⟩ | ⟨rfl, rfl⟩
  · exact .inl ⟨by simp, rfl⟩
  · by_cases hc : n ≤ most
    · have hi : inNum n = true := by simp [inNum, hn]; omega
      have hd : decide (most < n) = false := by simpa using hc
      exact .inr ⟨by simp [hi, hd], by simp [pNum, hn, hc, numZ, hi]⟩
    · have hd : decide (most < n) = true := by simp; omega
      refine .inl ⟨by simp [hd], ?_⟩
      simp only [pNum, Option.bind_some]
      rw [if_neg (by omega)]

theorem seats_rel (ps : List (Int × Int)) : ∀ {o : Option (List UInt8)} {Z : List UInt8} {F : Bool}, Rel o Z F → Rel (seats o ps) (Z ++ pairsZ ps) (F || pairsFar ps) := by
  induction ps with
  | nil => intro o Z F h; simpa [seats, pairsZ, pairsFar] using h
  | cons p r ih =>
    intro o Z F h
    have e := ih ((h.num p.1).num p.2)
    have e1 : Z ++ numZ p.1 ++ numZ p.2 ++ pairsZ r = Z ++ pairsZ (p :: r) := by simp [pairsZ, List.append_assoc]
    have e2 : (F || !inNum p.1 || !inNum p.2 || pairsFar r) = (F || pairsFar (p :: r)) := by simp [pairsFar, Bool.or_assoc]
    rw [e1, e2] at e
    exact e

theorem notes_rel (ps : List (Int × Int)) : ∀ {o : Option (List UInt8)} {Z : List UInt8} {F : Bool}, Rel o Z F → Rel (notes o ps) (Z ++ pairsZ ps) (F || pairsFar ps) := by
  induction ps with
  | nil => intro o Z F h; simpa [notes, pairsZ, pairsFar] using h
  | cons p r ih =>
    intro o Z F h
    have e := ih ((h.num p.1).num p.2)
    have e1 : Z ++ numZ p.1 ++ numZ p.2 ++ pairsZ r = Z ++ pairsZ (p :: r) := by simp [pairsZ, List.append_assoc]
    have e2 : (F || !inNum p.1 || !inNum p.2 || pairsFar r) = (F || pairsFar (p :: r)) := by simp [pairsFar, Bool.or_assoc]
    rw [e1, e2] at e
    exact e

theorem bench_rel {o : Option (List UInt8)} {Z : List UInt8} {F : Bool} (h : Rel o Z F) (ps : List (Int × Int)) : Rel (seatL 7 o ps) (Z ++ benchZ ps) (F || benchFar ps) := by
  have e := seats_rel ps (h.numM 7 (ps.length : Int) (by omega) (by omega))
  have e1 : Z ++ numZ (ps.length : Int) ++ pairsZ ps = Z ++ benchZ ps := by simp [benchZ, List.append_assoc]
  have e2 : (F || decide ((7 : Int) < ps.length) || !inNum ps.length || pairsFar ps) = (F || benchFar ps) := by simp [benchFar, Bool.or_assoc]
  rw [e1, e2] at e
  exact e

theorem riseP_iff : ∀ (ps : List (Int × Int)) (least : Int), (∀ p ∈ ps, 0 ≤ p.1 ∧ p.1 ≤ 1099511627775) →
    (riseP least ps = true ↔ ∀ i, i < ps.length → (if i = 0 then least else (ps.getD (i - 1) (0, 0)).1 + 1) ≤ (ps.getD i (0, 0)).1)
  | [], least, _ => by simp [riseP]
  | p :: r, least, hr => by
    have hp := hr p List.mem_cons_self
    have hw : wrap64 (p.1 + 1) = p.1 + 1 := by unfold wrap64; omega
    have ih := riseP_iff r (p.1 + 1) (fun q hq => hr q (List.mem_cons_of_mem _ hq))
    have e : riseP least (p :: r) = if p.1 < least then false else riseP (wrap64 (p.1 + 1)) r := rfl
    rw [e, hw]
    constructor
    · intro h
      split at h
      · cases h
      · rename_i hge
        have h2 := ih.1 h
        intro i hi
        match i with
        | 0 => simp; omega
        | 1 =>
          have := h2 0 (by simp at hi; omega)
          simpa using this
        | j + 2 =>
          have := h2 (j + 1) (by simp at hi; omega)
          simpa using this
    · intro h
      have h0 := h 0 (by simp)
      simp at h0
      rw [if_neg (by omega)]
      refine ih.2 fun i hi => ?_
      match i with
      | 0 =>
        have := h 1 (by simp; omega)
        simpa using this
      | j + 1 =>
        have := h (j + 2) (by simp; omega)
        simpa using this

theorem weighP_iff (ps : List (Int × Int)) : weighP ps = true ↔ ∀ i, i < ps.length → 1 ≤ (ps.getD i (0, 0)).2 := by
  unfold weighP
  rw [List.all_eq_true]
  constructor
  · intro h i hi
    have := h ps[i] (List.getElem_mem hi)
    simpa [List.getD, hi] using this
  · intro h p hp
    obtain ⟨i, hi, rfl⟩ := List.getElem_of_mem hp
    have := h i hi
    simpa [List.getD, hi] using this

theorem benchOdd_iff (ps : List (Int × Int)) : benchOdd ps = true ↔ ∃ i, i < ps.length ∧ oddAt ps i = true := by
  unfold benchOdd oddTo
  rw [List.any_eq_true]
  constructor
  · rintro ⟨i, hi, h⟩; exact ⟨i, by simpa using hi, h⟩
  · rintro ⟨i, hi, h⟩; exact ⟨i, by simpa using hi, h⟩

theorem bench_odd (ps : List (Int × Int)) (hf : benchFar ps = false) : benchOdd ps = !mayBenchP ps := by
  have hr : ∀ p ∈ ps, 0 ≤ p.1 ∧ p.1 ≤ 1099511627775 := by
    intro p hp
    simp only [benchFar, Bool.or_eq_false_iff] at hf
    have h := hf.2
    unfold pairsFar at h
    rw [List.any_eq_false] at h
    have h1 := h p hp
    simp only [Bool.or_eq_true, not_or] at h1
    exact inNum_le (by simpa using h1.1)
  have h1 := riseP_iff ps 1 hr
  have h2 := weighP_iff ps
  have h3 := benchOdd_iff ps
  have hg : ∀ i, 0 ≤ (ps.getD i (0, 0)).1 := by
    intro i
    by_cases hi : i < ps.length
    · have := (hr ps[i] (List.getElem_mem hi)).1
      simpa [List.getD, hi] using this
    · simp [List.getD, Nat.le_of_not_lt hi]
  cases hm : mayBenchP ps
  · show benchOdd ps = true
    rw [h3]
    apply Classical.byContradiction
    intro hn
    have hall : ∀ i, i < ps.length → oddAt ps i = false := fun i hi => by
      cases hc : oddAt ps i
      · rfl
      · exact absurd ⟨i, hi, hc⟩ hn
    have e1 : riseP 1 ps = true := h1.2 fun i hi => by
      have ho := hall i hi
      simp only [oddAt, Bool.or_eq_false_iff, Bool.and_eq_false_iff, decide_eq_false_iff_not] at ho
      split
      · omega
      · rename_i hi0
        rcases ho.2 with h | h
        · omega
        · omega
    have e2 : weighP ps = true := h2.2 fun i hi => by
      have ho := hall i hi
      simp only [oddAt, Bool.or_eq_false_iff, Bool.and_eq_false_iff, decide_eq_false_iff_not] at ho
      omega
    unfold mayBenchP at hm
    rw [e1, e2] at hm
    cases hm
  · show benchOdd ps = false
    cases hc : benchOdd ps
    · rfl
    · exfalso
      obtain ⟨i, hi, ho⟩ := h3.1 hc
      simp only [mayBenchP, Bool.and_eq_true] at hm
      have q1 := h1.1 hm.1 i hi
      have q2 := h2.1 hm.2 i hi
      have q3 := hg (i - 1)
      simp only [oddAt, Bool.or_eq_true, Bool.and_eq_true, decide_eq_true_eq] at ho
      split at q1
      · omega
      · omega

theorem bench_same (ps : List (Int × Int)) : resB (seatL 7 (some []) ps) (mayBenchP ps) = outB (benchZ ps) (benchFar ps) (benchOdd ps) ∧ resE (seatL 7 (some []) ps) (mayBenchP ps) = outE (benchFar ps) (benchOdd ps) := by
  have e := bench_rel Rel.nil ps
  simp only [List.nil_append, Bool.false_or] at e
  exact e.res (bench_odd ps)
end Go.Proofs.YtigbfbniicfpdaaGreat.W
