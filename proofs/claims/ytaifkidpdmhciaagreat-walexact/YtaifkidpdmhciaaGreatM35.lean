/- What the answer says of pairs of votes; benches: when one may be, told in two ways. -/
import Derived.Test.YtaifkidpdmhciaaGreatWTop
import Derived.Test.YtaifkidpdmhciaaGreatM24
import Derived.Test.YtaifkidpdmhciaaGreatM27
import Derived.Test.YtaifkidpdmhciaaGreatXMay3
import Derived.Test.YtaifkidpdmhciaaGreatXRefB
import Derived.Test.YtaifkidpdmhciaaGreatXPut
import Derived.Test.YtaifkidpdmhciaaGreatXWalk3
import Derived.Test.YtaifkidpdmhciaaGreatXRef3

namespace Go.Proofs.YtaifkidpdmhciaaGreat
open Go.RowKit
set_option linter.unusedVariables false



theorem Rel.numM {o : Option (List UInt8)} {Z : List UInt8} {F : Bool} (h : Rel o Z F) (most n : Int) (hm : most ≤ 1099511627775) (hn : 0 ≤ n) : Rel (pNum most o n) (Z ++ numZ n) (F || decide (most < n) || !inNum n) := by
  rcases h with ⟨rfl, rfl⟩ | ⟨rfl, rfl⟩
  · exact .inl ⟨by simp, rfl⟩
  · by_cases hc : n ≤ most
    · have hi : inNum n = true := by simp [inNum, hn]; omega
      have hd : decide (most < n) = false := by simpa using hc
      exact .inr ⟨by simp [hi, hd], by simp [pNum, hn, hc, numZ, hi]⟩
    · have hd : decide (most < n) = true := by simp; omega
      refine .inl ⟨by simp [hd], ?_⟩
      simp only [pNum, Option.bind_some]
      rw [if_neg (by omega)]
theorem seats_rel (ps : List (Int × Int)) : ∀ {o : Option (List UInt8)} {Z : List UInt8} {F : Bool}, Rel o Z F → Rel (seats o ps) (Z ++ pairsZ ps) (F || pairsFar ps) := by
  induction ps with
  | nil => intro o Z F h; simpa [seats, pairsZ, pairsFar] using h
  | cons p r ih =>
    intro o Z F h
    have e := ih ((h.num p.1).num p.2)
    have e1 : Z ++ numZ p.1 ++ numZ p.2 ++ pairsZ r = Z ++ pairsZ (p :: r) := by simp [pairsZ, List.append_assoc]
    have e2 : (F || !inNum p.1 || !inNum p.2 || pairsFar r) = (F || pairsFar (p :: r)) := by simp [pairsFar, Bool.or_assoc]
    rw [e1, e2] at e
    exact e
theorem notes_rel (ps : List (Int × Int)) : ∀ {o : Option (List UInt8)} {Z : List UInt8} {F : Bool}, Rel o Z F → Rel (notes o ps) (Z ++ pairsZ ps) (F || pairsFar ps) := by
  induction ps with
  | nil => intro o Z F h; simpa [notes, pairsZ, pairsFar] using h
  | cons p r ih =>
    intro o Z F h
    have e := ih ((h.num p.1).num p.2)
    have e1 : Z ++ numZ p.1 ++ numZ p.2 ++ pairsZ r = Z ++ pairsZ (p :: r) := by simp [pairsZ, List.append_assoc]
    have e2 : (F || !inNum p.1 || !inNum p.2 || pairsFar r) = (F || pairsFar (p :: r)) := by simp [pairsFar, Bool.or_assoc]
    rw [e1, e2] at e
    exact e
theorem bench_rel {o : Option (List UInt8)} {Z : List UInt8} {F : Bool} (h : Rel o Z F) (ps : List (Int × Int)) : Rel (seatL 7 o ps) (Z ++ benchZ ps) (F || benchFar ps) := by
  have e := seats_rel ps (h.numM 7 (ps.length : Int) (by omega) (by omega))
  have e1 : Z ++ numZ (ps.length : Int) ++ pairsZ ps = Z ++ benchZ ps := by simp [benchZ, List.append_assoc]
  have e2 : (F || decide ((7 : Int) < ps.length) || !inNum ps.length || pairsFar ps) = (F || benchFar ps) := by simp [benchFar, Bool.or_assoc]
  rw [e1, e2] at e
  exact e

theorem riseP_iff : ∀ (ps : List (Int × Int)) (least : Int), (∀ p ∈ ps, 0 ≤ p.1 ∧ p.1 ≤ 1099511627775) →
    (riseP least ps = true ↔ ∀ i, i < ps.length → (if i = 0 then least else (ps.getD (i - 1) (0, 0)).1 + 1) ≤ (ps.getD i (0, 0)).1)
  | [], least, _ => by simp [riseP]
  | p :: r, least, hr => by
    have hp := hr p List.mem_cons_self
    have hw : wrap64 (p.1 + 1) = p.1 + 1 := by unfold wrap64; omega
    have ih := riseP_iff r (p.1 + 1) (fun q hq => hr q (List.mem_cons_of_mem _ hq))
    have e : riseP least (p :: r) = if p.1 < least then false else riseP (wrap64 (p.1 + 1)) r := rfl
    rw [e, hw]
    constructor
    · intro h
      split at h
      · cases h
      · rename_i hge
        have h2 := ih.1 h
        intro i hi
        match i with
        | 0 => simp; omega
        | 1 =>
          have := h2 0 (by simp at hi; omega)
          simpa using this
        | j + 2 =>
          have := h2 (j + 1) (by simp at hi; omega)
          simpa using this
    · intro h
      have h0 := h 0 (by simp)
      simp at h0
      rw [if_neg (by omega)]
      refine ih.2 fun i hi => ?_
      match i with
      | 0 =>
        have := h 1 (by simp; omega)
        simpa using this
      | j + 1 =>
        have := h (j + 2) (by simp; omega)
        simpa using this
theorem weighP_iff (ps : List (Int × Int)) : weighP ps = true ↔ ∀ i, i < ps.length → 1 ≤ (ps.getD i (0, 0)).2 := by
  unfold weighP
  rw [List.all_eq_true]
  constructor
  · intro h i hi
    have := h ps[i] (List.getElem_mem hi)
    simpa [List.getD, hi] using this
  · intro h p hp
    obtain ⟨i, hi, rfl⟩ := List.getElem_of_mem hp
    have := h i hi
    simpa [List.getD, hi] using this
theorem benchOdd_iff (ps : List (Int × Int)) : benchOdd ps = true ↔ ∃ i, i < ps.length ∧ oddAt ps i = true := by
  unfold benchOdd oddTo
  rw [List.any_eq_true]
  constructor
  · rintro ⟨i, hi, h⟩; exact ⟨i, by simpa using hi, h⟩
  · rintro ⟨i, hi, h⟩; exact ⟨i, by simpa using hi, h⟩
theorem bench_odd (ps : List (Int × Int)) (hf : benchFar ps = false) : benchOdd ps = !mayBenchP ps := by
  have hr : ∀ p ∈ ps, 0 ≤ p.1 ∧ p.1 ≤ 1099511627775 := by
    intro p hp
    simp only [benchFar, Bool.or_eq_false_iff] at hf
    have h := hf.2
    unfold pairsFar at h
    rw [List.any_eq_false] at h
    have h1 := h p hp
    simp only [Bool.or_eq_true, not_or] at h1
    exact inNum_le (by simpa using h1.1)
  have h1 := riseP_iff ps 1 hr
  have h2 := weighP_iff ps
  have h3 := benchOdd_iff ps
  have hg : ∀ i, 0 ≤ (ps.getD i (0, 0)).1 := by
    intro i
    by_cases hi : i < ps.length
    · have := (hr ps[i] (List.getElem_mem hi)).1
      simpa [List.getD, hi] using this
    · simp [List.getD, Nat.le_of_not_lt hi]
  cases hm : mayBenchP ps
  · show benchOdd ps = true
    rw [h3]
    apply Classical.byContradiction
    intro hn
    have hall : ∀ i, i < ps.length → oddAt ps i = false := fun i hi => by
      cases hc : oddAt ps i
      · rfl
      · exact absurd ⟨i, hi, hc⟩ hn
    have e1 : riseP 1 ps = true := h1.2 fun i hi => by
      have ho := hall i hi
      simp only [oddAt, Bool.or_eq_false_iff, Bool.and_eq_false_iff, decide_eq_false_iff_not] at ho
      split
      · omega
      · rename_i hi0
        rcases ho.2 with h | h
        · omega
        · omega
    have e2 : weighP ps = true := h2.2 fun i hi => by
      have ho := hall i hi
      simp only [oddAt, Bool.or_eq_false_iff, Bool.and_eq_false_iff, decide_eq_false_iff_not] at ho
      omega
    unfold mayBenchP at hm
    rw [e1, e2] at hm
    cases hm
  · show benchOdd ps = false
    cases hc : benchOdd ps
    · rfl
    · exfalso
      obtain ⟨i, hi, ho⟩ := h3.1 hc
      simp only [mayBenchP, Bool.and_eq_true] at hm
      have q1 := h1.1 hm.1 i hi
      have q2 := h2.1 hm.2 i hi
      have q3 := hg (i - 1)
      simp only [oddAt, Bool.or_eq_true, Bool.and_eq_true, decide_eq_true_eq] at ho
      split at q1
      · omega
      · omega
theorem bench_same (ps : List (Int × Int)) : resB (seatL 7 (some []) ps) (mayBenchP ps) = outB (benchZ ps) (benchFar ps) (benchOdd ps) ∧ resE (seatL 7 (some []) ps) (mayBenchP ps) = outE (benchFar ps) (benchOdd ps) := by
  have e := bench_rel Rel.nil ps
  simp only [List.nil_append, Bool.false_or] at e
  exact e.res (bench_odd ps)
end Go.Proofs.YtaifkidpdmhciaaGreat

namespace Go.Proofs.YtaifkidpdmhciaaGreat
open Go.RowKit
set_option linter.unusedVariables false
set_option linter.unusedSimpArgs false

theorem okL_each {α : Type} {atoms : α → List Atom} {xs : List α} (h : okL (eachL atoms xs) = true) : ∀ x ∈ xs, okL (atoms x) = true := by
  induction xs with
  | nil => intro x hx; simp at hx
  | cons y ys ih =>
    simp only [eachL, okL_append, Bool.and_eq_true] at h
    intro x hx
    rcases List.mem_cons.1 hx with rfl | hx
    · exact h.1
    · exact ih h.2 x hx
theorem okL_list {α : Type} {most : Int} {atoms : α → List Atom} {xs : List α} (h : okL (listL most atoms xs) = true) : (xs.length : Int) ≤ most ∧ ∀ x ∈ xs, okL (atoms x) = true := by
  simp only [listL, okL, Bool.and_eq_true, Atom.ok, decide_eq_true_eq] at h
  exact ⟨h.1.2, okL_each h.2⟩
theorem okL_int {n : Int} (h : okL (intA n) = true) : 0 ≤ n ∧ n ≤ 1099511627775 := by
  simpa [intA, okL, Atom.ok] using h
theorem any_all {α : Type} {o m : α → Bool} {xs : List α} (h : ∀ x ∈ xs, o x = !m x) : xs.any o = !xs.all m := by
  induction xs with
  | nil => rfl
  | cons y ys ih =>
    simp only [List.any_cons, List.all_cons]
    rw [h y (by simp), ih fun x hx => h x (by simp [hx])]
    cases m y <;> simp
theorem riseI_pairs (xs : List Int) : ∀ least, riseI least xs = riseP least (xs.map fun n => (n, 0)) := by
  induction xs with
  | nil => intro l; rfl
  | cons n r ih => intro l; simp only [riseI, List.map_cons, riseP, ih]
theorem getD_pairs (xs : List Int) (i : Nat) : ((xs.map fun n => (n, (0 : Int))).getD i (0, 0)).1 = xs.getD i 0 := by
  simp only [List.getD, List.getElem?_map]
  cases xs[i]? <;> rfl
theorem riseI_iff (xs : List Int) (least : Int) (h : ∀ n ∈ xs, 0 ≤ n ∧ n ≤ 1099511627775) :
    riseI least xs = true ↔ ∀ i, i < xs.length → (if i = 0 then least else xs.getD (i - 1) 0 + 1) ≤ xs.getD i 0 := by
  rw [riseI_pairs, riseP_iff _ _ (by
    intro p hp
    obtain ⟨n, hn, rfl⟩ := List.mem_map.1 hp
    exact h n hn)]
  simp only [List.length_map, getD_pairs]
theorem rise_same (xs : List Int) (h : ∀ n ∈ xs, 0 ≤ n ∧ n ≤ 1099511627775) : riseOdd xs xs.length = !riseI 1 xs := by
  have hi := riseI_iff xs 1 h
  have hg : ∀ i, 0 ≤ xs.getD i 0 := by
    intro i
    by_cases hl : i < xs.length
    · simpa [List.getD, hl] using (h xs[i] (List.getElem_mem hl)).1
    · simp [List.getD, Nat.le_of_not_lt hl]
  cases hm : riseI 1 xs
  · show riseOdd xs xs.length = true
    apply Classical.byContradiction
    intro hn
    have hall : ∀ i, i < xs.length → stepOdd xs i = false := fun i hl => by
      cases hc : stepOdd xs i
      · rfl
      · exact absurd (List.any_eq_true.2 ⟨i, List.mem_range.2 hl, hc⟩) hn
    have e1 : riseI 1 xs = true := hi.2 fun i hl => by
      have ho := hall i hl
      simp only [stepOdd, Bool.or_eq_false_iff, Bool.and_eq_false_iff, decide_eq_false_iff_not] at ho
      split
      · omega
      · rcases ho.2 with h | h <;> omega
    rw [e1] at hm
    cases hm
  · show riseOdd xs xs.length = false
    cases hc : riseOdd xs xs.length
    · rfl
    · exfalso
      obtain ⟨i, hl, ho⟩ := List.any_eq_true.1 hc
      have q1 := hi.1 hm i (List.mem_range.1 hl)
      have q3 := hg (i - 1)
      simp only [stepOdd, Bool.or_eq_true, Bool.and_eq_true, decide_eq_true_eq] at ho
      split at q1 <;> omega
theorem backs_same (xs : List Turn) (h : ∀ n ∈ xs, 0 ≤ n.p ∧ n.p ≤ 1099511627775) : backsOdd xs xs.length = !riseI 0 (xs.map Turn.p) := by
  have hp : ∀ n ∈ xs.map Turn.p, 0 ≤ n ∧ n ≤ 1099511627775 := by
    intro n hn
    obtain ⟨y, hy, rfl⟩ := List.mem_map.1 hn
    exact h y hy
  have hi := riseI_iff (xs.map Turn.p) 0 hp
  rw [List.length_map] at hi
  have hg : ∀ i, 0 ≤ (xs.map Turn.p).getD i 0 := by
    intro i
    by_cases hl : i < (xs.map Turn.p).length
    · have h1 := (hp ((xs.map Turn.p)[i]'hl) (List.getElem_mem hl)).1
      have h2 : (xs.map Turn.p).getD i 0 = (xs.map Turn.p)[i]'hl := by simp only [List.getD, List.getElem?_eq_getElem hl, Option.getD_some]
      rw [h2]; exact h1
    · simp [List.getD, Nat.le_of_not_lt (by simpa using hl)]
  cases hm : riseI 0 (xs.map Turn.p)
  · show backsOdd xs xs.length = true
    apply Classical.byContradiction
    intro hn
    have hall : ∀ i, i < xs.length → backOdd xs i = false := fun i hl => by
      cases hc : backOdd xs i
      · rfl
      · exact absurd (List.any_eq_true.2 ⟨i, List.mem_range.2 hl, hc⟩) hn
    have e1 : riseI 0 (xs.map Turn.p) = true := hi.2 fun i hl => by
      have ho := hall i hl
      simp only [backOdd, Bool.and_eq_false_iff, decide_eq_false_iff_not] at ho
      have := hg i
      split
      · omega
      · rcases ho with h | h <;> omega
    rw [e1] at hm
    cases hm
  · show backsOdd xs xs.length = false
    cases hc : backsOdd xs xs.length
    · rfl
    · exfalso
      obtain ⟨i, hl, ho⟩ := List.any_eq_true.1 hc
      have q1 := hi.1 hm i (List.mem_range.1 hl)
      simp only [backOdd, Bool.and_eq_true, decide_eq_true_eq] at ho
      split at q1 <;> omega
theorem Cert.odd_may (x : Cert) (h : okL x.atoms = true) : x.odd = !x.may := by
  simp only [Cert.atoms, okL_append, Bool.and_eq_true] at h
  have hl := okL_list h.2
  unfold Cert.odd Cert.may
  rw [rise_same x.fr.xs fun n hn => okL_int (hl.2 n hn)]
  cases (decide (x.s ≠ 1) && decide (x.s ≠ 2)) <;> cases (!x.has && decide (x.bl ≠ 0)) <;> simp
theorem Proof.odd_may (x : Proof) (h : okL x.atoms = true) : x.odd = !x.may := by
  simp only [Proof.atoms, okL_append, Bool.and_eq_true] at h
  have hl := okL_list h.1.1.1
  have hp : ∀ y ∈ x.tu.xs, 0 ≤ y.p ∧ y.p ≤ 1099511627775 := fun y hy => by
    have h1 := hl.2 y hy
    simp only [Turn.atoms, okL_append, okL, Atom.ok, Bool.and_eq_true, decide_eq_true_eq] at h1
    omega
  unfold Proof.odd Proof.may
  rw [backs_same x.tu.xs hp]
  cases hv : x.leaf
  · by_cases h0 : x.tu.xs.length = 0
    · have e : x.tu.xs = [] := List.eq_nil_of_length_eq_zero h0
      rw [e]
      by_cases h1 : x.key = [] <;> by_cases h2 : x.val = [] <;> simp [h1, h2, riseI]
    · have h0' : 0 < x.tu.xs.length := by omega
      simp only [h0, h0', decide_true, decide_false]
      simp
  · by_cases h2 : x.val = [] <;> simp [h2]
theorem Sight.odd_may (x : Sight) (h : okL x.atoms = true) : x.odd = !x.may := by
  simp only [Sight.atoms, okL_append, Bool.and_eq_true] at h
  have hb : benchFar x.se.xs = false := by
    obtain ⟨_, p2, _⟩ := pairsZ_each x.se.xs
    have e2 : (!okL (benchL x.se.xs)) = benchFar x.se.xs := by
      simp only [benchL, listL, okL, Bool.not_and, p2, benchFar, far_num 7 _ (show (7 : Int) ≤ 1099511627775 by omega)]
    rw [← e2, h.2]; rfl
  unfold Sight.odd Sight.may
  rw [x.ce.odd_may h.1.2, bench_odd x.se.xs hb]
  simp
theorem Tx.odd_may (x : Tx) (h : okL x.atoms = true) : x.odd = !x.may := by
  simp only [Tx.atoms, okL_append, Bool.and_eq_true] at h
  have hs := okL_list h.1.2
  have hp := okL_list h.2
  have hn : 0 ≤ x.to := by
    have h1 := h.1.1.1.1
    simp only [nums, List.map, okL, Atom.ok, Bool.and_eq_true, decide_eq_true_eq] at h1
    omega
  have e1 : x.si.xs.any Sight.odd = !x.si.xs.all Sight.may := any_all fun y hy => y.odd_may (hs.2 y hy)
  have e2 : x.pr.xs.any Proof.odd = !x.pr.xs.all Proof.may := any_all fun y hy => y.odd_may (hp.2 y hy)
  have e3 : ((isTo x.k && decide (x.to < 1)) || (!isTo x.k && decide (x.to ≠ 0))) = (isTo x.k != decide (1 ≤ x.to)) := by
    by_cases h1 : 1 ≤ x.to
    · have h2 : ¬ x.to < 1 := by omega
      have h3 : ¬ x.to = 0 := by omega
      cases isTo x.k <;> simp [h1, h2, h3]
    · have h2 : x.to = 0 := by omega
      rw [h2]
      cases isTo x.k <;> simp
  have e4 : (decide (x.k ≠ 2) && decide (x.k ≠ 3) && decide (x.te ≠ [])) = (!isTx x.k && decide (x.te ≠ [])) := by
    unfold isTx
    by_cases h2 : x.k = 2 <;> by_cases h3 : x.k = 3 <;> simp [h2, h3]
  have e5 : (decide (x.k ≠ 3) && decide (0 < x.ar.xs.length)) = (!decide (x.k = 3) && decide (0 < x.ar.xs.length)) := by
    by_cases h3 : x.k = 3 <;> simp [h3]
  have e6 : (decide (x.k = 9) != decide (x.si.xs.length = 1)) = decide (nSi x.k ≠ (x.si.xs.length : Int)) := by
    have h1 := hs.1
    unfold nSi
    by_cases h2 : x.k = 9 <;> by_cases h3 : x.si.xs.length = 1
    · simp [h2, h3]
    · have : x.si.xs.length = 0 := by omega
      simp [h2, this]
    · simp [h2, h3]
    · have : x.si.xs.length = 0 := by omega
      simp [h2, this]
  have e7 : (decide (x.k = 10) != decide (x.pr.xs.length = 1)) = decide (nPr x.k ≠ (x.pr.xs.length : Int)) := by
    have h1 := hp.1
    unfold nPr
    by_cases h2 : x.k = 10 <;> by_cases h3 : x.pr.xs.length = 1
    · simp [h2, h3]
    · have : x.pr.xs.length = 0 := by omega
      simp [h2, this]
    · simp [h2, h3]
    · have : x.pr.xs.length = 0 := by omega
      simp [h2, this]
  unfold Tx.odd Tx.may Tx.bad1 Tx.bad2 Tx.bad3 Tx.bad4
  rw [e1, e2, e3, e4, e5, e6, e7]
  generalize x.si.xs.all Sight.may = b1
  generalize x.pr.xs.all Proof.may = b2
  generalize (decide (x.k < 1) || decide (10 < x.k) || decide (x.f < 1)) = b3
  generalize (isTo x.k != decide (1 ≤ x.to)) = b4
  generalize (!isAm x.k && decide (x.am ≠ 0)) = b5
  generalize (!isTx x.k && decide (x.te ≠ [])) = b6
  generalize (!decide (x.k = 3) && decide (0 < x.ar.xs.length)) = b7
  generalize decide (nSi x.k ≠ (x.si.xs.length : Int)) = b8
  generalize decide (nPr x.k ≠ (x.pr.xs.length : Int)) = b9
  revert b1 b2 b3 b4 b5 b6 b7 b8 b9
  decide
end Go.Proofs.YtaifkidpdmhciaaGreat

namespace Go.Proofs.YtaifkidpdmhciaaGreat
open Go.RowKit
set_option linter.unusedVariables false
set_option linter.unusedSimpArgs false

theorem put_same {l : List Atom} {odd m : Bool} (hf : fitL l) (ho : okL l = true → odd = !m) :
    resB (if okL l = true then some ([] ++ encL l) else none) m = outB (encZL l) (!okL l) odd ∧ resE (if okL l = true then some ([] ++ encL l) else none) m = outE (!okL l) odd := by
  by_cases h : okL l = true
  · rw [if_pos h, ho h, h, encL_eq l hf h]
    cases m <;> simp [resB, resE, outB, outE]
  · have h' : okL l = false := by simpa using h
    rw [if_neg h, h']
    simp [resB, resE, outB, outE]















end Go.Proofs.YtaifkidpdmhciaaGreat
