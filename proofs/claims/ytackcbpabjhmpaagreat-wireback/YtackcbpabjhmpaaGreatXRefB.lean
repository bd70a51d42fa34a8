import Derived.Test.YtackcbpabjhmpaaGreatWRefB
namespace Go.Proofs.YtackcbpabjhmpaaGreat
open Go.RowKit
set_option linter.unusedVariables false
set_option linter.unusedSimpArgs false
theorem pairsZ_each (ps : List (Int × Int)) : encZL (eachL pairA ps) = pairsZ ps ∧ (!okL (eachL pairA ps)) = pairsFar ps ∧ wtL (eachL pairA ps) = 12 * ps.length := by
 induction ps with
 | nil => exact ⟨rfl, rfl, rfl⟩
 | cons p r ih =>
  obtain ⟨h1, h2, h3⟩ := ih
  refine ⟨?_, ?_, ?_⟩
  ·simp only [eachL, encZL_append, h1, pairsZ, List.flatMap_cons]
   simp [pairA, encZL, Atom.encZ, List.append_assoc]
  ·have e : pairsFar (p :: r) = ((!inNum p.1 || !inNum p.2) || pairsFar r) := by simp [pairsFar]
   rw [e, ← h2]
   simp only [eachL, okL_append, pairA, okL, far_plain, Bool.and_true, Bool.not_and]
  ·simp only [eachL, wtL_append, h3, pairA, wtL, Atom.wt, List.length_cons]; omega
theorem rbench_anyX (base b : Nat) (x : Lst (Int × Int)) (l : List Atom) (odd : Bool) (w : World) (hb : base ≤ b) (hL : wtL l + wtL (benchL x.xs) ≤ 1099400000000) (R : RefL w b l odd) (hh : x.Held pairF 2 base w) :
  Calls Tryz.prog 65 #[.pointer (some ⟨b, 0, none⟩), .slice x.la x.xs.length x.lc] w fun e w' => e = .returned (.tuple #[]) ∧ RefL w' b (l ++ benchL x.xs) (odd || benchOdd x.xs) ∧ Kp base b w w' := by
 obtain ⟨p1, p2, p3⟩ := pairsZ_each x.xs
 have hl := encZL_len l
 have hps : PairsLt base w x.la x.xs := by
  obtain ⟨_, _, h0 | ⟨rb, ro, e, rl, rz, rc⟩⟩ := hh
  ·exact ⟨by rw [h0]; simp, .inl h0⟩
  ·refine ⟨fun p hp => ?_, .inr ⟨rb, ro, e, rl, fun i p hp => ⟨(rc i p hp).get0 rfl, (rc i p hp).get 1 rfl⟩⟩⟩
   obtain ⟨i, hi⟩ := List.getElem?_of_mem hp
   exact ⟨(rc i p hi).goods.get 0 rfl, (rc i p hi).goods.get 1 rfl⟩
 have hw : wtL (benchL x.xs) = 6 + 12 * x.xs.length := by rw [← p3]; rfl
 refine (rbench_any base b x.la x.lc x.xs (encZL l) (!okL l) odd w hb (by omega) R hps).mono ?_
 rintro e w' ⟨h1, h2, h3⟩
 refine ⟨h1, ?_, h3⟩
 unfold RefL
 have e1 : encZL (l ++ benchL x.xs) = encZL l ++ benchZ x.xs := by
  rw [encZL_append]
  simp only [benchL, listL, encZL, Atom.encZ, p1, benchZ]
 have e2 : (!okL (l ++ benchL x.xs)) = (!okL l || benchFar x.xs) := by
  rw [okL_append, Bool.not_and]
  simp only [benchL, listL, okL, Bool.not_and, p2, benchFar, far_num 7 _ (show (7 : Int) ≤ 1099511627775 by omega)]
 rw [e1, e2]
 exact h2
theorem turn_enc (l : List Atom) (y : Turn) : encZL (l ++ y.atoms) = encZL (l ++ intA y.p ++ digL y.d) := by
 simp only [Turn.atoms, encZL_append, intA, encZL, Atom.encZ, List.append_assoc]
theorem turn_near {w : World} {b : Nat} {l : List Atom} {odd : Bool} {y : Turn} (h : ¬ 288 ≤ y.p) (R : RefL w b (l ++ intA y.p ++ digL y.d) odd) : RefL w b (l ++ y.atoms) odd := by
 have e : okL (l ++ y.atoms) = okL (l ++ intA y.p ++ digL y.d) := by
  simp only [Turn.atoms, okL_append, intA, okL, Atom.ok, Bool.and_assoc, Bool.and_true]
  have h1 : decide (y.p ≤ 287) = true := by simp; omega
  have h2 : decide (y.p ≤ 1099511627775) = true := by simp; omega
  rw [h1, h2]
 unfold RefL at *
 rw [turn_enc, e]; exact R
theorem turn_far {w : World} {b : Nat} {l : List Atom} {odd : Bool} {y : Turn} (h : 288 ≤ y.p) (R : RefL w b (l ++ intA y.p ++ digL y.d) odd) : RefL (w.setCell ⟨b, 1, none⟩ (.bool true)) b (l ++ y.atoms) odd := by
 have e : (!okL (l ++ y.atoms)) = true := by
  simp only [Turn.atoms, okL_append, okL, Atom.ok]
  have h1 : decide (y.p ≤ 287) = false := by simp; omega
  rw [h1]; simp
 unfold RefL at *
 rw [turn_enc, e]; exact RefAt.setF R true
end Go.Proofs.YtackcbpabjhmpaaGreat
