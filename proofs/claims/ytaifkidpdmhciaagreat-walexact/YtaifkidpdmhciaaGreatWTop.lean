/- What the program's Put and the answer's say of numbers, votes, pairs of votes, parcels, accounts: the same (chapter 1, W3, W5). -/
import Derived.Test.YtaifkidpdmhciaaGreatM23
import Derived.Test.YtaifkidpdmhciaaGreatM03
import Derived.Test.YtaifkidpdmhciaaGreatM27
namespace Go.Proofs.YtaifkidpdmhciaaGreat
open Go.RowKit
set_option linter.unusedVariables false

/-- The walk has given up just where something is too far; else both have written the same. -/
def Rel (o : Option (List UInt8)) (Z : List UInt8) (F : Bool) : Prop := (F = true ∧ o = none) ∨ (F = false ∧ o = some Z)
theorem Rel.nil : Rel (some []) [] false := .inr ⟨rfl, rfl⟩
theorem Rel.num {o : Option (List UInt8)} {Z : List UInt8} {F : Bool} (h : Rel o Z F) (n : Int) : Rel (pNum 1099511627775 o n) (Z ++ numZ n) (F || !inNum n) := by
  rcases h with ⟨rfl, rfl⟩ | ⟨rfl, rfl⟩
  · exact .inl ⟨by simp, rfl⟩
  · by_cases hn : 0 ≤ n ∧ n ≤ 1099511627775
    · have hi : inNum n = true := by simp [inNum, hn.1, hn.2]
      exact .inr ⟨by simp [hi], by simp [pNum, hn.1, hn.2, numZ, hi]⟩
    · have hi : inNum n = false := by
        cases hc : inNum n
        · rfl
        · exfalso; apply hn; simpa [inNum] using hc
      refine .inl ⟨by simp [hi], ?_⟩
      simp only [pNum, Option.bind_some]
      rw [if_neg hn]
theorem Rel.app {o : Option (List UInt8)} {Z : List UInt8} {F : Bool} (h : Rel o Z F) (l : List UInt8) : Rel (oApp o l) (Z ++ l) F := by
  rcases h with ⟨rfl, rfl⟩ | ⟨rfl, rfl⟩
  · exact .inl ⟨rfl, rfl⟩
  · exact .inr ⟨rfl, rfl⟩
theorem Rel.res {o : Option (List UInt8)} {Z : List UInt8} {F odd m : Bool} (h : Rel o Z F) (hm : F = false → odd = !m) : resB o m = outB Z F odd ∧ resE o m = outE F odd := by
  rcases h with ⟨rfl, rfl⟩ | ⟨rfl, rfl⟩
  · exact ⟨rfl, rfl⟩
  · rw [hm rfl]
    cases m <;> exact ⟨rfl, rfl⟩
theorem inNum_le {n : Int} (h : inNum n = true) : 0 ≤ n ∧ n ≤ 1099511627775 := by simpa [inNum] using h
theorem not_false {b : Bool} (h : (!b) = false) : b = true := by cases b <;> simp_all

theorem num_same (n : Int) : resB (pNum 1099511627775 (some []) n) true = outB (numZ n) (!inNum n) false ∧ resE (pNum 1099511627775 (some []) n) true = outE (!inNum n) false := by
  have h := Rel.nil.num n
  simp only [List.nil_append, Bool.false_or] at h
  exact h.res (fun _ => rfl)
theorem vote_rel {o : Option (List UInt8)} {Z : List UInt8} {F : Bool} (H : Rel o Z F) (h r s : Int) (has : Bool) (bl f : Int) : Rel (voteP o h r s has bl f) (Z ++ voteZ h r s has bl f) (F || voteFar h r s f) := by
  have e := ((((((H.num h).num r).num s).app (flagB has)).app (be bl 8)).num f)
  have e1 : Z ++ numZ h ++ numZ r ++ numZ s ++ flagB has ++ be bl 8 ++ numZ f = Z ++ voteZ h r s has bl f := by simp [voteZ, List.append_assoc]
  have e2 : (F || !inNum h || !inNum r || !inNum s || !inNum f) = (F || voteFar h r s f) := by simp [voteFar, Bool.or_assoc]
  rw [e1, e2] at e
  exact e
theorem vote_odd (h r s : Int) (has : Bool) (bl f : Int) (hf : voteFar h r s f = false) : voteOdd s has bl f = !mayVoteP s has bl f := by
  simp only [voteFar, Bool.or_eq_false_iff] at hf
  have hs := inNum_le (not_false hf.1.2)
  unfold voteOdd mayVoteP
  cases has <;> by_cases h1 : 2 < s <;> by_cases h2 : f < 1 <;> by_cases h3 : bl = 0 <;> by_cases h4 : s = 0 <;> simp_all <;> omega
theorem vote_same (h r s : Int) (has : Bool) (bl f : Int) : resB (voteP (some []) h r s has bl f) (mayVoteP s has bl f) = outB (voteZ h r s has bl f) (voteFar h r s f) (voteOdd s has bl f) ∧ resE (voteP (some []) h r s has bl f) (mayVoteP s has bl f) = outE (voteFar h r s f) (voteOdd s has bl f) := by
  have e := vote_rel Rel.nil h r s has bl f
  simp only [List.nil_append, Bool.false_or] at e
  exact e.res (vote_odd h r s has bl f)
theorem parcel_same (k t a : Int) : resB (parcelP (some []) k t a) (mayParcelP k t) = outB (parcelZ k t a) (parcelFar k t a) (parcelOdd k t) ∧ resE (parcelP (some []) k t a) (mayParcelP k t) = outE (parcelFar k t a) (parcelOdd k t) := by
  have e := ((Rel.nil.num k).num t).num a
  simp only [List.nil_append, Bool.false_or] at e
  refine Rel.res (Z := parcelZ k t a) (F := parcelFar k t a) e (fun hf => ?_)
  unfold parcelOdd mayParcelP
  by_cases h1 : k < 1 <;> by_cases h2 : 2 < k <;> by_cases h3 : t < 1 <;> by_cases h4 : k = 1 <;> by_cases h5 : k = 2 <;> simp_all <;> omega
theorem account_same (ba fo no bo le fr : Int) (ja : Bool) : resB (accountP (some []) ba fo no bo le fr ja) true = outB (accountZ ba fo no bo le fr ja) (accountFar ba fo no bo le fr) false ∧ resE (accountP (some []) ba fo no bo le fr ja) true = outE (accountFar ba fo no bo le fr) false := by
  have e := (((((((Rel.nil.num ba).num fo).num no).num bo).num le).num fr).app (flagB ja))
  simp only [List.nil_append, Bool.false_or] at e
  exact Rel.res (Z := accountZ ba fo no bo le fr ja) (F := accountFar ba fo no bo le fr) e (fun _ => rfl)
theorem guilt_same (h r s : Int) (has : Bool) (bl f h2 r2 s2 : Int) (has2 : Bool) (bl2 f2 : Int) :
    resB (voteP (voteP (some []) h r s has bl f) h2 r2 s2 has2 bl2 f2) (mayVoteP s has bl f && mayVoteP s2 has2 bl2 f2) = outB (voteZ h r s has bl f ++ voteZ h2 r2 s2 has2 bl2 f2) (voteFar h r s f || voteFar h2 r2 s2 f2) (voteOdd s has bl f || voteOdd s2 has2 bl2 f2) ∧
    resE (voteP (voteP (some []) h r s has bl f) h2 r2 s2 has2 bl2 f2) (mayVoteP s has bl f && mayVoteP s2 has2 bl2 f2) = outE (voteFar h r s f || voteFar h2 r2 s2 f2) (voteOdd s has bl f || voteOdd s2 has2 bl2 f2) := by
  have e := vote_rel (vote_rel Rel.nil h r s has bl f) h2 r2 s2 has2 bl2 f2
  simp only [List.nil_append, Bool.false_or] at e
  refine e.res (fun hf => ?_)
  simp only [Bool.or_eq_false_iff] at hf
  rw [vote_odd h r s has bl f hf.1, vote_odd h2 r2 s2 has2 bl2 f2 hf.2, Bool.not_and]



















end Go.Proofs.YtaifkidpdmhciaaGreat
