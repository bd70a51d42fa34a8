/- The answer's way through a body, with no program: passes until nothing is new. -/
import Derived.Test.YtmkjlcagdjjbpaaDoorCPure
namespace Go.Proofs.YtmkjlcagdjjbpaaDoor
open Go.RowKit
set_option linter.unusedVariables false
set_option linter.unusedSimpArgs false

/-- What holds of the heights, whatever was found. -/
structure RI (ps : List Pc) (xs : List Ins) (hs : List Int) (ok : Bool) : Prop where
  len : hs.length = xs.length
  low : ∀ (k : Nat) (h : Int), hs[k]? = some h → -1 ≤ h
  high : ∀ (k : Nat) (h : Int), hs[k]? = some h → h + 2 * (unseenN hs : Int) ≤ 2 * (xs.length : Int)
  rch : ok = true → ∀ (k : Nat) (h : Int), hs[k]? = some h → 0 ≤ h → Rch ps xs k h
  bad : ok = false → ¬ Good ps xs
  zero : hs[0]? = some 0
/-- All ahead of i is done. -/
def PD (ps : List Pc) (xs : List Ins) (hs : List Int) (i : Nat) : Prop := ∀ (k : Nat) (h : Int), k < i → hs[k]? = some h → 0 ≤ h → Done ps xs hs k h
/-- While one goes on from instruction i, whose height is x. -/
structure KI (ps : List Pc) (xs : List Ins) (U i : Nat) (x : Int) (ins : Ins) (ts : List Nat) (hs : List Int) (ok again : Bool) (j : Nat) : Prop where
  ri : RI ps xs hs ok
  pos : hs[i]? = some x
  fit : ok = true → takesP ps ins ≤ x ∧ x ≤ 64 ∧ (ins.op = 17 → x = 1)
  pd : again = false → ok = true → PD ps xs hs i
  ks : again = false → ok = true → ∀ t ∈ ts.take j, hs[t]? = some (x - takesP ps ins + leavesP ins)
  me : unseenN hs + (if again = true then 1 else 0) ≤ U

theorem KI.start {ps : List Pc} {xs : List Ins} {U i : Nat} {x : Int} {ins : Ins} {ts : List Nat} {hs : List Int} {ok again : Bool} (R : RI ps xs hs ok) (hx : hs[i]? = some x) (h0 : 0 ≤ x) (hi : xs[i]? = some ins) (pd : again = false → ok = true → PD ps xs hs i) (me : unseenN hs + (if again = true then 1 else 0) ≤ U) :
    KI ps xs U i x ins ts hs (ok && decide (takesP ps ins ≤ x) && decide (x ≤ 64) && (decide (ins.op ≠ 17) || decide (x = 1))) again 0 := by
  refine ⟨⟨R.len, R.low, R.high, fun h => R.rch (by simp at h; exact h.1.1.1), fun h => ?_, R.zero⟩, hx, fun h => ?_, fun a h => pd a (by simp at h; exact h.1.1.1), fun _ _ t ht => by simp at ht, me⟩
  · cases hok : ok
    · exact R.bad hok
    · have r := R.rch hok i x hx h0
      by_cases h1 : takesP ps ins ≤ x
      · by_cases h2 : x ≤ 64
        · have h3 : (decide (ins.op ≠ 17) || decide (x = 1)) = false := by simpa [hok, h1, h2] using h
          simp only [Bool.or_eq_false_iff, decide_eq_false_iff_not, ne_eq, Decidable.not_not] at h3
          exact not_good_back r hi h3.1 h3.2
        · exact not_good_high r (by omega)
      · exact not_good_low r hi (by omega)
  · simp only [Bool.and_eq_true, Bool.or_eq_true, decide_eq_true_eq] at h
    exact ⟨h.1.1.2, h.1.2, fun e => h.2.elim (fun h => absurd e h) id⟩
theorem set_get {hs : List Int} {t : Nat} {n : Int} {k : Nat} {y : Int} (hl : t < hs.length) (h : (hs.set t n)[k]? = some y) : (k = t ∧ y = n) ∨ (k ≠ t ∧ hs[k]? = some y) := by
  rw [List.getElem?_set] at h
  by_cases e : t = k
  · subst e
    simp [hl] at h
    exact .inl ⟨rfl, h.symm⟩
  · simp [e] at h
    exact .inr ⟨fun e2 => e e2.symm, h⟩
theorem take_mem {ts : List Nat} {j t u : Nat} (hj : ts[j]? = some t) (hu : u ∈ ts.take (j + 1)) : u ∈ ts.take j ∨ u = t := by
  have e : ts.take (j + 1) = ts.take j ++ [t] := by rw [List.take_add_one, hj]; rfl
  rw [e] at hu
  simpa using hu
theorem KI.far {ps : List Pc} {xs : List Ins} {U i : Nat} {x : Int} {ins : Ins} {ts : List Nat} {hs : List Int} {ok again : Bool} {j t : Nat} (K : KI ps xs U i x ins ts hs ok again j) (h0 : 0 ≤ x) (hi : xs[i]? = some ins) (hg : t ∈ goOn i ins) (ht : xs.length ≤ t) : KI ps xs U i x ins ts hs false again (j + 1) := by
  refine ⟨⟨K.ri.len, K.ri.low, K.ri.high, fun h => by simp at h, fun _ => ?_, K.ri.zero⟩, K.pos, fun h => by simp at h, fun _ h => by simp at h, fun _ h => by simp at h, K.me⟩
  cases hok : ok
  · exact K.ri.bad hok
  · exact not_good_far (.step (K.ri.rch hok i x K.pos h0) hi hg) ht
theorem KI.new {ps : List Pc} {xs : List Ins} {U i : Nat} {x : Int} {ins : Ins} {ts : List Nat} {hs : List Int} {ok again : Bool} {j t : Nat} {y : Int} (K : KI ps xs U i x ins ts hs ok again j) (h0 : 0 ≤ x) (hi : xs[i]? = some ins) (hg : t ∈ goOn i ins) (hy : hs[t]? = some y) (hy0 : y < 0) (hn : 0 ≤ x - takesP ps ins + leavesP ins) (htk : 0 ≤ takesP ps ins) (hlv : leavesP ins ≤ 2) :
    KI ps xs U i x ins ts (hs.set t (x - takesP ps ins + leavesP ins)) ok true (j + 1) := by
  have hl := (List.getElem?_eq_some_iff.1 hy).1
  have hy1 : hs[t]? = some (-1) := by
    have := K.ri.low t y hy
    rw [hy]
    congr 1
    omega
  have hu := unseen_set hs t _ hy1 hn
  have hti : t ≠ i := by
    intro e
    subst e
    have := K.pos
    rw [hy] at this
    have := Option.some.inj this
    omega
  have ht0 : t ≠ 0 := by
    intro e
    subst e
    have := K.ri.zero
    rw [hy] at this
    have := Option.some.inj this
    omega
  have hhi := K.ri.high i x K.pos
  refine ⟨⟨by simp [K.ri.len], fun k h hk => ?_, fun k h hk => ?_, fun hok k h hk hh => ?_, K.ri.bad, ?_⟩, ?_, K.fit, fun h => by simp at h, fun h => by simp at h, ?_⟩
  · rcases set_get hl hk with ⟨_, rfl⟩ | ⟨_, hk⟩
    · omega
    · exact K.ri.low k h hk
  · rcases set_get hl hk with ⟨_, rfl⟩ | ⟨_, hk⟩
    · omega
    · have := K.ri.high k h hk
      omega
  · rcases set_get hl hk with ⟨rfl, rfl⟩ | ⟨_, hk⟩
    · exact .step (K.ri.rch hok i x K.pos h0) hi hg
    · exact K.ri.rch hok k h hk hh
  · rw [List.getElem?_set]; simp [ht0, K.ri.zero]
  · rw [List.getElem?_set]; simp [hti, K.pos]
  · have := K.me
    simp
    omega
theorem KI.old {ps : List Pc} {xs : List Ins} {U i : Nat} {x : Int} {ins : Ins} {ts : List Nat} {hs : List Int} {ok again : Bool} {j t : Nat} {y : Int} (K : KI ps xs U i x ins ts hs ok again j) (h0 : 0 ≤ x) (hi : xs[i]? = some ins) (hj : ts[j]? = some t) (hg : t ∈ goOn i ins) (hy : hs[t]? = some y) (hy0 : 0 ≤ y ∨ x - takesP ps ins + leavesP ins < 0) (hlv : 0 ≤ leavesP ins) :
    KI ps xs U i x ins ts hs (ok && decide (y = x - takesP ps ins + leavesP ins)) again (j + 1) := by
  refine ⟨⟨K.ri.len, K.ri.low, K.ri.high, fun h => K.ri.rch (by simp at h; exact h.1), fun h => ?_, K.ri.zero⟩, K.pos, fun h => K.fit (by simp at h; exact h.1), fun a h => K.pd a (by simp at h; exact h.1), fun a h u hu => ?_, K.me⟩
  · cases hok : ok
    · exact K.ri.bad hok
    · have hne : ¬ y = x - takesP ps ins + leavesP ins := by simpa [hok] using h
      have hf := K.fit hok
      have hy1 : 0 ≤ y := by rcases hy0 with h | h <;> omega
      exact not_good_two (.step (K.ri.rch hok i x K.pos h0) hi hg) (K.ri.rch hok t y hy hy1) hne
  · simp only [Bool.and_eq_true, decide_eq_true_eq] at h
    rcases take_mem hj hu with hu | rfl
    · exact K.ks a h.1 u hu
    · rw [hy, h.2]
theorem KI.finish {ps : List Pc} {xs : List Ins} {U i : Nat} {x : Int} {ins : Ins} {ts : List Nat} {hs : List Int} {ok again : Bool} {j : Nat} (K : KI ps xs U i x ins ts hs ok again j) (hj : ts.length ≤ j) (hi : xs[i]? = some ins) (hall : ∀ t ∈ goOn i ins, t ∈ ts) (hlv : 0 ≤ leavesP ins) : again = false → ok = true → PD ps xs hs (i + 1) := by
  intro a h k y hk hy hy0
  by_cases hki : k < i
  · exact K.pd a h k y hki hy hy0
  obtain rfl : k = i := by omega
  obtain rfl : y = x := Option.some.inj (hy.symm.trans K.pos)
  obtain ⟨f1, f2, f3⟩ := K.fit h
  refine ⟨f2, fun i' hi' => ?_⟩
  obtain rfl : ins = i' := Option.some.inj (hi.symm.trans hi')
  refine ⟨f1, f3, fun t ht => ⟨K.ks a h t ?_, by omega⟩⟩
  rw [List.take_of_length_le hj]
  exact hall t ht
theorem PD.skip {ps : List Pc} {xs : List Ins} {hs : List Int} {i : Nat} {x : Int} (h : PD ps xs hs i) (hx : hs[i]? = some x) (h0 : x < 0) : PD ps xs hs (i + 1) := by
  intro k y hk hy hy0
  by_cases hki : k < i
  · exact h k y hki hy hy0
  obtain rfl : k = i := by omega
  have := Option.some.inj (hy.symm.trans hx)
  omega
theorem RI.start {ps : List Pc} {xs : List Ins} (h : 0 < xs.length) : RI ps xs ((List.replicate xs.length (-1)).set 0 0) true := by
  have hl : 0 < (List.replicate xs.length (-1 : Int)).length := by simpa using h
  have key : ∀ (k : Nat) (y : Int), ((List.replicate xs.length (-1)).set 0 0)[k]? = some y → (k = 0 ∧ y = 0) ∨ y = -1 := by
    intro k y hk
    rcases set_get hl hk with ⟨h1, h2⟩ | ⟨_, h2⟩
    · exact .inl ⟨h1, h2⟩
    · have := List.getElem?_replicate ▸ h2
      split at this
      · exact .inr (Option.some.inj this).symm
      · simp at this
  have hu : unseenN ((List.replicate xs.length (-1)).set 0 0) + 1 = xs.length := by
    have := unseen_set (List.replicate xs.length (-1)) 0 0 (by rw [List.getElem?_replicate]; simp [h]) (Int.le_refl _)
    rw [this]
    unfold unseenN
    rw [List.countP_replicate]
    simp
  refine ⟨by simp, fun k y hk => ?_, fun k y hk => ?_, fun _ k y hk h0 => ?_, fun h => by simp at h, ?_⟩
  · rcases key k y hk with ⟨_, h⟩ | h <;> omega
  · rcases key k y hk with ⟨_, h⟩ | h <;> omega
  · rcases key k y hk with ⟨rfl, rfl⟩ | h
    · exact .start
    · omega
  · rw [List.getElem?_set]; simp [h]
theorem RI.good {ps : List Pc} {xs : List Ins} {hs : List Int} {ok : Bool} (R : RI ps xs hs ok) (pd : ok = true → PD ps xs hs xs.length) : goodB ps xs = ok := by
  cases hok : ok
  · exact goodB_false (R.bad hok)
  · refine goodB_true (good_of_done R.len R.zero fun k h hk h0 => pd hok k h ?_ hk h0)
    have := (List.getElem?_eq_some_iff.1 hk).1
    rw [← R.len]; exact this
/-- Where the answer goes on, in its order. -/
def goTo (k : Nat) (i : Ins) : List Nat := if i.op = 17 then [] else if i.op = 14 then [i.a.toNat] else if i.op = 15 then [i.a.toNat, k + 1] else [k + 1]
theorem goTo_mem (k : Nat) (i : Ins) (t : Nat) : t ∈ goTo k i ↔ t ∈ goOn k i := by
  unfold goTo goOn
  split
  · rfl
  · split
    · rfl
    · split
      · simp [or_comm]
      · rfl
theorem goTo_len (k : Nat) (i : Ins) : (goTo k i).length ≤ 2 := by
  unfold goTo
  split
  · simp
  · split
    · simp
    · split <;> simp
end Go.Proofs.YtmkjlcagdjjbpaaDoor
