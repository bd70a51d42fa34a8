/- What is written, as a list of parts: numbers that have a bound, and bytes as they are. -/
import Derived.Test.YtaidiomaaldphaaWNums
namespace Go.Proofs.Ytaidiomaaldphaa
open Go.RowKit
set_option linter.unusedVariables false

inductive Atom where
  | num (most n : Int)
  | raw (l : List UInt8)

def Atom.ok : Atom → Bool
  | .num most n => decide (0 ≤ n) && decide (n ≤ most)
  | .raw _ => true
def Atom.enc : Atom → List UInt8
  | .num _ n => numB n
  | .raw l => l
def Atom.encZ : Atom → List UInt8
  | .num _ n => numZ n
  | .raw l => l
def Atom.fit : Atom → Prop
  | .num most _ => most ≤ 1099511627775
  | .raw _ => True
def Atom.wt : Atom → Nat
  | .num _ _ => 6
  | .raw l => l.length
def okL : List Atom → Bool
  | [] => true
  | a :: l => a.ok && okL l
def encL : List Atom → List UInt8
  | [] => []
  | a :: l => a.enc ++ encL l
def encZL : List Atom → List UInt8
  | [] => []
  | a :: l => a.encZ ++ encZL l
def wtL : List Atom → Nat
  | [] => 0
  | a :: l => a.wt + wtL l
def fitL : List Atom → Prop
  | [] => True
  | a :: l => a.fit ∧ fitL l
theorem okL_append (l m : List Atom) : okL (l ++ m) = (okL l && okL m) := by
  induction l with
  | nil => simp [okL]
  | cons a l ih => simp [okL, ih, Bool.and_assoc]
theorem encL_append (l m : List Atom) : encL (l ++ m) = encL l ++ encL m := by
  induction l with
  | nil => simp [encL]
  | cons a l ih => simp [encL, ih]
theorem encZL_append (l m : List Atom) : encZL (l ++ m) = encZL l ++ encZL m := by
  induction l with
  | nil => simp [encZL]
  | cons a l ih => simp [encZL, ih]
theorem wtL_append (l m : List Atom) : wtL (l ++ m) = wtL l + wtL m := by
  induction l with
  | nil => simp [wtL]
  | cons a l ih => simp [wtL, ih]; omega
theorem fitL_append (l m : List Atom) : fitL (l ++ m) ↔ fitL l ∧ fitL m := by
  induction l with
  | nil => simp [fitL]
  | cons a l ih => simp [fitL, ih, and_assoc]
theorem Atom.enc_len (a : Atom) : a.enc.length ≤ a.wt := by
  cases a with
  | num most n => exact numB_len n
  | raw l => exact Nat.le_refl _
theorem Atom.encZ_len (a : Atom) : a.encZ.length ≤ a.wt := by
  cases a with
  | num most n => exact numZ_len n
  | raw l => exact Nat.le_refl _
theorem encL_len (l : List Atom) : (encL l).length ≤ wtL l := by
  induction l with
  | nil => simp [encL, wtL]
  | cons a l ih => have := a.enc_len; simp [encL, wtL]; omega
theorem encZL_len (l : List Atom) : (encZL l).length ≤ wtL l := by
  induction l with
  | nil => simp [encZL, wtL]
  | cons a l ih => have := a.encZ_len; simp [encZL, wtL]; omega
theorem Atom.enc_eq (a : Atom) (h : a.fit) (ho : a.ok = true) : a.enc = a.encZ := by
  cases a with
  | num most n =>
    simp only [Atom.ok, Bool.and_eq_true, decide_eq_true_eq] at ho
    have hf : most ≤ 1099511627775 := h
    have hi : inNum n = true := by simp [inNum]; omega
    simp [Atom.enc, Atom.encZ, numZ, hi]
  | raw l => rfl
theorem encL_eq (l : List Atom) (h : fitL l) (ho : okL l = true) : encL l = encZL l := by
  induction l with
  | nil => rfl
  | cons a l ih =>
    simp only [okL, Bool.and_eq_true] at ho
    simp only [encL, encZL]
    rw [ih h.2 ho.2, a.enc_eq h.1 ho.1]

/-- A number's part is all right just where it is not too far. -/
theorem far_num (most n : Int) (hm : most ≤ 1099511627775) : (decide (most < n) || !inNum n) = !(Atom.num most n).ok := by
  simp only [inNum, Atom.ok]
  by_cases h0 : 0 ≤ n
  · by_cases h1 : n ≤ most
    · have h2 : n ≤ 1099511627775 := by omega
      have h3 : ¬ most < n := by omega
      simp [h0, h1, h2, h3]
    · have h3 : most < n := by omega
      simp [h0, h1, h3]
  · simp [h0]
theorem far_plain (n : Int) : (!inNum n) = !(Atom.num 1099511627775 n).ok := rfl

/-- How a walk of a pass ends: it has written all parts, or it has given up. -/
def Wr (base b : Nat) (out : List UInt8) (l : List Atom) (e : Ending) (w' : World) : Prop :=
  (okL l = true ∧ e = .returned (.tuple #[]) ∧ PassAt w' base b (out ++ encL l)) ∨ (okL l = false ∧ e = .panicked [{ v := .iface 101 (.int .i64 3), recovered := false }])

/-- The numbers' parts. -/
def nums (ns : List Int) : List Atom := ns.map (Atom.num 1099511627775)
theorem pNum_at (most : Int) (out : List UInt8) (n : Int) : pNum most (some out) n = if okL [Atom.num most n] = true then some (out ++ encL [Atom.num most n]) else none := by
  simp [pNum, okL, Atom.ok, encL, Atom.enc]
theorem pNums_at (out : List UInt8) (ns : List Int) : pNums (some out) ns = if okL (nums ns) = true then some (out ++ encL (nums ns)) else none := by
  induction ns generalizing out with
  | nil => simp [pNums, nums, okL, encL]
  | cons n r ih =>
    show pNums (pNum 1099511627775 (some out) n) r = _
    rw [pNum_at]
    simp only [nums, List.map_cons, okL, encL, Bool.and_true, List.append_nil]
    by_cases h : (Atom.num 1099511627775 n).ok = true
    · rw [if_pos h, ih]
      simp only [nums, h, Bool.true_and, List.append_assoc]
    · rw [if_neg h, pNums_none, if_neg (by simp [h])]
theorem Wrote.wr {base b : Nat} {o : Option (List UInt8)} {out : List UInt8} {l : List Atom} {e : Ending} {w' : World} (h : Wrote base b o e w') (ho : o = if okL l = true then some (out ++ encL l) else none) : Wr base b out l e w' := by
  rcases h with ⟨o1, h1, h2, h3⟩ | ⟨h1, h2⟩
  · by_cases hk : okL l = true
    · rw [h1, if_pos hk] at ho
      cases ho
      exact .inl ⟨hk, h2, h3⟩
    · rw [h1, if_neg hk] at ho
      cases ho
  · by_cases hk : okL l = true
    · rw [h1, if_pos hk] at ho
      cases ho
    · exact .inr ⟨by simpa using hk, h2⟩
theorem Wr.wrote {base b : Nat} {out : List UInt8} {l : List Atom} {e : Ending} {w' : World} (h : Wr base b out l e w') : Wrote base b (if okL l = true then some (out ++ encL l) else none) e w' := by
  rcases h with ⟨h1, h2, h3⟩ | ⟨h1, h2⟩
  · exact .inl ⟨_, by rw [if_pos h1], h2, h3⟩
  · exact .inr ⟨by rw [h1]; rfl, h2⟩
theorem pass_assoc {w : World} {base b : Nat} {out x y : List UInt8} (h : PassAt w base b (out ++ x ++ y)) : PassAt w base b (out ++ (x ++ y)) := by
  rw [← List.append_assoc]; exact h
end Go.Proofs.Ytaidiomaaldphaa
