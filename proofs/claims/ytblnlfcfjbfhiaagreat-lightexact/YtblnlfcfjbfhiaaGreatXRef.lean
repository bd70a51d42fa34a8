/- The answer's writing, as lists of parts. -/
import Derived.Test.YtblnlfcfjbfhiaaGreatXThings
namespace Go.Proofs.YtblnlfcfjbfhiaaGreat.W
open Go.RowKit
set_option linter.unusedVariables false

/-- What the answer has written: these parts; and whether something may not be. -/
def RefL (w : World) (b : Nat) (l : List Atom) (odd : Bool) : Prop := RefAt w b (encZL l) (!okL l) odd

theorem RefL.below {w w' : World} {b : Nat} {l : List Atom} {odd : Bool} (h : RefL w b l odd) (hb : Below w.heap.size w w') : RefL w' b l odd := RefAt.below h hb

theorem RefL.lt {w : World} {b : Nat} {l : List Atom} {odd : Bool} (h : RefL w b l odd) : b < w.heap.size := Blk.lt h

theorem RefL.as {w : World} {b : Nat} {l l' : List Atom} {odd odd' : Bool} (h : RefL w b l odd) (e : l = l') (o : odd = odd') : RefL w b l' odd' := by subst e; subst o; exact h

theorem encZL_one (l : List Atom) (a : Atom) : encZL (l ++ [a]) = encZL l ++ a.encZ := by rw [encZL_append]; simp [encZL]

theorem okL_one (l : List Atom) (a : Atom) : (!okL (l ++ [a])) = (!okL l || !a.ok) := by rw [okL_append]; simp [okL]

theorem rnumL (base b : Nat) (n : Int) (l : List Atom) (odd : Bool) (w : World) (hb : base ≤ b) (hn : -9223372036854775808 ≤ n ∧ n ≤ 9223372036854775807) (hL : wtL l ≤ 1099511000000) (R : RefL w b l odd) :
    Calls Tryz.prog 63 #[.pointer (some ⟨b, 0, none⟩), .int .i64 n] w fun e w' => e = .returned (.tuple #[]) ∧ RefL w' b (l ++ intA n) odd ∧ Kp base b w w' := by
  have hl := encZL_len l
  refine (rnum_any base b n (encZL l) (!okL l) odd w hb hn (by omega) R).mono ?_
  rintro e w' ⟨h1, h2, h3⟩
  refine ⟨h1, ?_, h3⟩
  unfold RefL
  rw [show intA n = [Atom.num 1099511627775 n] from rfl, encZL_one, okL_one, ← far_plain]
  exact h2

theorem rdigL (base b : Nat) (d : Int) (l : List Atom) (odd : Bool) (w : World) (hb : base ≤ b) (hd : 0 ≤ d ∧ d ≤ 18446744073709551615) (hL : wtL l ≤ 1099511000000) (R : RefL w b l odd) :
    Calls Tryz.prog 64 #[.pointer (some ⟨b, 0, none⟩), .int .u64 d] w fun e w' => e = .returned (.tuple #[]) ∧ RefL w' b (l ++ digL d) odd ∧ Kp base b w w' := by
  have hl := encZL_len l
  refine (rdig_any base b d (encZL l) (!okL l) odd w hb hd (by omega) R).mono ?_
  rintro e w' ⟨h1, h2, h3⟩
  refine ⟨h1, ?_, h3⟩
  unfold RefL
  rw [show digL d = [Atom.raw (be d 8)] from rfl, encZL_one, okL_one]
  simpa [Atom.ok, Atom.encZ] using h2

theorem rflagL (base b : Nat) (x : Bool) (l : List Atom) (odd : Bool) (w : World) (hb : base ≤ b) (hL : wtL l ≤ 1099511000000) (R : RefL w b l odd) :
    Calls Tryz.prog 78 #[.pointer (some ⟨b, 0, none⟩), .bool x] w fun e w' => e = .returned (.tuple #[]) ∧ RefL w' b (l ++ flagL x) odd ∧ Kp base b w w' := by
  have hl := encZL_len l
  refine (rflag_any base b x (encZL l) (!okL l) odd w hb (by omega) R).mono ?_
  rintro e w' ⟨h1, h2, h3⟩
  refine ⟨h1, ?_, h3⟩
  unfold RefL
  rw [show flagL x = [Atom.raw (flagB x)] from rfl, encZL_one, okL_one]
  simpa [Atom.ok, Atom.encZ, flagB] using h2

theorem roddL (base b : Nat) (x : Bool) (l : List Atom) (odd : Bool) (w : World) (hb : base ≤ b) (R : RefL w b l odd) :
    Calls Tryz.prog 77 #[.pointer (some ⟨b, 0, none⟩), .bool x] w fun e w' => e = .returned (.tuple #[]) ∧ RefL w' b l (odd || x) ∧ Kp base b w w' :=
  rodd_any base b x (encZL l) (!okL l) odd w hb R

theorem rcountL (base b : Nat) (n most : Int) (l : List Atom) (odd : Bool) (w : World) (hb : base ≤ b) (hn : -9223372036854775808 ≤ n ∧ n ≤ 9223372036854775807) (hm : most ≤ 1099511627775) (hL : wtL l ≤ 1099511000000) (R : RefL w b l odd) :
    Calls Tryz.prog 79 #[.pointer (some ⟨b, 0, none⟩), .int .i64 n, .int .i64 most] w fun e w' => e = .returned (.tuple #[]) ∧ RefL w' b (l ++ [Atom.num most n]) odd ∧ Kp base b w w' := by
  have hl := encZL_len l
  refine (rcount_any base b n most (encZL l) (!okL l) odd w hb hn (by omega) R).mono ?_
  rintro e w' ⟨h1, h2, h3⟩
  refine ⟨h1, ?_, h3⟩
  unfold RefL
  rw [encZL_one, okL_one, ← far_num most n hm, ← Bool.or_assoc]
  exact h2


end Go.Proofs.YtblnlfcfjbfhiaaGreat.W
