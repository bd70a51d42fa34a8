/- The answer's writing of votes as lists of parts; which votes may be. -/
import Derived.Test.YtgppnghnjdkfdaaGreatXRef
import Derived.Test.YtgppnghnjdkfdaaGreatWM5
import Derived.Test.YtgppnghnjdkfdaaGreatWMay
namespace Go.Proofs.YtgppnghnjdkfdaaGreat
open Go.RowKit
set_option linter.unusedVariables false

def Vote.may (x : Vote) : Bool := mayVoteP x.s x.has x.bl x.f
def Guilt.may (x : Guilt) : Bool := x.a.may && x.c.may
theorem Vote.enc (x : Vote) : encZL x.atoms = voteZ x.h x.r x.s x.has x.bl x.f := by
  simp only [Vote.atoms, encZL_append, nums, List.map, flagL, digL, intA, encZL, Atom.encZ, voteZ, List.append_assoc, List.append_nil]
theorem Vote.far (x : Vote) : (!okL x.atoms) = voteFar x.h x.r x.s x.f := by
  simp only [Vote.atoms, okL_append, nums, List.map, flagL, digL, intA, okL, Bool.not_and, Bool.and_true, voteFar, far_plain]
  simp only [Atom.ok, Bool.not_true, Bool.or_false, Bool.or_assoc]
theorem rvote_anyX (base b : Nat) (x : Vote) (l : List Atom) (odd : Bool) (w : World) (hb : base ≤ b) (hL : wtL l + wtL x.atoms ≤ 1099400000000) (R : RefL w b l odd) (g : goods base w x.flds) :
    Calls Tryz.prog 30 #[.pointer (some ⟨b, 0, none⟩), .agg #[.int .i64 x.h, .int .i64 x.r, .int .i64 x.s, .bool x.has, .int .u64 x.bl, .int .i64 x.f]] w fun e w' => e = .returned (.tuple #[]) ∧ RefL w' b (l ++ x.atoms) (odd || x.odd) ∧ Kp base b w w' := by
  have hl := encZL_len l
  refine (rvote_any base b x.h x.r x.s x.has x.bl x.f (encZL l) (!okL l) odd w hb (g.get 0 rfl) (g.get 1 rfl) (g.get 2 rfl) (g.get 4 rfl) (g.get 5 rfl) (by omega) R).mono ?_
  rintro e w' ⟨h1, h2, h3⟩
  refine ⟨h1, ?_, h3⟩
  unfold RefL
  rw [encZL_append, okL_append, Bool.not_and, x.enc, x.far]
  exact h2
theorem mayVote_anyX (x : Vote) (w : World) (g : goods w.heap.size w x.flds) : Calls Tryz.prog 20 #[.agg #[.int .i64 x.h, .int .i64 x.r, .int .i64 x.s, .bool x.has, .int .u64 x.bl, .int .i64 x.f]] w fun e w' => e = .returned (.bool x.may) ∧ Below w.heap.size w w' :=
  mayVote_any x.h x.r x.s x.has x.bl x.f w
theorem mayGuilt_anyX (x : Guilt) (w : World) (g : goods w.heap.size w x.flds) : Calls Tryz.prog 67 #[.agg #[.int .i64 x.a.h, .int .i64 x.a.r, .int .i64 x.a.s, .bool x.a.has, .int .u64 x.a.bl, .int .i64 x.a.f, .int .i64 x.c.h, .int .i64 x.c.r, .int .i64 x.c.s, .bool x.c.has, .int .u64 x.c.bl, .int .i64 x.c.f]] w fun e w' => e = .returned (.bool x.may) ∧ Below w.heap.size w w' :=
  mayGuilt_any x.a.h x.a.r x.a.s x.a.has x.a.bl x.a.f x.c.h x.c.r x.c.s x.c.has x.c.bl x.c.f w
end Go.Proofs.YtgppnghnjdkfdaaGreat
