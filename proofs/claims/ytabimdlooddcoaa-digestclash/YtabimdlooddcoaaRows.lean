/-
  No cell of these rows narrows 'for every input' (looked for: loops, veiled, ifaces, maps, wideKeys, modest, calm, conditions, laid).
  DERIVED. THE GIVEN ROWS OF THIS SEAT. 3 by the template 'for every input the law returns true; each argument reads behind the call as it read before'; 0 by the template 'total and deterministic' (their statements: YtabimdlooddcoaaTotals.lean).
  GIVEN WITH THE SEED: the statements are not yours to turn. If you find one false, say at which input.
  Laid BY PROGRAM, IN A SANDBOX (cutbox-rows.mjs): the forced cells as the released guide's own fill.sh prints them over the translation c53e592e2857876e… (all of the seat's roots in one cut). By AI agents, Wed Nov 11 2026. No macro, syntax, notation, axiom, sorry.
-/
import Derived.Test.YtabimdlooddcoaaChecked
import GoSem.Claim
import GoSem.ClaimJoined
import GoSem.ClaimMapViews
import Derived.JoinedTies
import Derived.KernelRfl
namespace Go.Proofs.Ytabimdlooddcoaa
/- THE CELL 'sum', in the pinned program and in every row, IS THE sha256 OF THE DUMP (.gsa) THAT YtabimdlooddcoaaProg.lean LOADS. Nothing in Lean hashes anything: it is a label: what it is worth is what the hold of that sum in a sandbox is worth. -/
noncomputable def Try.pinned : Pinned := { name := "ytabimdlooddcoaa", sum := "c53e592e2857876e16dd43d2972937acfc3da725bf89df6a3778019de7ed123f", checked := Try.checked }
namespace Rows
def none {H : Type} : Left H := { results := [], args := [] }

/-- 'assizelaw.DigestExact': WHATEVER THE INPUT: true; the input reads as it did. -/
def digestExactSpec : ChangeSpec := { name := "digestExact", fn := fun _ => fun
  | [d1, d2, d3, d4] => { results := [.lit (.bool true)], args := [d1, d2, d3, d4] }
  | _ => none }
def digestExactRow : OpenClaim := { program := "ytabimdlooddcoaa", sum := "c53e592e2857876e16dd43d2972937acfc3da725bf89df6a3778019de7ed123f", func := "assize/assizelaw.DigestExact", spec := "digestExact", recurses := true, apart := false }
def DigestExactSaid : Prop := digestExactRow.holds Try.pinned (OpenSpec.ofChange digestExactSpec)

/-- ITS FALSE NEIGHBOUR: 'it returns false'. Refute it at one input. -/
def digestExactWrong : ChangeSpec := { name := "digestExact", fn := fun _ => fun
  | [d1, d2, d3, d4] => { results := [.lit (.bool false)], args := [d1, d2, d3, d4] }
  | _ => none }
def DigestExactWrongFalsely : Prop := digestExactRow.holds Try.pinned (OpenSpec.ofChange digestExactWrong)

/-- 'assizelaw.DigestHolds': WHATEVER THE INPUT: true; the input reads as it did. -/
def digestHoldsSpec : ChangeSpec := { name := "digestHolds", fn := fun _ => fun
  | [d1, d2, d3, d4, d5, d6, d7] => { results := [.lit (.bool true)], args := [d1, d2, d3, d4, d5, d6, d7] }
  | _ => none }
def digestHoldsRow : OpenClaim := { program := "ytabimdlooddcoaa", sum := "c53e592e2857876e16dd43d2972937acfc3da725bf89df6a3778019de7ed123f", func := "assize/assizelaw.DigestHolds", spec := "digestHolds", recurses := true, apart := false }
def DigestHoldsSaid : Prop := digestHoldsRow.holds Try.pinned (OpenSpec.ofChange digestHoldsSpec)

/-- ITS FALSE NEIGHBOUR: 'it returns false'. Refute it at one input. -/
def digestHoldsWrong : ChangeSpec := { name := "digestHolds", fn := fun _ => fun
  | [d1, d2, d3, d4, d5, d6, d7] => { results := [.lit (.bool false)], args := [d1, d2, d3, d4, d5, d6, d7] }
  | _ => none }
def DigestHoldsWrongFalsely : Prop := digestHoldsRow.holds Try.pinned (OpenSpec.ofChange digestHoldsWrong)

/-- 'assizelaw.DigestClash': WHATEVER THE INPUT: true; the input reads as it did. -/
def digestClashSpec : ChangeSpec := { name := "digestClash", fn := fun _ => fun
  | [d1, d2, d3, d4, d5, d6] => { results := [.lit (.bool true)], args := [d1, d2, d3, d4, d5, d6] }
  | _ => none }
def digestClashRow : OpenClaim := { program := "ytabimdlooddcoaa", sum := "c53e592e2857876e16dd43d2972937acfc3da725bf89df6a3778019de7ed123f", func := "assize/assizelaw.DigestClash", spec := "digestClash", recurses := true, apart := false }
def DigestClashSaid : Prop := digestClashRow.holds Try.pinned (OpenSpec.ofChange digestClashSpec)

/-- ITS FALSE NEIGHBOUR: 'it returns false'. Refute it at one input. -/
def digestClashWrong : ChangeSpec := { name := "digestClash", fn := fun _ => fun
  | [d1, d2, d3, d4, d5, d6] => { results := [.lit (.bool false)], args := [d1, d2, d3, d4, d5, d6] }
  | _ => none }
def DigestClashWrongFalsely : Prop := digestClashRow.holds Try.pinned (OpenSpec.ofChange digestClashWrong)

/- THE SECOND FORM. 'bulk': how many values and letters a reading holds, each counted each time it is reached (what is shared counts as often as it is met; a slice's spare places count too). A statement '..UptoSaid' is the law's where the arguments, and the package variables that the reading takes, are together of bulk at most 1048576: NARROWER than '..Said'. Prove '..Said' where nothing that the law and all that it calls make is longer than what came in: it says more and counts as full. Else prove '..UptoSaid'. A law counts once. -/
mutual
def uptoBulk {H : Type} : DataW H → Nat
  | .lit (.string bytes) => bytes.length + 1
  | .lit _ => 1
  | .nil => 1
  | .ptr d => uptoBulk d + 1
  | .slice elems spare => uptoBulkAll elems + uptoBulkAll spare + 1
  | .agg parts => uptoBulkAll parts + 1
  | .iface _ d => uptoBulk d + 1
  | .map entries => uptoBulkEntries entries + 1
  | .held _ => 1
def uptoBulkAll {H : Type} : List (DataW H) → Nat
  | [] => 0
  | d :: r => uptoBulk d + uptoBulkAll r
def uptoBulkEntries {H : Type} : List (Lit × DataW H) → Nat
  | [] => 0
  | x :: r => uptoBulkEntry x + uptoBulkEntries r
def uptoBulkEntry {H : Type} : Lit × DataW H → Nat
  | (.string bytes, d) => bytes.length + uptoBulk d + 1
  | (_, d) => uptoBulk d + 1
 end
def uptoSmall : (H : Type) → List (DataW H) → Bool := fun _ ds => decide (uptoBulkAll ds ≤ 1048576)
def OpenSpec.upto (s : _root_.Go.ChangeSpec) : _root_.Go.OpenSpec := { _root_.Go.OpenSpec.ofChange s with cond := some uptoSmall }

/-- 'assizelaw.DigestExact', WHERE WHAT IT READS IS OF BULK AT MOST 1048576: true; the input reads as it did. -/
def digestExactUptoRow : OpenClaim := { program := "ytabimdlooddcoaa", sum := "c53e592e2857876e16dd43d2972937acfc3da725bf89df6a3778019de7ed123f", func := "assize/assizelaw.DigestExact", spec := "digestExact", recurses := true, apart := false, narrowed := true }
def DigestExactUptoSaid : Prop := digestExactUptoRow.holds Try.pinned (OpenSpec.upto digestExactSpec)

/-- 'assizelaw.DigestHolds', WHERE WHAT IT READS IS OF BULK AT MOST 1048576: true; the input reads as it did. -/
def digestHoldsUptoRow : OpenClaim := { program := "ytabimdlooddcoaa", sum := "c53e592e2857876e16dd43d2972937acfc3da725bf89df6a3778019de7ed123f", func := "assize/assizelaw.DigestHolds", spec := "digestHolds", recurses := true, apart := false, narrowed := true }
def DigestHoldsUptoSaid : Prop := digestHoldsUptoRow.holds Try.pinned (OpenSpec.upto digestHoldsSpec)

/-- 'assizelaw.DigestClash', WHERE WHAT IT READS IS OF BULK AT MOST 1048576: true; the input reads as it did. -/
def digestClashUptoRow : OpenClaim := { program := "ytabimdlooddcoaa", sum := "c53e592e2857876e16dd43d2972937acfc3da725bf89df6a3778019de7ed123f", func := "assize/assizelaw.DigestClash", spec := "digestClash", recurses := true, apart := false, narrowed := true }
def DigestClashUptoSaid : Prop := digestClashUptoRow.holds Try.pinned (OpenSpec.upto digestClashSpec)

end Rows
end Go.Proofs.Ytabimdlooddcoaa
