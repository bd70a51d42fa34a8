/-
  No cell of these rows narrows 'for every input' (looked for: loops, veiled, ifaces, maps, wideKeys, modest, calm, conditions, laid).
  DERIVED. THE GIVEN ROWS OF THIS SEAT. 3 by the template 'for every input the law returns true; each argument reads behind the call as it read before'; 0 by the template 'total and deterministic' (their statements: YtgcebahlfgclgaaTotals.lean).
  GIVEN WITH THE SEED: the statements are not yours to turn. If you find one false, say at which input.
  Laid BY PROGRAM, IN A SANDBOX (cutbox-rows.mjs): the forced cells as the released guide's own fill.sh prints them over the translation 506c14ca7ecb0cec… (all of the seat's roots in one cut). By AI agents, Wed Nov 11 2026. No macro, syntax, notation, axiom, sorry.
-/
import Derived.Test.YtgcebahlfgclgaaChecked
import GoSem.Claim
import GoSem.ClaimJoined
import GoSem.ClaimMapViews
import Derived.JoinedTies
import Derived.KernelRfl
namespace Go.Proofs.Ytgcebahlfgclgaa
/- THE CELL 'sum', in the pinned program and in every row, IS THE sha256 OF THE DUMP (.gsa) THAT YtgcebahlfgclgaaProg.lean LOADS. Nothing in Lean hashes anything: it is a label: what it is worth is what the hold of that sum in a sandbox is worth. -/
noncomputable def Try.pinned : Pinned := { name := "ytgcebahlfgclgaa", sum := "506c14ca7ecb0cec7c29501680663b4af2334b71408e5499a18c4d8083595913", checked := Try.checked }
namespace Rows
def none {H : Type} : Left H := { results := [], args := [] }

/-- 'assizelaw.WireSmalls': WHATEVER THE INPUT: true; the input reads as it did. -/
def wireSmallsSpec : ChangeSpec := { name := "wireSmalls", fn := fun _ => fun
  | [d1, d2, d3, d4, d5, d6, d7, d8] => { results := [.lit (.bool true)], args := [d1, d2, d3, d4, d5, d6, d7, d8] }
  | _ => none }
def wireSmallsRow : OpenClaim := { program := "ytgcebahlfgclgaa", sum := "506c14ca7ecb0cec7c29501680663b4af2334b71408e5499a18c4d8083595913", func := "assize/assizelaw.WireSmalls", spec := "wireSmalls", unfollowed := true, recurses := true, apart := false }
def WireSmallsSaid : Prop := wireSmallsRow.holds Try.pinned (OpenSpec.ofChange wireSmallsSpec)

/-- ITS FALSE NEIGHBOUR: 'it returns false'. Refute it at one input. -/
def wireSmallsWrong : ChangeSpec := { name := "wireSmalls", fn := fun _ => fun
  | [d1, d2, d3, d4, d5, d6, d7, d8] => { results := [.lit (.bool false)], args := [d1, d2, d3, d4, d5, d6, d7, d8] }
  | _ => none }
def WireSmallsWrongFalsely : Prop := wireSmallsRow.holds Try.pinned (OpenSpec.ofChange wireSmallsWrong)

/-- 'assizelaw.WireTxs': WHATEVER THE INPUT: true; the input reads as it did. -/
def wireTxsSpec : ChangeSpec := { name := "wireTxs", fn := fun _ => fun
  | [d1, d2, d3, d4] => { results := [.lit (.bool true)], args := [d1, d2, d3, d4] }
  | _ => none }
def wireTxsRow : OpenClaim := { program := "ytgcebahlfgclgaa", sum := "506c14ca7ecb0cec7c29501680663b4af2334b71408e5499a18c4d8083595913", func := "assize/assizelaw.WireTxs", spec := "wireTxs", unfollowed := true, recurses := true, apart := false }
def WireTxsSaid : Prop := wireTxsRow.holds Try.pinned (OpenSpec.ofChange wireTxsSpec)

/-- ITS FALSE NEIGHBOUR: 'it returns false'. Refute it at one input. -/
def wireTxsWrong : ChangeSpec := { name := "wireTxs", fn := fun _ => fun
  | [d1, d2, d3, d4] => { results := [.lit (.bool false)], args := [d1, d2, d3, d4] }
  | _ => none }
def WireTxsWrongFalsely : Prop := wireTxsRow.holds Try.pinned (OpenSpec.ofChange wireTxsWrong)

/-- 'assizelaw.WireBlocks': WHATEVER THE INPUT: true; the input reads as it did. -/
def wireBlocksSpec : ChangeSpec := { name := "wireBlocks", fn := fun _ => fun
  | [d] => { results := [.lit (.bool true)], args := [d] }
  | _ => none }
def wireBlocksRow : OpenClaim := { program := "ytgcebahlfgclgaa", sum := "506c14ca7ecb0cec7c29501680663b4af2334b71408e5499a18c4d8083595913", func := "assize/assizelaw.WireBlocks", spec := "wireBlocks", unfollowed := true, recurses := true, apart := false }
def WireBlocksSaid : Prop := wireBlocksRow.holds Try.pinned (OpenSpec.ofChange wireBlocksSpec)

/-- ITS FALSE NEIGHBOUR: 'it returns false'. Refute it at one input. -/
def wireBlocksWrong : ChangeSpec := { name := "wireBlocks", fn := fun _ => fun
  | [d] => { results := [.lit (.bool false)], args := [d] }
  | _ => none }
def WireBlocksWrongFalsely : Prop := wireBlocksRow.holds Try.pinned (OpenSpec.ofChange wireBlocksWrong)

/- THE SECOND FORM. 'bulk': how many values and letters a reading holds, each counted each time it is reached (what is shared counts as often as it is met; a slice's spare places count too). A statement '..UptoSaid' is the law's where the arguments, and the package variables that the reading takes, are together of bulk at most 1048576: NARROWER than '..Said'. Prove '..Said' where nothing that the law and all that it calls make is longer than what came in: it says more and counts as full. Else prove '..UptoSaid'. A law counts once. -/
mutual
def uptoBulk {H : Type} : DataW H → Nat
  | .lit (.string bytes) => bytes.length + 1
  | .lit _ => 1
  | .nil => 1
  | .ptr d => uptoBulk d + 1
  | .slice elems spare => uptoBulkAll elems + uptoBulkAll spare + 1
  | .agg parts => uptoBulkAll parts + 1
  | .iface _ d => uptoBulk d + 1
  | .map entries => uptoBulkEntries entries + 1
  | .held _ => 1
def uptoBulkAll {H : Type} : List (DataW H) → Nat
  | [] => 0
  | d :: r => uptoBulk d + uptoBulkAll r
def uptoBulkEntries {H : Type} : List (Lit × DataW H) → Nat
  | [] => 0
  | x :: r => uptoBulkEntry x + uptoBulkEntries r
def uptoBulkEntry {H : Type} : Lit × DataW H → Nat
  | (.string bytes, d) => bytes.length + uptoBulk d + 1
  | (_, d) => uptoBulk d + 1
 end
def uptoSmall : (H : Type) → List (DataW H) → Bool := fun _ ds => decide (uptoBulkAll ds ≤ 1048576)
def OpenSpec.upto (s : _root_.Go.ChangeSpec) : _root_.Go.OpenSpec := { _root_.Go.OpenSpec.ofChange s with cond := some uptoSmall }

/-- 'assizelaw.WireSmalls', WHERE WHAT IT READS IS OF BULK AT MOST 1048576: true; the input reads as it did. -/
def wireSmallsUptoRow : OpenClaim := { program := "ytgcebahlfgclgaa", sum := "506c14ca7ecb0cec7c29501680663b4af2334b71408e5499a18c4d8083595913", func := "assize/assizelaw.WireSmalls", spec := "wireSmalls", unfollowed := true, recurses := true, apart := false, narrowed := true }
def WireSmallsUptoSaid : Prop := wireSmallsUptoRow.holds Try.pinned (OpenSpec.upto wireSmallsSpec)

/-- 'assizelaw.WireTxs', WHERE WHAT IT READS IS OF BULK AT MOST 1048576: true; the input reads as it did. -/
def wireTxsUptoRow : OpenClaim := { program := "ytgcebahlfgclgaa", sum := "506c14ca7ecb0cec7c29501680663b4af2334b71408e5499a18c4d8083595913", func := "assize/assizelaw.WireTxs", spec := "wireTxs", unfollowed := true, recurses := true, apart := false, narrowed := true }
def WireTxsUptoSaid : Prop := wireTxsUptoRow.holds Try.pinned (OpenSpec.upto wireTxsSpec)

/-- 'assizelaw.WireBlocks', WHERE WHAT IT READS IS OF BULK AT MOST 1048576: true; the input reads as it did. -/
def wireBlocksUptoRow : OpenClaim := { program := "ytgcebahlfgclgaa", sum := "506c14ca7ecb0cec7c29501680663b4af2334b71408e5499a18c4d8083595913", func := "assize/assizelaw.WireBlocks", spec := "wireBlocks", unfollowed := true, recurses := true, apart := false, narrowed := true }
def WireBlocksUptoSaid : Prop := wireBlocksUptoRow.holds Try.pinned (OpenSpec.upto wireBlocksSpec)

end Rows
end Go.Proofs.Ytgcebahlfgclgaa
