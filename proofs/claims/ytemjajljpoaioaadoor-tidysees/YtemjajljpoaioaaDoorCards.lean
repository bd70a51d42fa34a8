/-
  DERIVED. GIVEN WITH THE SEED: THE CARDS: each row of YtemjajljpoaioaaDoorRows.lean that lists a variable, with what it lists TIED to the program's text (the seventh form; the later family's looks); each row that meets fmt, with fmt's text TOLD by the authors' own Lean function (tested against real Go, not proved from fmt's source: count such statements apart). THE CARD IS WHAT COUNTS. Prove the row's statement (the work); the ties are given (YtemjajljpoaioaaDoorTie.lean); close each card by the builder's one call (the guide's Derived/Test/ToyasCard.lean, 'card_holds'). Laid BY PROGRAM, IN A SANDBOX (cutbox-door.mjs). By AI agents, Wed Nov 11 2026. No macro, syntax, notation, axiom, sorry.
-/
import Derived.Test.YtemjajljpoaioaaDoorRows
import GoSem.ClaimSeven
namespace Go.Proofs.YtemjajljpoaioaaDoor
namespace Rows

/-- THE TIED CARD OF 'assizelaw.TidySees'. -/
def tidySeesCard : Claim7 := { stood := { row := tidySeesRow, standIns := [], harness := (true, "ba59f14939c0769f6306e0c678ce36041e8fc1b7be48fd25e24e31f85a2b2480"), looks := false }, kinds := [], alts := [], laidByText := true, laidKinds := [.data], laidTests := true, laidLooks := .later }
def TidySeesCardSaid : Prop := Claim7.holds Tryd.pinned (.plain (OpenSpec.ofChange tidySeesSpec)) tidySeesCard

/-- THE SECOND FORM's CARD OF 'assizelaw.TidySees'. -/
def tidySeesUptoCard : Claim7 := { stood := { row := tidySeesUptoRow, standIns := [], harness := (true, "ba59f14939c0769f6306e0c678ce36041e8fc1b7be48fd25e24e31f85a2b2480"), looks := false }, kinds := [], alts := [], laidByText := true, laidKinds := [.data], laidTests := true, laidLooks := .later }
def TidySeesUptoCardSaid : Prop := Claim7.holds Tryd.pinned (.plain (OpenSpec.upto tidySeesSpec)) tidySeesUptoCard
end Rows
end Go.Proofs.YtemjajljpoaioaaDoor
