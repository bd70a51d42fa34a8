/-
  DERIVED. GIVEN WITH THE SEED: THE CARDS: each row of YtemlbcagkjmjgaaDoorRows.lean that lists a variable, with what it lists TIED to the program's text (the seventh form; the later family's looks); each row that meets fmt, with fmt's text TOLD by the authors' own Lean function (tested against real Go, not proved from fmt's source: count such statements apart). THE CARD IS WHAT COUNTS. Prove the row's statement (the work); the ties are given (YtemlbcagkjmjgaaDoorTie.lean); close each card by the builder's one call (the guide's Derived/Test/ToyasCard.lean, 'card_holds'). Laid BY PROGRAM, IN A SANDBOX (cutbox-door.mjs). By AI agents, Wed Nov 11 2026. No macro, syntax, notation, axiom, sorry.
-/
import Derived.Test.YtemlbcagkjmjgaaDoorRows
import GoSem.ClaimSeven
namespace Go.Proofs.YtemlbcagkjmjgaaDoor
namespace Rows

/-- THE TIED CARD OF 'assizelaw.FetchTrue'. -/
def fetchTrueCard : Claim7 := { stood := { row := fetchTrueRow, standIns := [], harness := (true, "d2f9d77cbb3e8f68fc8023e34bbae37eee2396ee6a947e5797913ce442ee1dc0"), looks := false }, kinds := [], alts := [], laidByText := true, laidKinds := [.data, .pinned], laidTests := true, laidLooks := .later }
def FetchTrueCardSaid : Prop := Claim7.holds Tryd.pinned (.plain (OpenSpec.ofChange fetchTrueSpec)) fetchTrueCard

/-- THE SECOND FORM's CARD OF 'assizelaw.FetchTrue'. -/
def fetchTrueUptoCard : Claim7 := { stood := { row := fetchTrueUptoRow, standIns := [], harness := (true, "d2f9d77cbb3e8f68fc8023e34bbae37eee2396ee6a947e5797913ce442ee1dc0"), looks := false }, kinds := [], alts := [], laidByText := true, laidKinds := [.data, .pinned], laidTests := true, laidLooks := .later }
def FetchTrueUptoCardSaid : Prop := Claim7.holds Tryd.pinned (.plain (OpenSpec.upto fetchTrueSpec)) fetchTrueUptoCard
end Rows
end Go.Proofs.YtemlbcagkjmjgaaDoor
