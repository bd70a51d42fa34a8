/-
  DERIVED. GIVEN WITH THE SEED: THE CARDS: each row of YthhpkjmhcolgfaaGreatDoorRows.lean that lists a variable, with what it lists TIED to the program's text (the seventh form; the later family's looks); each row that meets fmt, with fmt's text TOLD by the authors' own Lean function (tested against real Go, not proved from fmt's source: count such statements apart). THE CARD IS WHAT COUNTS. Prove the row's statement (the work); the ties are given (YthhpkjmhcolgfaaGreatDoorTie.lean); close each card by the builder's one call (the guide's Derived/Test/ToyasCard.lean, 'card_holds'). Laid BY PROGRAM, IN A SANDBOX (cutbox-door.mjs). By AI agents, Wed Nov 11 2026. No macro, syntax, notation, axiom, sorry.
-/
import Derived.Test.YthhpkjmhcolgfaaGreatDoorRows
import GoSem.ClaimSeven
namespace Go.Proofs.YthhpkjmhcolgfaaGreatDoor
namespace Rows

/-- THE TIED CARD OF 'assizelaw.ScriptPrints'. -/
def scriptPrintsCard : Claim7 := { stood := { row := scriptPrintsRow, standIns := [], harness := (true, "88da00083cecd1b5b8c0cfffc36ba053be052d37589b709dbae69e813c3d63c7"), looks := false }, kinds := [], alts := [], laidByText := true, laidKinds := [.data, .data, .data, .data, .data, .data, .data, .data], laidTests := true, laidLooks := .later }
def ScriptPrintsCardSaid : Prop := Claim7.holds Tryz.pinned (.plain (OpenSpec.ofChange scriptPrintsSpec)) scriptPrintsCard

/-- THE TIED CARD OF 'assizelaw.KindsExact'. -/
def kindsExactCard : Claim7 := { stood := { row := kindsExactRow, standIns := [], harness := (true, "88da00083cecd1b5b8c0cfffc36ba053be052d37589b709dbae69e813c3d63c7"), looks := false }, kinds := [], alts := [], laidByText := true, laidKinds := [.data, .data, .data, .data, .data, .data, .data, .data], laidTests := true, laidLooks := .later }
def KindsExactCardSaid : Prop := Claim7.holds Tryz.pinned (.plain (OpenSpec.ofChange kindsExactSpec)) kindsExactCard

/-- THE TIED CARD OF 'assizelaw.CompileExact'. -/
def compileExactCard : Claim7 := { stood := { row := compileExactRow, standIns := [], harness := (true, "88da00083cecd1b5b8c0cfffc36ba053be052d37589b709dbae69e813c3d63c7"), looks := false }, kinds := [], alts := [], laidByText := true, laidKinds := [.data, .data, .data, .data, .data, .data, .data, .data, .data, .data, .data], laidTests := true, laidLooks := .later }
def CompileExactCardSaid : Prop := Claim7.holds Tryz.pinned (.plain (OpenSpec.ofChange compileExactSpec)) compileExactCard

/-- THE SECOND FORM's CARD OF 'assizelaw.ScriptPrints'. -/
def scriptPrintsUptoCard : Claim7 := { stood := { row := scriptPrintsUptoRow, standIns := [], harness := (true, "88da00083cecd1b5b8c0cfffc36ba053be052d37589b709dbae69e813c3d63c7"), looks := false }, kinds := [], alts := [], laidByText := true, laidKinds := [.data, .data, .data, .data, .data, .data, .data, .data], laidTests := true, laidLooks := .later }
def ScriptPrintsUptoCardSaid : Prop := Claim7.holds Tryz.pinned (.plain (OpenSpec.upto scriptPrintsSpec)) scriptPrintsUptoCard

/-- THE SECOND FORM's CARD OF 'assizelaw.KindsExact'. -/
def kindsExactUptoCard : Claim7 := { stood := { row := kindsExactUptoRow, standIns := [], harness := (true, "88da00083cecd1b5b8c0cfffc36ba053be052d37589b709dbae69e813c3d63c7"), looks := false }, kinds := [], alts := [], laidByText := true, laidKinds := [.data, .data, .data, .data, .data, .data, .data, .data], laidTests := true, laidLooks := .later }
def KindsExactUptoCardSaid : Prop := Claim7.holds Tryz.pinned (.plain (OpenSpec.upto kindsExactSpec)) kindsExactUptoCard

/-- THE SECOND FORM's CARD OF 'assizelaw.CompileExact'. -/
def compileExactUptoCard : Claim7 := { stood := { row := compileExactUptoRow, standIns := [], harness := (true, "88da00083cecd1b5b8c0cfffc36ba053be052d37589b709dbae69e813c3d63c7"), looks := false }, kinds := [], alts := [], laidByText := true, laidKinds := [.data, .data, .data, .data, .data, .data, .data, .data, .data, .data, .data], laidTests := true, laidLooks := .later }
def CompileExactUptoCardSaid : Prop := Claim7.holds Tryz.pinned (.plain (OpenSpec.upto compileExactSpec)) compileExactUptoCard
end Rows
end Go.Proofs.YthhpkjmhcolgfaaGreatDoor
