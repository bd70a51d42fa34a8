/-
  DERIVED. GIVEN WITH THE SEED: THE CARDS: each row of YtfjkgglflmakhaaDoorRows.lean that lists a variable, with what it lists TIED to the program's text (the seventh form; the later family's looks); each row that meets fmt, with fmt's text TOLD by the authors' own Lean function (tested against real Go, not proved from fmt's source: count such statements apart). THE CARD IS WHAT COUNTS. Prove the row's statement (the work); the ties are given (YtfjkgglflmakhaaDoorTie.lean); close each card by the builder's one call (the guide's Derived/Test/ToyasCard.lean, 'card_holds'). Laid BY PROGRAM, IN A SANDBOX (cutbox-door.mjs). By AI agents, Wed Nov 11 2026. No macro, syntax, notation, axiom, sorry.
-/
import Derived.Test.YtfjkgglflmakhaaDoorRows
import GoSem.ClaimSeven
namespace Go.Proofs.YtfjkgglflmakhaaDoor
namespace Rows

/-- THE TIED CARD OF 'assizelaw.TrieExact'. -/
def trieExactCard : Claim7 := { stood := { row := trieExactRow, standIns := [], harness := (true, "0b280850f44e89b1630d252e37f3b344a65a56283bbf81c73ef6b6297b6ef6b1"), looks := false }, kinds := [], alts := [], laidByText := true, laidKinds := [.data, .pinned], laidTests := true, laidLooks := .later }
def TrieExactCardSaid : Prop := Claim7.holds Tryd.pinned (.plain (OpenSpec.ofChange trieExactSpec)) trieExactCard

/-- THE SECOND FORM's CARD OF 'assizelaw.TrieExact'. -/
def trieExactUptoCard : Claim7 := { stood := { row := trieExactUptoRow, standIns := [], harness := (true, "0b280850f44e89b1630d252e37f3b344a65a56283bbf81c73ef6b6297b6ef6b1"), looks := false }, kinds := [], alts := [], laidByText := true, laidKinds := [.data, .pinned], laidTests := true, laidLooks := .later }
def TrieExactUptoCardSaid : Prop := Claim7.holds Tryd.pinned (.plain (OpenSpec.upto trieExactSpec)) trieExactUptoCard
end Rows
end Go.Proofs.YtfjkgglflmakhaaDoor
