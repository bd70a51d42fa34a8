/-
  DERIVED. GIVEN WITH THE SEED: THE PROGRAM's TIES (one call each: nine closed facts by the kernel) AND EACH ROW's TIE, after the 31st guide's Derived/Test/Toyas{Tie, Card}.lean. No idea stands in it: it is a product of the set-up. Laid BY PROGRAM, IN A SANDBOX (cutbox-door.mjs). By AI agents, Wed Nov 11 2026. No macro, syntax, notation, axiom, sorry.
-/
import Derived.Test.YtgpjlocgkdlnlaaDoorRows
import Derived.LaidByTextLater
import Derived.SevenTiedAt
import Derived.LaidSub
import Derived.LaidOnce
namespace Go.Proofs.YtgpjlocgkdlnlaaDoor
open Go
set_option maxRecDepth 100000
theorem seatTie1 : Tryd.prog.laidByTextLater [("assize/script.exprFields", Rows.laid_assize_script_exprFields), ("assize/script.kindWords", Rows.laid_assize_script_kindWords), ("assize/script.stepWords", Rows.laid_assize_script_stepWords), ("assize/script.exprWords", Rows.laid_assize_script_exprWords), ("assize/script.signs", Rows.laid_assize_script_signs)] [.data, .data, .data, .data, .data] true :=
  Program.laidByTextLater_by_one 54 8 55 (by kernel_rfl) (by kernel_rfl) (by kernel_rfl) (by kernel_rfl) (by kernel_rfl) (by kernel_rfl) (fun _ _ => by kernel_rfl)
theorem noOwnUnsafe : Tryd.pinned.checked.prog.headLifts.contains "ownunsafe" = false := by kernel_rfl
theorem tie : Tryd.prog.laidByTextLater [("assize/script.exprFields", Rows.laid_assize_script_exprFields), ("assize/script.kindWords", Rows.laid_assize_script_kindWords), ("assize/script.stepWords", Rows.laid_assize_script_stepWords), ("assize/script.exprWords", Rows.laid_assize_script_exprWords), ("assize/script.signs", Rows.laid_assize_script_signs)] [.data, .data, .data, .data, .data] true :=
  Program.laidByTextLater.sub seatTie1 ["assize/script.exprFields", "assize/script.kindWords", "assize/script.stepWords", "assize/script.exprWords", "assize/script.signs"] (by kernel_rfl) (by kernel_rfl)
theorem scriptParses_row_tie : Rows.scriptParsesRow.laidByTextAt .later Tryd.pinned [.data, .data, .data, .data, .data] true :=
  OpenClaim.laidByTextAt_later rfl rfl tie noOwnUnsafe
theorem scriptParsesUpto_row_tie : Rows.scriptParsesUptoRow.laidByTextAt .later Tryd.pinned [.data, .data, .data, .data, .data] true :=
  OpenClaim.laidByTextAt_later rfl rfl tie noOwnUnsafe
end Go.Proofs.YtgpjlocgkdlnlaaDoor
