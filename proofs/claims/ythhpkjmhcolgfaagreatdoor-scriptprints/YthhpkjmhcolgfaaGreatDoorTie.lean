/-
  DERIVED. GIVEN WITH THE SEED: THE PROGRAM's TIES (one call each: nine closed facts by the kernel) AND EACH ROW's TIE, after the 31st guide's Derived/Test/Toyas{Tie, Card}.lean. No idea stands in it: it is a product of the set-up. Laid BY PROGRAM, IN A SANDBOX (cutbox-door.mjs). By AI agents, Wed Nov 11 2026. No macro, syntax, notation, axiom, sorry.
-/
import Derived.Test.YthhpkjmhcolgfaaGreatDoorRows
import Derived.LaidByTextLater
import Derived.SevenTiedAt
import Derived.LaidSub
import Derived.LaidOnce
namespace Go.Proofs.YthhpkjmhcolgfaaGreatDoor
open Go
set_option maxRecDepth 100000
theorem seatTie1 : Tryz.prog.laidByTextLater [("math/bits.deBruijn32tab", Rows.laid_math_bits_deBruijn32tab), ("math/bits.deBruijn64tab", Rows.laid_math_bits_deBruijn64tab), ("internal/strconv.uint64pow10", Rows.laid_internal_strconv_uint64pow10), ("assize/script.exprFields", Rows.laid_assize_script_exprFields), ("assize/script.stepFields", Rows.laid_assize_script_stepFields), ("assize/script.kindWords", Rows.laid_assize_script_kindWords), ("assize/script.stepWords", Rows.laid_assize_script_stepWords), ("assize/script.exprWords", Rows.laid_assize_script_exprWords)] [.data, .data, .data, .data, .data, .data, .data, .data] true :=
  Program.laidByTextLater_by_one 124 8 94 (by kernel_rfl) (by kernel_rfl) (by kernel_rfl) (by kernel_rfl) (by kernel_rfl) (by kernel_rfl) (fun _ _ => by kernel_rfl)
theorem seatTie2 : Tryz.prog.laidByTextLater [("assize/code.shapes", Rows.laid_assize_code_shapes), ("math/bits.deBruijn32tab", Rows.laid_math_bits_deBruijn32tab), ("math/bits.deBruijn64tab", Rows.laid_math_bits_deBruijn64tab), ("internal/strconv.uint64pow10", Rows.laid_internal_strconv_uint64pow10), ("assize/script.exprFields", Rows.laid_assize_script_exprFields), ("assize/script.stepFields", Rows.laid_assize_script_stepFields), ("assize/script.kindWords", Rows.laid_assize_script_kindWords), ("assize/script.stepWords", Rows.laid_assize_script_stepWords), ("assize/script.exprWords", Rows.laid_assize_script_exprWords), ("assize/compile.exprInstrs", Rows.laid_assize_compile_exprInstrs), ("assize/compile.stepInstrs", Rows.laid_assize_compile_stepInstrs)] [.data, .data, .data, .data, .data, .data, .data, .data, .data, .data, .data] true :=
  Program.laidByTextLater_by_one 124 8 94 (by kernel_rfl) (by kernel_rfl) (by kernel_rfl) (by kernel_rfl) (by kernel_rfl) (by kernel_rfl) (fun _ _ => by kernel_rfl)
theorem noOwnUnsafe : Tryz.pinned.checked.prog.headLifts.contains "ownunsafe" = false := by kernel_rfl
theorem tie : Tryz.prog.laidByTextLater [("math/bits.deBruijn32tab", Rows.laid_math_bits_deBruijn32tab), ("math/bits.deBruijn64tab", Rows.laid_math_bits_deBruijn64tab), ("internal/strconv.uint64pow10", Rows.laid_internal_strconv_uint64pow10), ("assize/script.exprFields", Rows.laid_assize_script_exprFields), ("assize/script.stepFields", Rows.laid_assize_script_stepFields), ("assize/script.kindWords", Rows.laid_assize_script_kindWords), ("assize/script.stepWords", Rows.laid_assize_script_stepWords), ("assize/script.exprWords", Rows.laid_assize_script_exprWords)] [.data, .data, .data, .data, .data, .data, .data, .data] true :=
  Program.laidByTextLater.sub seatTie1 ["math/bits.deBruijn32tab", "math/bits.deBruijn64tab", "internal/strconv.uint64pow10", "assize/script.exprFields", "assize/script.stepFields", "assize/script.kindWords", "assize/script.stepWords", "assize/script.exprWords"] (by kernel_rfl) (by kernel_rfl)
theorem scriptPrints_row_tie : Rows.scriptPrintsRow.laidByTextAt .later Tryz.pinned [.data, .data, .data, .data, .data, .data, .data, .data] true :=
  OpenClaim.laidByTextAt_later rfl rfl tie noOwnUnsafe
theorem kindsExact_row_tie : Rows.kindsExactRow.laidByTextAt .later Tryz.pinned [.data, .data, .data, .data, .data, .data, .data, .data] true :=
  OpenClaim.laidByTextAt_later rfl rfl tie noOwnUnsafe
theorem tie2 : Tryz.prog.laidByTextLater [("assize/code.shapes", Rows.laid_assize_code_shapes), ("math/bits.deBruijn32tab", Rows.laid_math_bits_deBruijn32tab), ("math/bits.deBruijn64tab", Rows.laid_math_bits_deBruijn64tab), ("internal/strconv.uint64pow10", Rows.laid_internal_strconv_uint64pow10), ("assize/script.exprFields", Rows.laid_assize_script_exprFields), ("assize/script.stepFields", Rows.laid_assize_script_stepFields), ("assize/script.kindWords", Rows.laid_assize_script_kindWords), ("assize/script.stepWords", Rows.laid_assize_script_stepWords), ("assize/script.exprWords", Rows.laid_assize_script_exprWords), ("assize/compile.exprInstrs", Rows.laid_assize_compile_exprInstrs), ("assize/compile.stepInstrs", Rows.laid_assize_compile_stepInstrs)] [.data, .data, .data, .data, .data, .data, .data, .data, .data, .data, .data] true :=
  Program.laidByTextLater.sub seatTie2 ["assize/code.shapes", "math/bits.deBruijn32tab", "math/bits.deBruijn64tab", "internal/strconv.uint64pow10", "assize/script.exprFields", "assize/script.stepFields", "assize/script.kindWords", "assize/script.stepWords", "assize/script.exprWords", "assize/compile.exprInstrs", "assize/compile.stepInstrs"] (by kernel_rfl) (by kernel_rfl)
theorem compileExact_row_tie : Rows.compileExactRow.laidByTextAt .later Tryz.pinned [.data, .data, .data, .data, .data, .data, .data, .data, .data, .data, .data] true :=
  OpenClaim.laidByTextAt_later rfl rfl tie2 noOwnUnsafe
theorem scriptPrintsUpto_row_tie : Rows.scriptPrintsUptoRow.laidByTextAt .later Tryz.pinned [.data, .data, .data, .data, .data, .data, .data, .data] true :=
  OpenClaim.laidByTextAt_later rfl rfl tie noOwnUnsafe
theorem kindsExactUpto_row_tie : Rows.kindsExactUptoRow.laidByTextAt .later Tryz.pinned [.data, .data, .data, .data, .data, .data, .data, .data] true :=
  OpenClaim.laidByTextAt_later rfl rfl tie noOwnUnsafe
theorem compileExactUpto_row_tie : Rows.compileExactUptoRow.laidByTextAt .later Tryz.pinned [.data, .data, .data, .data, .data, .data, .data, .data, .data, .data, .data] true :=
  OpenClaim.laidByTextAt_later rfl rfl tie2 noOwnUnsafe
end Go.Proofs.YthhpkjmhcolgfaaGreatDoor
