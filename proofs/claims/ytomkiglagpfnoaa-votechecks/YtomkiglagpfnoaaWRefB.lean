/- The answer's writing of benches. -/
import Derived.Test.YtomkiglagpfnoaaWRefP
import Derived.Deep.RegionHeld3
namespace Go.Proofs.Ytomkiglagpfnoaa.W
open Go.RowKit
set_option linter.unusedVariables false
set_option linter.unusedSimpArgs false


end Go.Proofs.Ytomkiglagpfnoaa.W
