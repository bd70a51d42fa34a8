/- The answer's writing of benches. -/
import Derived.Test.YtcpjcjonlkgblaaM29
import Derived.Deep.RegionHeld3
namespace Go.Proofs.Ytcpjcjonlkgblaa.W
open Go.RowKit
set_option linter.unusedVariables false
set_option linter.unusedSimpArgs false


end Go.Proofs.Ytcpjcjonlkgblaa.W
