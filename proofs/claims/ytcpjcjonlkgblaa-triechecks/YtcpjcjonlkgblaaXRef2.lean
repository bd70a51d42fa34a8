/- The answer's writing of headers and certs. -/
import Derived.Test.YtcpjcjonlkgblaaXRef
import Derived.Test.YtcpjcjonlkgblaaM29
import Derived.Deep.RegionHeld3
import Derived.Deep.CutRange
import Derived.Deep.DeepCutAuto
namespace Go.Proofs.Ytcpjcjonlkgblaa.W
open Go.RowKit
set_option linter.unusedVariables false
set_option linter.unusedSimpArgs false





end Go.Proofs.Ytcpjcjonlkgblaa.W
