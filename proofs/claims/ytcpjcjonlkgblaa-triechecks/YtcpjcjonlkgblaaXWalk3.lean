/- A pass over transactions. -/
import Derived.Test.YtcpjcjonlkgblaaXWalk2
namespace Go.Proofs.Ytcpjcjonlkgblaa.W
open Go.RowKit
set_option linter.unusedVariables false







end Go.Proofs.Ytcpjcjonlkgblaa.W
