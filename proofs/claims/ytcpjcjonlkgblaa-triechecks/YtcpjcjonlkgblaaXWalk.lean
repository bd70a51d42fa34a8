/- A pass over headers, lists of numbers, certs. -/
import Derived.Test.YtcpjcjonlkgblaaM22
namespace Go.Proofs.Ytcpjcjonlkgblaa.W
open Go.RowKit
set_option linter.unusedVariables false







end Go.Proofs.Ytcpjcjonlkgblaa.W
