/- A pass over transactions. -/
import Derived.Test.YtblnlfcfjbfhiaaGreatXWalk2
namespace Go.Proofs.YtblnlfcfjbfhiaaGreat.W
open Go.RowKit
set_option linter.unusedVariables false







end Go.Proofs.YtblnlfcfjbfhiaaGreat.W
