/- A pass over proofs and sights. -/
import Derived.Test.YtblnlfcfjbfhiaaGreatXWalk
import Derived.Test.YtblnlfcfjbfhiaaGreatM20
namespace Go.Proofs.YtblnlfcfjbfhiaaGreat.W
open Go.RowKit
set_option linter.unusedVariables false









end Go.Proofs.YtblnlfcfjbfhiaaGreat.W
