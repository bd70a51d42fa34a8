/- The answer's writing of proofs and sights. -/
import Derived.Test.YtblnlfcfjbfhiaaGreatXRef2
import Derived.Test.YtblnlfcfjbfhiaaGreatXRefB
import Derived.Deep.RegionHeld3
import Derived.Deep.CutRange
import Derived.Deep.DeepCutAuto
namespace Go.Proofs.YtblnlfcfjbfhiaaGreat.W
open Go.RowKit
set_option linter.unusedVariables false
set_option linter.unusedSimpArgs false





end Go.Proofs.YtblnlfcfjbfhiaaGreat.W
