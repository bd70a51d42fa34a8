/- The answer's writing of proofs and sights. -/
import Derived.Test.YtomkiglagpfnoaaXRef2
import Derived.Test.YtomkiglagpfnoaaXRefB
import Derived.Deep.RegionHeld3
import Derived.Deep.CutRange
import Derived.Deep.DeepCutAuto
namespace Go.Proofs.Ytomkiglagpfnoaa.W
open Go.RowKit
set_option linter.unusedVariables false
set_option linter.unusedSimpArgs false





end Go.Proofs.Ytomkiglagpfnoaa.W
