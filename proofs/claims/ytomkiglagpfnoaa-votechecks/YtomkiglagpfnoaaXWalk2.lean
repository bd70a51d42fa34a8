/- A pass over proofs and sights. -/
import Derived.Test.YtomkiglagpfnoaaXWalk
import Derived.Test.YtomkiglagpfnoaaXBench
namespace Go.Proofs.Ytomkiglagpfnoaa.W
open Go.RowKit
set_option linter.unusedVariables false









end Go.Proofs.Ytomkiglagpfnoaa.W
