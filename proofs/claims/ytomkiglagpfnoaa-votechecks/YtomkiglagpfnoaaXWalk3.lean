/- A pass over transactions. -/
import Derived.Test.YtomkiglagpfnoaaXWalk2
namespace Go.Proofs.Ytomkiglagpfnoaa.W
open Go.RowKit
set_option linter.unusedVariables false







end Go.Proofs.Ytomkiglagpfnoaa.W
