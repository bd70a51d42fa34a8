/- Which transactions may be. -/
import Derived.Test.YtblnlfcfjbfhiaaGreatM29
import Derived.Deep.RegionHeld3
import Derived.Deep.CutRange
import Derived.Deep.DeepCutAuto
namespace Go.Proofs.YtblnlfcfjbfhiaaGreat.W
open Go.RowKit
set_option linter.unusedVariables false
set_option linter.unusedSimpArgs false





def Tx.bad1 (x : Tx) : Bool := decide (x.k < 1) || decide (10 < x.k) || decide (x.f < 1)

def Tx.bad2 (x : Tx) : Bool := (isTo x.k != decide (1 ≤ x.to)) || (!isAm x.k && decide (x.am ≠ 0))

def Tx.bad3 (x : Tx) : Bool := (!isTx x.k && decide (x.te ≠ [])) || (!decide (x.k = 3) && decide (0 < x.ar.xs.length))

def Tx.bad4 (x : Tx) : Bool := decide (nSi x.k ≠ (x.si.xs.length : Int)) || decide (nPr x.k ≠ (x.pr.xs.length : Int))

def Tx.may (x : Tx) : Bool := !x.bad1 && !x.bad2 && !x.bad3 && !x.bad4 && (x.si.xs.all Sight.may && x.pr.xs.all Proof.may)


end Go.Proofs.YtblnlfcfjbfhiaaGreat.W
