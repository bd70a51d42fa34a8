/- The answer's writing of views and results, and what both say of benches, views and results: the same. -/
import Derived.Test.YtigbfbniicfpdaaGreatWTop2
import Derived.Test.YtigbfbniicfpdaaGreatWRefB
namespace Go.Proofs.YtigbfbniicfpdaaGreat.W
open Go.RowKit
set_option linter.unusedVariables false

def viewZ (c wi ep h st : Int) (ps : List (Int × Int)) : List UInt8 := numZ c ++ numZ wi ++ numZ ep ++ numZ h ++ be st 8 ++ benchZ ps

def viewFar (c wi ep h : Int) (ps : List (Int × Int)) : Bool := !inNum c || !inNum wi || !inNum ep || !inNum h || benchFar ps

def viewOdd (wi ep : Int) (ps : List (Int × Int)) : Bool := benchOdd ps || (decide (wi < 1) || decide (8 < wi) || decide (ep < 1))

def resultZ (co us va : Int) (ps : List (Int × Int)) : List UInt8 := numZ co ++ numZ us ++ numZ va ++ numZ ps.length ++ pairsZ ps

def resultFar (co us va : Int) (ps : List (Int × Int)) : Bool := !inNum co || !inNum us || !inNum va || (decide ((64 : Int) < ps.length) || !inNum ps.length || pairsFar ps)





end Go.Proofs.YtigbfbniicfpdaaGreat.W
