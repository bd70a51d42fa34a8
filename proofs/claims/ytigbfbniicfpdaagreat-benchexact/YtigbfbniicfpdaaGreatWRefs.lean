/- The answer's writing of votes, parcels, accounts. -/
import Derived.Test.YtigbfbniicfpdaaGreatWNums
namespace Go.Proofs.YtigbfbniicfpdaaGreat.W
open Go.RowKit
set_option linter.unusedVariables false

def voteZ (h r s : Int) (has : Bool) (bl f : Int) : List UInt8 := numZ h ++ numZ r ++ numZ s ++ flagB has ++ be bl 8 ++ numZ f

def voteFar (h r s f : Int) : Bool := !inNum h || !inNum r || !inNum s || !inNum f

def voteOdd (s : Int) (has : Bool) (bl f : Int) : Bool := decide (2 < s) || decide (f < 1) || (!has && (decide (bl ≠ 0) || decide (s = 0)))



def parcelZ (k t a : Int) : List UInt8 := numZ k ++ numZ t ++ numZ a

def parcelFar (k t a : Int) : Bool := !inNum k || !inNum t || !inNum a

def parcelOdd (k t : Int) : Bool := decide (k < 1) || decide (2 < k) || decide (t < 1)



def accountZ (ba fo no bo le fr : Int) (ja : Bool) : List UInt8 := numZ ba ++ numZ fo ++ numZ no ++ numZ bo ++ numZ le ++ numZ fr ++ flagB ja

def accountFar (ba fo no bo le fr : Int) : Bool := !inNum ba || !inNum fo || !inNum no || !inNum bo || !inNum le || !inNum fr



end Go.Proofs.YtigbfbniicfpdaaGreat.W
