/- The answer's writing of votes, parcels, accounts. -/
import Derived.Test.YtblnlfcfjbfhiaaGreatM08
import Derived.Test.YtblnlfcfjbfhiaaGreatWMay
import Derived.Test.YtblnlfcfjbfhiaaGreatXThings

namespace Go.Proofs.YtblnlfcfjbfhiaaGreat.W
open Go.RowKit
set_option linter.unusedVariables false

def voteZ (h r s : Int) (has : Bool) (bl f : Int) : List UInt8 := numZ h ++ numZ r ++ numZ s ++ flagB has ++ be bl 8 ++ numZ f

def voteFar (h r s f : Int) : Bool := !inNum h || !inNum r || !inNum s || !inNum f

def voteOdd (s : Int) (has : Bool) (bl f : Int) : Bool := decide (2 < s) || decide (f < 1) || (!has && (decide (bl ≠ 0) || decide (s = 0)))



def parcelZ (k t a : Int) : List UInt8 := numZ k ++ numZ t ++ numZ a

def parcelFar (k t a : Int) : Bool := !inNum k || !inNum t || !inNum a

def parcelOdd (k t : Int) : Bool := decide (k < 1) || decide (2 < k) || decide (t < 1)



def accountZ (ba fo no bo le fr : Int) (ja : Bool) : List UInt8 := numZ ba ++ numZ fo ++ numZ no ++ numZ bo ++ numZ le ++ numZ fr ++ flagB ja

def accountFar (ba fo no bo le fr : Int) : Bool := !inNum ba || !inNum fo || !inNum no || !inNum bo || !inNum le || !inNum fr



end Go.Proofs.YtblnlfcfjbfhiaaGreat.W

namespace Go.Proofs.YtblnlfcfjbfhiaaGreat.W
open Go.RowKit
set_option linter.unusedVariables false

/-- A list of two numbers each, below base. -/
def PairsLt (base : Nat) (w : World) (la : Option Addr) (ps : List (Int × Int)) : Prop :=
  (∀ p ∈ ps, (-9223372036854775808 ≤ p.1 ∧ p.1 ≤ 9223372036854775807) ∧ (-9223372036854775808 ≤ p.2 ∧ p.2 ≤ 9223372036854775807)) ∧
  (ps = [] ∨ ∃ rb ro, la = some ⟨rb, ro, none⟩ ∧ rb < base ∧ ∀ i p, ps[i]? = some p → w.cell? ⟨rb, ro + i * 2, none⟩ = some (.int .i64 p.1) ∧ w.cell? ⟨rb, ro + i * 2 + 1, none⟩ = some (.int .i64 p.2))

theorem PairsLt.kp {base b : Nat} {w w' : World} {la : Option Addr} {ps : List (Int × Int)} (h : PairsLt base w la ps) (hK : Kp base b w w') : PairsLt base w' la ps := by
  refine ⟨h.1, ?_⟩
  rcases h.2 with h | ⟨rb, ro, e, hl, hc⟩
  · exact .inl h
  · exact .inr ⟨rb, ro, e, hl, fun i p hp => by rw [hK.below.cell (p := ⟨rb, ro + i * 2, none⟩) hl, hK.below.cell (p := ⟨rb, ro + i * 2 + 1, none⟩) hl]; exact hc i p hp⟩

def pairsZ (ps : List (Int × Int)) : List UInt8 := ps.flatMap fun p => numZ p.1 ++ numZ p.2

def pairsFar (ps : List (Int × Int)) : Bool := ps.any fun p => !inNum p.1 || !inNum p.2

def oddAt (ps : List (Int × Int)) (i : Nat) : Bool := decide ((ps.getD i (0, 0)).1 < 1) || decide ((ps.getD i (0, 0)).2 < 1) || (decide (0 < i) && decide ((ps.getD i (0, 0)).1 ≤ (ps.getD (i - 1) (0, 0)).1))

def oddTo (ps : List (Int × Int)) (k : Nat) : Bool := (List.range k).any (oddAt ps)

theorem pairsZ_take (ps : List (Int × Int)) (k : Nat) (p : Int × Int) (h : ps[k]? = some p) : pairsZ (ps.take (k + 1)) = pairsZ (ps.take k) ++ numZ p.1 ++ numZ p.2 := by
  rw [List.take_add_one, h]
  simp [pairsZ, List.append_assoc]

theorem pairsFar_take (ps : List (Int × Int)) (k : Nat) (p : Int × Int) (h : ps[k]? = some p) : pairsFar (ps.take (k + 1)) = (pairsFar (ps.take k) || !inNum p.1 || !inNum p.2) := by
  rw [List.take_add_one, h]
  simp [pairsFar, Bool.or_assoc]

theorem oddTo_succ (ps : List (Int × Int)) (k : Nat) : oddTo ps (k + 1) = (oddTo ps k || oddAt ps k) := by
  unfold oddTo
  rw [List.range_succ, List.any_append]; simp

theorem pairsZ_len (ps : List (Int × Int)) : (pairsZ ps).length ≤ 12 * ps.length := by
  induction ps with
  | nil => simp [pairsZ]
  | cons p r ih =>
    have h1 := numZ_len p.1
    have h2 := numZ_len p.2
    have e : pairsZ (p :: r) = (numZ p.1 ++ numZ p.2) ++ pairsZ r := by simp [pairsZ]
    rw [e, List.length_append, List.length_append, List.length_cons]
    omega

def benchZ (ps : List (Int × Int)) : List UInt8 := numZ ps.length ++ pairsZ ps

def benchFar (ps : List (Int × Int)) : Bool := decide ((7 : Int) < ps.length) || !inNum ps.length || pairsFar ps

def benchOdd (ps : List (Int × Int)) : Bool := oddTo ps ps.length

end Go.Proofs.YtblnlfcfjbfhiaaGreat.W

namespace Go.Proofs.YtblnlfcfjbfhiaaGreat.W
open Go.RowKit
set_option linter.unusedVariables false

def stepOdd (xs : List Int) (i : Nat) : Bool := decide (xs.getD i 0 < 1) || (decide (0 < i) && decide (xs.getD i 0 ≤ xs.getD (i - 1) 0))

def riseOdd (xs : List Int) (k : Nat) : Bool := (List.range k).any (stepOdd xs)

theorem riseOdd_succ (xs : List Int) (k : Nat) : riseOdd xs (k + 1) = (riseOdd xs k || stepOdd xs k) := by
  simp [riseOdd, List.range_succ]

def backOdd (xs : List Turn) (i : Nat) : Bool := decide (0 < i) && decide ((xs.map Turn.p).getD i 0 ≤ (xs.map Turn.p).getD (i - 1) 0)

def backsOdd (xs : List Turn) (k : Nat) : Bool := (List.range k).any (backOdd xs)

theorem backsOdd_succ (xs : List Turn) (k : Nat) : backsOdd xs (k + 1) = (backsOdd xs k || backOdd xs k) := by
  simp [backsOdd, List.range_succ]

theorem any_take {α : Type} (f : α → Bool) (xs : List α) (k : Nat) (x : α) (h : xs[k]? = some x) : (xs.take (k + 1)).any f = ((xs.take k).any f || f x) := by
  have e : xs.take (k + 1) = xs.take k ++ [x] := by rw [List.take_add_one, h]; rfl
  rw [e]; simp

def Vote.odd (x : Vote) : Bool := decide (2 < x.s) || decide (x.f < 1) || (!x.has && (decide (x.bl ≠ 0) || decide (x.s = 0)))

def Guilt.odd (x : Guilt) : Bool := x.a.odd || x.c.odd

def Cert.odd (x : Cert) : Bool := (decide (x.s ≠ 1) && decide (x.s ≠ 2)) || (!x.has && decide (x.bl ≠ 0)) || riseOdd x.fr.xs x.fr.xs.length

def Proof.odd (x : Proof) : Bool := backsOdd x.tu.xs x.tu.xs.length || (x.leaf && decide (x.val = [])) || (!x.leaf && (decide (0 < x.tu.xs.length) || decide (x.key ≠ []) || decide (x.val ≠ [])))

def Sight.odd (x : Sight) : Bool := x.ce.odd || benchOdd x.se.xs

def isTo (k : Int) : Bool := decide (k = 1) || decide (k = 3) || decide (k = 7) || decide (k = 8)

def isAm (k : Int) : Bool := isTo k || (decide (k = 2) || decide (k = 4) || decide (k = 5))

def Tx.odd (x : Tx) : Bool := x.si.xs.any Sight.odd || x.pr.xs.any Proof.odd || (decide (x.k < 1) || decide (10 < x.k) || decide (x.f < 1)) || ((isTo x.k && decide (x.to < 1)) || (!isTo x.k && decide (x.to ≠ 0))) || (!isAm x.k && decide (x.am ≠ 0)) ||
  (decide (x.k ≠ 2) && decide (x.k ≠ 3) && decide (x.te ≠ [])) || (decide (x.k ≠ 3) && decide (0 < x.ar.xs.length)) || (decide (x.k = 9) != decide (x.si.xs.length = 1)) || (decide (x.k = 10) != decide (x.pr.xs.length = 1))

def Block.odd (x : Block) : Bool := x.tx.xs.any Tx.odd || x.gu.xs.any Guilt.odd

def Motion.odd (x : Motion) : Bool := x.bl.odd || x.ba.xs.any Cert.odd || decide (x.fr < 1)

def Known.odd (x : Known) : Bool := x.ce.odd || x.bl.odd

def Message.odd (x : Message) : Bool := x.vo.xs.any Vote.odd || x.mo.xs.any Motion.odd || x.kn.xs.any Known.odd || x.tx.xs.any Tx.odd || decide (x.fr < 1)
end Go.Proofs.YtblnlfcfjbfhiaaGreat.W
