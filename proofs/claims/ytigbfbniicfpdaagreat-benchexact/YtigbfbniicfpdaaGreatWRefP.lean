/- Lists of two numbers each: what they come to. -/
import Derived.Test.YtigbfbniicfpdaaGreatWRefs
import Derived.Test.YtigbfbniicfpdaaGreatWMay
namespace Go.Proofs.YtigbfbniicfpdaaGreat.W
open Go.RowKit
set_option linter.unusedVariables false

/-- A list of two numbers each, below base. -/
def PairsLt (base : Nat) (w : World) (la : Option Addr) (ps : List (Int × Int)) : Prop :=
  (∀ p ∈ ps, (-9223372036854775808 ≤ p.1 ∧ p.1 ≤ 9223372036854775807) ∧ (-9223372036854775808 ≤ p.2 ∧ p.2 ≤ 9223372036854775807)) ∧
  (ps = [] ∨ ∃ rb ro, la = some ⟨rb, ro, none⟩ ∧ rb < base ∧ ∀ i p, ps[i]? = some p → w.cell? ⟨rb, ro + i * 2, none⟩ = some (.int .i64 p.1) ∧ w.cell? ⟨rb, ro + i * 2 + 1, none⟩ = some (.int .i64 p.2))

theorem PairsLt.kp {base b : Nat} {w w' : World} {la : Option Addr} {ps : List (Int × Int)} (h : PairsLt base w la ps) (hK : Kp base b w w') : PairsLt base w' la ps := by
  refine ⟨h.1, ?_⟩
  rcases h.2 with h | ⟨rb, ro, e, hl, hc⟩
  · exact .inl h
  · exact .inr ⟨rb, ro, e, hl, fun i p hp => by rw [hK.below.cell (p := ⟨rb, ro + i * 2, none⟩) hl, hK.below.cell (p := ⟨rb, ro + i * 2 + 1, none⟩) hl]; exact hc i p hp⟩

def pairsZ (ps : List (Int × Int)) : List UInt8 := ps.flatMap fun p => numZ p.1 ++ numZ p.2

def pairsFar (ps : List (Int × Int)) : Bool := ps.any fun p => !inNum p.1 || !inNum p.2

def oddAt (ps : List (Int × Int)) (i : Nat) : Bool := decide ((ps.getD i (0, 0)).1 < 1) || decide ((ps.getD i (0, 0)).2 < 1) || (decide (0 < i) && decide ((ps.getD i (0, 0)).1 ≤ (ps.getD (i - 1) (0, 0)).1))

def oddTo (ps : List (Int × Int)) (k : Nat) : Bool := (List.range k).any (oddAt ps)

theorem pairsZ_take (ps : List (Int × Int)) (k : Nat) (p : Int × Int) (h : ps[k]? = some p) : pairsZ (ps.take (k + 1)) = pairsZ (ps.take k) ++ numZ p.1 ++ numZ p.2 := by
  rw [List.take_add_one, h]
  simp [pairsZ, List.append_assoc]

theorem pairsFar_take (ps : List (Int × Int)) (k : Nat) (p : Int × Int) (h : ps[k]? = some p) : pairsFar (ps.take (k + 1)) = (pairsFar (ps.take k) || !inNum p.1 || !inNum p.2) := by
  rw [List.take_add_one, h]
  simp [pairsFar, Bool.or_assoc]

theorem oddTo_succ (ps : List (Int × Int)) (k : Nat) : oddTo ps (k + 1) = (oddTo ps k || oddAt ps k) := by
  unfold oddTo
  rw [List.range_succ, List.any_append]; simp

theorem pairsZ_len (ps : List (Int × Int)) : (pairsZ ps).length ≤ 12 * ps.length := by
  induction ps with
  | nil => simp [pairsZ]
  | cons p r ih =>
    have h1 := numZ_len p.1
    have h2 := numZ_len p.2
    have e : pairsZ (p :: r) = (numZ p.1 ++ numZ p.2) ++ pairsZ r := by simp [pairsZ]
    rw [e, List.length_append, List.length_append, List.length_cons]
    omega

def benchZ (ps : List (Int × Int)) : List UInt8 := numZ ps.length ++ pairsZ ps

def benchFar (ps : List (Int × Int)) : Bool := decide ((7 : Int) < ps.length) || !inNum ps.length || pairsFar ps

def benchOdd (ps : List (Int × Int)) : Bool := oddTo ps ps.length

end Go.Proofs.YtigbfbniicfpdaaGreat.W
