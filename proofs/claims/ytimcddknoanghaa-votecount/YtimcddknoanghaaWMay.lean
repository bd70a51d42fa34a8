/- Which things may be (chapter 1, W3). -/
import Derived.Test.YtimcddknoanghaaWNums
namespace Go.Proofs.Ytimcddknoanghaa.W
open Go.RowKit
set_option linter.unusedVariables false







def mayVoteP (s : Int) (has : Bool) (bl f : Int) : Bool := decide (0 ≤ s) && decide (s ≤ 2) && decide (1 ≤ f) && (has || (decide (bl = 0) && decide (s ≠ 0)))

set_option maxHeartbeats 1600000 in
theorem mayVote_any (h r s : Int) (has : Bool) (bl f : Int) (w : World) : Calls Try.prog 59 #[.agg #[.int .i64 h, .int .i64 r, .int .i64 s, .bool has, .int .u64 bl, .int .i64 f]] w fun e w' => e = .returned (.bool (mayVoteP s has bl f)) ∧ Below w.heap.size w w' := by
  have bA : Below w.heap.size w (w.alloc (.cells #[.int .i64 h, .int .i64 r, .int .i64 s, .bool has, .int .u64 bl, .int .i64 f] 34)) := (Below.refl _ _).alloc (Nat.le_refl _) _
  by_cases h0 : s < 0
  · have e : mayVoteP s has bl f = false := by simp [mayVoteP]; omega
    rw [e]
    clear e
    go_enter Try.func59, Try.ntmps59
    go_wp2
    go_ret
    exact ⟨rfl, bA⟩
  · by_cases h1 : 2 < s
    · have e : mayVoteP s has bl f = false := by simp [mayVoteP]; omega
      rw [e]
      clear e
      go_enter Try.func59, Try.ntmps59
      go_wp2
      go_ret
      exact ⟨rfl, bA⟩
    · by_cases h2 : f < 1
      · have e : mayVoteP s has bl f = false := by simp [mayVoteP]; omega
        rw [e]
        clear e
        go_enter Try.func59, Try.ntmps59
        go_wp2
        go_ret
        exact ⟨rfl, bA⟩
      · have e : mayVoteP s has bl f = (has || (decide (bl = 0) && decide (s ≠ 0))) := by
          unfold mayVoteP
          rw [decide_eq_true (show 0 ≤ s by omega), decide_eq_true (show s ≤ 2 by omega), decide_eq_true (show 1 ≤ f by omega)]
          simp
        rw [e]
        clear e
        cases has
        · by_cases h3 : bl = 0
          · subst h3
            by_cases h4 : s = 0
            · subst h4
              go_enter Try.func59, Try.ntmps59
              go_wp2
              go_ret
              exact ⟨by simp, bA⟩
            · have h4' : (s != 0) = true := by simpa using h4
              rw [show (false || (decide ((0 : Int) = 0) && decide (s ≠ 0))) = true by simp [h4]]
              go_enter Try.func59, Try.ntmps59
              go_wp2
              go_ret
              exact ⟨rfl, bA⟩
          · have h3' : (bl == 0) = false := by simpa using h3
            rw [show (false || (decide (bl = 0) && decide (s ≠ 0))) = false by simp [h3]]
            go_enter Try.func59, Try.ntmps59
            go_wp2
            go_ret
            exact ⟨rfl, bA⟩
        · go_enter Try.func59, Try.ntmps59
          go_wp2
          go_ret
          exact ⟨by simp, bA⟩



def mayParcelP (k t : Int) : Bool := (decide (k = 1) || decide (k = 2)) && decide (1 ≤ t)



/-- A list of two numbers each, to be read. -/
def PairsAt (w : World) (la : Option Addr) (ps : List (Int × Int)) : Prop :=
  (∀ p ∈ ps, (-9223372036854775808 ≤ p.1 ∧ p.1 ≤ 9223372036854775807) ∧ (-9223372036854775808 ≤ p.2 ∧ p.2 ≤ 9223372036854775807)) ∧
  (ps = [] ∨ ∃ rb ro, la = some ⟨rb, ro, none⟩ ∧ rb < w.heap.size ∧ ∀ i p, ps[i]? = some p → w.cell? ⟨rb, ro + i * 2, none⟩ = some (.int .i64 p.1) ∧ w.cell? ⟨rb, ro + i * 2 + 1, none⟩ = some (.int .i64 p.2))

theorem PairsAt.below {w w' : World} {B : Nat} {la : Option Addr} {ps : List (Int × Int)} (h : PairsAt w la ps) (hb : Below w.heap.size w w') : PairsAt w' la ps := by
  refine ⟨h.1, ?_⟩
  rcases h.2 with h | ⟨rb, ro, e, hl, hc⟩
  · exact .inl h
  · exact .inr ⟨rb, ro, e, Nat.lt_of_lt_of_le hl hb.size, fun i p hp => by rw [hb.cell (p := ⟨rb, ro + i * 2, none⟩) hl, hb.cell (p := ⟨rb, ro + i * 2 + 1, none⟩) hl]; exact hc i p hp⟩





def riseP (least : Int) : List (Int × Int) → Bool
  | [] => true
  | p :: r => if p.1 < least then false else riseP (wrap64 (p.1 + 1)) r



def weighP (ps : List (Int × Int)) : Bool := ps.all fun p => decide (1 ≤ p.2)



def mayBenchP (ps : List (Int × Int)) : Bool := riseP 1 ps && weighP ps



def mayViewP (wi ep : Int) (ps : List (Int × Int)) : Bool := decide (1 ≤ wi) && decide (wi ≤ 8) && decide (1 ≤ ep) && mayBenchP ps


end Go.Proofs.Ytimcddknoanghaa.W
