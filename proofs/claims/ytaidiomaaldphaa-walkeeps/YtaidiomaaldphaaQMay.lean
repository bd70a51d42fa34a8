/- Records of votes: their cells; they may be. -/
import Derived.Test.YtaidiomaaldphaaXNo
import Derived.Test.YtaidiomaaldphaaWMay
namespace Go.Proofs.Ytaidiomaaldphaa
open Go.RowKit
set_option linter.unusedVariables false
set_option linter.unusedSimpArgs false

/-- The cells of a record of a vote for none of stage 1. -/
def RC (h rd f : Int) : Array Value := #[.int .i64 1, .int .i64 h, .int .i64 rd, .int .i64 1, .bool false, .int .u64 0, .int .i64 f, .int .i64 0, .int .i64 0, .int .i64 0, .int .i64 0, .int .u64 0, .int .u64 0, .int .u64 0, .int .u64 0, .int .u64 0, .int .u64 0, .int .i64 0, .slice none 0 0, .slice none 0 0, .slice none 0 0, .int .i64 0, .int .i64 0, .int .i64 0, .bool false, .int .u64 0, .slice none 0 0, .int .i64 0, .int .i64 0, .int .u64 0, .int .u64 0, .int .u64 0, .int .u64 0, .int .u64 0, .int .u64 0, .int .i64 0, .slice none 0 0, .slice none 0 0]
/-- The cells of a record that is nothing. -/
def RZ : Array Value := #[.int .i64 0, .int .i64 0, .int .i64 0, .int .i64 0, .bool false, .int .u64 0, .int .i64 0, .int .i64 0, .int .i64 0, .int .i64 0, .int .i64 0, .int .u64 0, .int .u64 0, .int .u64 0, .int .u64 0, .int .u64 0, .int .u64 0, .int .i64 0, .slice none 0 0, .slice none 0 0, .slice none 0 0, .int .i64 0, .int .i64 0, .int .i64 0, .bool false, .int .u64 0, .slice none 0 0, .int .i64 0, .int .i64 0, .int .u64 0, .int .u64 0, .int .u64 0, .int .u64 0, .int .u64 0, .int .u64 0, .int .i64 0, .slice none 0 0, .slice none 0 0]
theorem mayV (f : Int) (h : 1 ≤ f) : mayVoteP 1 false 0 f = true := by
  simp [mayVoteP]; omega

set_option maxRecDepth 4000 in
set_option maxHeartbeats 3200000 in
theorem mayRecord_v (h rd f : Int) (hf : 1 ≤ f) (w : World) : Calls Try.prog 19 #[.agg (RC h rd f)] w fun e w' => e = .returned (.bool true) ∧ Below w.heap.size w w' := by
  obtain ⟨C, HC⟩ : ∃ C, Hid (C = RC h rd f) := ⟨_, rfl⟩
  rw [← HC.out]
  have bA : Below w.heap.size w (w.alloc (.cells C 54)) := (Below.refl _ _).alloc (Nat.le_refl _) _
  have kX := Blk.new w C 54
  have q0 : (w.alloc (.cells C 54)).cell? ⟨w.heap.size, 0, none⟩ = some (.int .i64 1) := (kX.cell 0).trans (by rw [HC.out]; rfl)
  have q1 : (w.alloc (.cells C 54)).cell? ⟨w.heap.size, 1, none⟩ = some (.int .i64 h) := (kX.cell 1).trans (by rw [HC.out]; rfl)
  have q2 : (w.alloc (.cells C 54)).cell? ⟨w.heap.size, 2, none⟩ = some (.int .i64 rd) := (kX.cell 2).trans (by rw [HC.out]; rfl)
  have q3 : (w.alloc (.cells C 54)).cell? ⟨w.heap.size, 3, none⟩ = some (.int .i64 1) := (kX.cell 3).trans (by rw [HC.out]; rfl)
  have q4 : (w.alloc (.cells C 54)).cell? ⟨w.heap.size, 4, none⟩ = some (.bool false) := (kX.cell 4).trans (by rw [HC.out]; rfl)
  have q5 : (w.alloc (.cells C 54)).cell? ⟨w.heap.size, 5, none⟩ = some (.int .u64 0) := (kX.cell 5).trans (by rw [HC.out]; rfl)
  have q6 : (w.alloc (.cells C 54)).cell? ⟨w.heap.size, 6, none⟩ = some (.int .i64 f) := (kX.cell 6).trans (by rw [HC.out]; rfl)
  have key0 := mayVote_any h rd 1 false 0 f (w.alloc (.cells C 54))
  rw [mayV f hf] at key0
  go_enter Try.func19, Try.ntmps19
  go_wp2_with fail
  refine key0.mono ?_
  rintro e w1 ⟨rfl, b1'⟩
  have b1 := bA.trans (b1'.mono bA.size)
  have k1 := kX.below b1' kX.lt
  clear key0 q0 q1 q2 q3 q4 q5 q6
  have q7 : w1.cell? ⟨w.heap.size, 7, none⟩ = some (.int .i64 0) := (k1.cell 7).trans (by rw [HC.out]; rfl)
  have q8 : w1.cell? ⟨w.heap.size, 8, none⟩ = some (.int .i64 0) := (k1.cell 8).trans (by rw [HC.out]; rfl)
  have q9 : w1.cell? ⟨w.heap.size, 9, none⟩ = some (.int .i64 0) := (k1.cell 9).trans (by rw [HC.out]; rfl)
  have q10 : w1.cell? ⟨w.heap.size, 10, none⟩ = some (.int .i64 0) := (k1.cell 10).trans (by rw [HC.out]; rfl)
  have q11 : w1.cell? ⟨w.heap.size, 11, none⟩ = some (.int .u64 0) := (k1.cell 11).trans (by rw [HC.out]; rfl)
  have q12 : w1.cell? ⟨w.heap.size, 12, none⟩ = some (.int .u64 0) := (k1.cell 12).trans (by rw [HC.out]; rfl)
  have q13 : w1.cell? ⟨w.heap.size, 13, none⟩ = some (.int .u64 0) := (k1.cell 13).trans (by rw [HC.out]; rfl)
  have q14 : w1.cell? ⟨w.heap.size, 14, none⟩ = some (.int .u64 0) := (k1.cell 14).trans (by rw [HC.out]; rfl)
  have q15 : w1.cell? ⟨w.heap.size, 15, none⟩ = some (.int .u64 0) := (k1.cell 15).trans (by rw [HC.out]; rfl)
  have q16 : w1.cell? ⟨w.heap.size, 16, none⟩ = some (.int .u64 0) := (k1.cell 16).trans (by rw [HC.out]; rfl)
  have q17 : w1.cell? ⟨w.heap.size, 17, none⟩ = some (.int .i64 0) := (k1.cell 17).trans (by rw [HC.out]; rfl)
  have q18 : w1.cell? ⟨w.heap.size, 18, none⟩ = some (.slice none 0 0) := (k1.cell 18).trans (by rw [HC.out]; rfl)
  have q19 : w1.cell? ⟨w.heap.size, 19, none⟩ = some (.slice none 0 0) := (k1.cell 19).trans (by rw [HC.out]; rfl)
  have q20 : w1.cell? ⟨w.heap.size, 20, none⟩ = some (.slice none 0 0) := (k1.cell 20).trans (by rw [HC.out]; rfl)
  have key1 := noMotion_any (⟨0, 0, ⟨⟨0, 0, 0, 0, 0, 0, 0, 0, 0⟩, ⟨none, 0, []⟩, ⟨none, 0, []⟩⟩, ⟨none, 0, []⟩⟩ : Motion) w1
  have hz1 := k1.lt
  go_wp2_with fail
  refine key1.mono ?_
  rintro e w2 ⟨rfl, b2'⟩
  have b2 := b1.trans (b2'.mono b1.size)
  have k2 := k1.below b2' k1.lt
  clear key1 q7 q8 q9 q10 q11 q12 q13 q14 q15 q16 q17 q18 q19 q20
  have q21 : w2.cell? ⟨w.heap.size, 21, none⟩ = some (.int .i64 0) := (k2.cell 21).trans (by rw [HC.out]; rfl)
  have q22 : w2.cell? ⟨w.heap.size, 22, none⟩ = some (.int .i64 0) := (k2.cell 22).trans (by rw [HC.out]; rfl)
  have q23 : w2.cell? ⟨w.heap.size, 23, none⟩ = some (.int .i64 0) := (k2.cell 23).trans (by rw [HC.out]; rfl)
  have q24 : w2.cell? ⟨w.heap.size, 24, none⟩ = some (.bool false) := (k2.cell 24).trans (by rw [HC.out]; rfl)
  have q25 : w2.cell? ⟨w.heap.size, 25, none⟩ = some (.int .u64 0) := (k2.cell 25).trans (by rw [HC.out]; rfl)
  have q26 : w2.cell? ⟨w.heap.size, 26, none⟩ = some (.slice none 0 0) := (k2.cell 26).trans (by rw [HC.out]; rfl)
  have q27 : w2.cell? ⟨w.heap.size, 27, none⟩ = some (.int .i64 0) := (k2.cell 27).trans (by rw [HC.out]; rfl)
  have q28 : w2.cell? ⟨w.heap.size, 28, none⟩ = some (.int .i64 0) := (k2.cell 28).trans (by rw [HC.out]; rfl)
  have q29 : w2.cell? ⟨w.heap.size, 29, none⟩ = some (.int .u64 0) := (k2.cell 29).trans (by rw [HC.out]; rfl)
  have q30 : w2.cell? ⟨w.heap.size, 30, none⟩ = some (.int .u64 0) := (k2.cell 30).trans (by rw [HC.out]; rfl)
  have q31 : w2.cell? ⟨w.heap.size, 31, none⟩ = some (.int .u64 0) := (k2.cell 31).trans (by rw [HC.out]; rfl)
  have q32 : w2.cell? ⟨w.heap.size, 32, none⟩ = some (.int .u64 0) := (k2.cell 32).trans (by rw [HC.out]; rfl)
  have q33 : w2.cell? ⟨w.heap.size, 33, none⟩ = some (.int .u64 0) := (k2.cell 33).trans (by rw [HC.out]; rfl)
  have q34 : w2.cell? ⟨w.heap.size, 34, none⟩ = some (.int .u64 0) := (k2.cell 34).trans (by rw [HC.out]; rfl)
  have q35 : w2.cell? ⟨w.heap.size, 35, none⟩ = some (.int .i64 0) := (k2.cell 35).trans (by rw [HC.out]; rfl)
  have q36 : w2.cell? ⟨w.heap.size, 36, none⟩ = some (.slice none 0 0) := (k2.cell 36).trans (by rw [HC.out]; rfl)
  have q37 : w2.cell? ⟨w.heap.size, 37, none⟩ = some (.slice none 0 0) := (k2.cell 37).trans (by rw [HC.out]; rfl)
  have key2 := noKnown_any (⟨⟨0, 0, 0, false, 0, ⟨none, 0, []⟩⟩, ⟨⟨0, 0, 0, 0, 0, 0, 0, 0, 0⟩, ⟨none, 0, []⟩, ⟨none, 0, []⟩⟩⟩ : Known) w2
  have hz2 := k2.lt
  have e1 : Motion.no (⟨0, 0, ⟨⟨0, 0, 0, 0, 0, 0, 0, 0, 0⟩, ⟨none, 0, []⟩, ⟨none, 0, []⟩⟩, ⟨none, 0, []⟩⟩ : Motion) = true := rfl
  rw [e1]
  go_wp2_with fail
  refine key2.mono ?_
  rintro e w3 ⟨rfl, b3'⟩
  have b3 := b2.trans (b3'.mono b2.size)
  clear key2 q21 q22 q23 q24 q25 q26 q27 q28 q29 q30 q31 q32 q33 q34 q35 q36 q37
  have e2 : Known.no (⟨⟨0, 0, 0, false, 0, ⟨none, 0, []⟩⟩, ⟨⟨0, 0, 0, 0, 0, 0, 0, 0, 0⟩, ⟨none, 0, []⟩, ⟨none, 0, []⟩⟩⟩ : Known) = true := rfl
  rw [e2]
  go_wp2
  go_ret
  exact ⟨rfl, b3⟩
end Go.Proofs.Ytaidiomaaldphaa
