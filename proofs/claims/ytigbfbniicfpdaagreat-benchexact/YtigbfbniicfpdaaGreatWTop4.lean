/- What both say of benches, views and results: the same. -/
import Derived.Test.YtigbfbniicfpdaaGreatWTop3
namespace Go.Proofs.YtigbfbniicfpdaaGreat.W
open Go.RowKit
set_option linter.unusedVariables false

theorem seats_of {w w5 : World} {b : Nat} {la : Option Addr} {ps : List (Int × Int)} (h : PairsAt w la ps) (hb : Below w.heap.size w w5) (hle : w.heap.size ≤ b) : Seats w5 b la ps := by
  rcases h.2 with h | ⟨rb, ro, e, hl, hc⟩
  · exact .inl h
  · refine .inr ⟨rb, ro, e, ⟨by omega, Nat.lt_of_lt_of_le hl hb.size, .inl (by omega)⟩, fun i p hp => ?_⟩
    have := hc i p hp
    exact ⟨by rw [hb.cell (p := ⟨rb, ro + i * 2, none⟩) hl]; exact this.1, by rw [hb.cell (p := ⟨rb, ro + i * 2 + 1, none⟩) hl]; exact this.2⟩

theorem notes_of {w w5 : World} {b : Nat} {la : Option Addr} {ps : List (Int × Int)} (h : PairsAt w la ps) (hb : Below w.heap.size w w5) (hle : w.heap.size ≤ b) : Notes w5 b la ps := by
  rcases h.2 with h | ⟨rb, ro, e, hl, hc⟩
  · exact .inl h
  · refine .inr ⟨rb, ro, e, ⟨by omega, Nat.lt_of_lt_of_le hl hb.size, .inl (by omega)⟩, fun i p hp => ?_⟩
    have := hc i p hp
    exact ⟨by rw [hb.cell (p := ⟨rb, ro + i * 2, none⟩) hl]; exact this.1, by rw [hb.cell (p := ⟨rb, ro + i * 2 + 1, none⟩) hl]; exact this.2⟩

theorem lt_of {w w5 : World} {la : Option Addr} {ps : List (Int × Int)} (h : PairsAt w la ps) (hb : Below w.heap.size w w5) : PairsLt w.heap.size w5 la ps := by
  refine ⟨h.1, ?_⟩
  rcases h.2 with h | ⟨rb, ro, e, hl, hc⟩
  · exact .inl h
  · refine .inr ⟨rb, ro, e, hl, fun i p hp => ?_⟩
    have := hc i p hp
    exact ⟨by rw [hb.cell (p := ⟨rb, ro + i * 2, none⟩) hl]; exact this.1, by rw [hb.cell (p := ⟨rb, ro + i * 2 + 1, none⟩) hl]; exact this.2⟩

theorem view_same (c wi ep h st : Int) (ps : List (Int × Int)) : resB (viewP (some []) c wi ep h st ps) (mayViewP wi ep ps) = outB (viewZ c wi ep h st ps) (viewFar c wi ep h ps) (viewOdd wi ep ps) ∧ resE (viewP (some []) c wi ep h st ps) (mayViewP wi ep ps) = outE (viewFar c wi ep h ps) (viewOdd wi ep ps) := by
  have e := bench_rel (((((Rel.nil.num c).num wi).num ep).num h).app (be st 8)) ps
  simp only [List.nil_append, Bool.false_or] at e
  refine Rel.res (Z := viewZ c wi ep h st ps) (F := viewFar c wi ep h ps) e (fun hf => ?_)
  simp only [viewFar, Bool.or_eq_false_iff] at hf
  unfold viewOdd mayViewP
  rw [bench_odd ps hf.2]
  cases mayBenchP ps <;> by_cases h1 : wi < 1 <;> by_cases h2 : 8 < wi <;> by_cases h3 : ep < 1 <;> simp_all <;> omega

theorem result_same (co us va : Int) (ps : List (Int × Int)) : resB (resultP (some []) co us va ps) true = outB (resultZ co us va ps) (resultFar co us va ps) false ∧ resE (resultP (some []) co us va ps) true = outE (resultFar co us va ps) false := by
  have e := notes_rel ps ((((Rel.nil.num co).num us).num va).numM 64 (ps.length : Int) (by omega) (by omega))
  simp only [List.nil_append, Bool.false_or] at e
  have e2 : (!inNum co || !inNum us || !inNum va || decide ((64 : Int) < ps.length) || !inNum ps.length || pairsFar ps) = resultFar co us va ps := by simp [resultFar, Bool.or_assoc]
  rw [e2] at e
  exact Rel.res (Z := resultZ co us va ps) (F := resultFar co us va ps) e (fun _ => rfl)

set_option maxHeartbeats 800000 in
theorem wputBench_any (la : Option Addr) (lc : Nat) (ps : List (Int × Int)) (w : World) (hn : ps.length ≤ 65536) (hc : ps.length ≤ lc) (hcm : lc ≤ maxLen) (hps : PairsAt w la ps) :
    Calls Tryz.prog 32 #[(.slice la ps.length lc)] w fun e w' => e = .returned (.tuple #[.string ⟨(outB (benchZ ps) (benchFar ps) (benchOdd ps)).toArray⟩, .int .i64 (outE (benchFar ps) (benchOdd ps))]) ∧ Below w.heap.size w w' := by
  have hput := put_Bench  la ps.length lc (seatL 7 (some []) ps) (mayBenchP ps) w (fun b w5 hP kX hne hb5 => pbench_any w.heap.size b w.heap.size 0 la lc ps [] w5 (by omega) hc hcm (by simp) hP (kX.safe (by decide) hne) (by rw [kX.cell 0]; rfl) (seats_of hps hb5 hP.le.1)) (fun w5 h5 => mayBench_any la lc ps w5 (by omega) (hps.below (B := 0) h5))
  rw [(bench_same ps).1, (bench_same ps).2] at hput
  go_enter Tryz.func32, Tryz.ntmps32
  go_wp2_with fail
  refine hput.mono ?_
  rintro e w1 ⟨rfl, b1⟩
  go_wp2
  go_ret2
  exact ⟨rfl, b1⟩

set_option maxHeartbeats 800000 in
theorem rputBench_any (la : Option Addr) (lc : Nat) (ps : List (Int × Int)) (w : World) (hn : ps.length ≤ 65536) (hc : ps.length ≤ lc) (hcm : lc ≤ maxLen) (hps : PairsAt w la ps) :
    Calls Tryz.prog 34 #[(.slice la ps.length lc)] w fun e w' => e = .returned (.tuple #[.string ⟨(outB (benchZ ps) (benchFar ps) (benchOdd ps)).toArray⟩, .int .i64 (outE (benchFar ps) (benchOdd ps))]) ∧ Below w.heap.size w w' := by
  have R0 : RefAt (w.alloc (.cells #[.string ⟨#[]⟩, .bool false, .bool false] 75)) (w.heap.size) [] false false := by
    have h := Blk.new w #[.string ⟨#[]⟩, .bool false, .bool false] 75
    skip
    exact h
  have bA : Below w.heap.size w (w.alloc (.cells #[.string ⟨#[]⟩, .bool false, .bool false] 75)) := (Below.refl _ _).alloc (Nat.le_refl _) _
  have P0 := lt_of hps bA
  go_enter Tryz.func34, Tryz.ntmps34
  go_wp2_with fail
  refine (rbench_any w.heap.size w.heap.size la lc ps [] false false _ (Nat.le_refl _) (by simp; omega) R0 P0).mono ?_
  rintro e w1 ⟨rfl, R1, k1⟩
  simp only [List.nil_append, Bool.false_or] at R1
  have b1 := bA.trans k1.below
  go_wp2_with fail
  refine (rout_any (w.heap.size) _ _ _ _ R1).mono ?_
  rintro e w2 ⟨rfl, b2⟩
  go_wp2
  go_ret2
  exact ⟨rfl, b1.trans (b2.mono b1.size)⟩









end Go.Proofs.YtigbfbniicfpdaaGreat.W
