/- What both say of benches, views and results: the same. -/
import Derived.Test.YtgcebahlfgclgaaWTop3
namespace Go.Proofs.Ytgcebahlfgclgaa
open Go.RowKit
set_option linter.unusedVariables false

theorem seats_of {w w5 : World} {b : Nat} {la : Option Addr} {ps : List (Int × Int)} (h : PairsAt w la ps) (hb : Below w.heap.size w w5) (hle : w.heap.size ≤ b) : Seats w5 b la ps := by
  rcases h.2 with h | ⟨rb, ro, e, hl, hc⟩
  · exact .inl h
  · refine .inr ⟨rb, ro, e, ⟨by omega, Nat.lt_of_lt_of_le hl hb.size, .inl (by omega)⟩, fun i p hp => ?_⟩
    have := hc i p hp
    exact ⟨by rw [hb.cell (p := ⟨rb, ro + i * 2, none⟩) hl]; exact this.1, by rw [hb.cell (p := ⟨rb, ro + i * 2 + 1, none⟩) hl]; exact this.2⟩
theorem notes_of {w w5 : World} {b : Nat} {la : Option Addr} {ps : List (Int × Int)} (h : PairsAt w la ps) (hb : Below w.heap.size w w5) (hle : w.heap.size ≤ b) : Notes w5 b la ps := by
  rcases h.2 with h | ⟨rb, ro, e, hl, hc⟩
  · exact .inl h
  · refine .inr ⟨rb, ro, e, ⟨by omega, Nat.lt_of_lt_of_le hl hb.size, .inl (by omega)⟩, fun i p hp => ?_⟩
    have := hc i p hp
    exact ⟨by rw [hb.cell (p := ⟨rb, ro + i * 2, none⟩) hl]; exact this.1, by rw [hb.cell (p := ⟨rb, ro + i * 2 + 1, none⟩) hl]; exact this.2⟩
theorem lt_of {w w5 : World} {la : Option Addr} {ps : List (Int × Int)} (h : PairsAt w la ps) (hb : Below w.heap.size w w5) : PairsLt w.heap.size w5 la ps := by
  refine ⟨h.1, ?_⟩
  rcases h.2 with h | ⟨rb, ro, e, hl, hc⟩
  · exact .inl h
  · refine .inr ⟨rb, ro, e, hl, fun i p hp => ?_⟩
    have := hc i p hp
    exact ⟨by rw [hb.cell (p := ⟨rb, ro + i * 2, none⟩) hl]; exact this.1, by rw [hb.cell (p := ⟨rb, ro + i * 2 + 1, none⟩) hl]; exact this.2⟩

theorem view_same (c wi ep h st : Int) (ps : List (Int × Int)) : resB (viewP (some []) c wi ep h st ps) (mayViewP wi ep ps) = outB (viewZ c wi ep h st ps) (viewFar c wi ep h ps) (viewOdd wi ep ps) ∧ resE (viewP (some []) c wi ep h st ps) (mayViewP wi ep ps) = outE (viewFar c wi ep h ps) (viewOdd wi ep ps) := by
  have e := bench_rel (((((Rel.nil.num c).num wi).num ep).num h).app (be st 8)) ps
  simp only [List.nil_append, Bool.false_or] at e
  refine Rel.res (Z := viewZ c wi ep h st ps) (F := viewFar c wi ep h ps) e (fun hf => ?_)
  simp only [viewFar, Bool.or_eq_false_iff] at hf
  unfold viewOdd mayViewP
  rw [bench_odd ps hf.2]
  cases mayBenchP ps <;> by_cases h1 : wi < 1 <;> by_cases h2 : 8 < wi <;> by_cases h3 : ep < 1 <;> simp_all <;> omega
theorem result_same (co us va : Int) (ps : List (Int × Int)) : resB (resultP (some []) co us va ps) true = outB (resultZ co us va ps) (resultFar co us va ps) false ∧ resE (resultP (some []) co us va ps) true = outE (resultFar co us va ps) false := by
  have e := notes_rel ps ((((Rel.nil.num co).num us).num va).numM 64 (ps.length : Int) (by omega) (by omega))
  simp only [List.nil_append, Bool.false_or] at e
  have e2 : (!inNum co || !inNum us || !inNum va || decide ((64 : Int) < ps.length) || !inNum ps.length || pairsFar ps) = resultFar co us va ps := by simp [resultFar, Bool.or_assoc]
  rw [e2] at e
  exact Rel.res (Z := resultZ co us va ps) (F := resultFar co us va ps) e (fun _ => rfl)

set_option maxHeartbeats 800000 in
theorem wputBench_any (la : Option Addr) (lc : Nat) (ps : List (Int × Int)) (w : World) (hn : ps.length ≤ 65536) (hc : ps.length ≤ lc) (hcm : lc ≤ maxLen) (hps : PairsAt w la ps) :
    Calls Try.prog 12 #[(.slice la ps.length lc)] w fun e w' => e = .returned (.tuple #[.string ⟨(outB (benchZ ps) (benchFar ps) (benchOdd ps)).toArray⟩, .int .i64 (outE (benchFar ps) (benchOdd ps))]) ∧ Below w.heap.size w w' := by
  have hput := put_Bench  la ps.length lc (seatL 7 (some []) ps) (mayBenchP ps) w (fun b w5 hP kX hne hb5 => pbench_any w.heap.size b w.heap.size 0 la lc ps [] w5 (by omega) hc hcm (by simp) hP (kX.safe (by decide) hne) (by rw [kX.cell 0]; rfl) (seats_of hps hb5 hP.le.1)) (fun w5 h5 => mayBench_any la lc ps w5 (by omega) (hps.below (B := 0) h5))
  rw [(bench_same ps).1, (bench_same ps).2] at hput
  go_enter Try.func12, Try.ntmps12
  go_wp2_with fail
  refine hput.mono ?_
  rintro e w1 ⟨rfl, b1⟩
  go_wp2
  go_ret2
  exact ⟨rfl, b1⟩

set_option maxHeartbeats 800000 in
theorem rputBench_any (la : Option Addr) (lc : Nat) (ps : List (Int × Int)) (w : World) (hn : ps.length ≤ 65536) (hc : ps.length ≤ lc) (hcm : lc ≤ maxLen) (hps : PairsAt w la ps) :
    Calls Try.prog 13 #[(.slice la ps.length lc)] w fun e w' => e = .returned (.tuple #[.string ⟨(outB (benchZ ps) (benchFar ps) (benchOdd ps)).toArray⟩, .int .i64 (outE (benchFar ps) (benchOdd ps))]) ∧ Below w.heap.size w w' := by
  have R0 : RefAt (w.alloc (.cells #[.string ⟨#[]⟩, .bool false, .bool false] 80)) (w.heap.size) [] false false := by
    have h := Blk.new w #[.string ⟨#[]⟩, .bool false, .bool false] 80
    skip
    exact h
  have bA : Below w.heap.size w (w.alloc (.cells #[.string ⟨#[]⟩, .bool false, .bool false] 80)) := (Below.refl _ _).alloc (Nat.le_refl _) _
  have P0 := lt_of hps bA
  go_enter Try.func13, Try.ntmps13
  go_wp2_with fail
  refine (rbench_any w.heap.size w.heap.size la lc ps [] false false _ (Nat.le_refl _) (by simp; omega) R0 P0).mono ?_
  rintro e w1 ⟨rfl, R1, k1⟩
  simp only [List.nil_append, Bool.false_or] at R1
  have b1 := bA.trans k1.below
  go_wp2_with fail
  refine (rout_any (w.heap.size) _ _ _ _ R1).mono ?_
  rintro e w2 ⟨rfl, b2⟩
  go_wp2
  go_ret2
  exact ⟨rfl, b1.trans (b2.mono b1.size)⟩

set_option maxHeartbeats 800000 in
theorem wputView_any (c : Int) (wi : Int) (ep : Int) (h : Int) (st : Int) (la : Option Addr) (lc : Nat) (ps : List (Int × Int)) (w : World) (bc : -9223372036854775808 ≤ c ∧ c ≤ 9223372036854775807) (bwi : -9223372036854775808 ≤ wi ∧ wi ≤ 9223372036854775807) (bep : -9223372036854775808 ≤ ep ∧ ep ≤ 9223372036854775807) (bh : -9223372036854775808 ≤ h ∧ h ≤ 9223372036854775807) (bst : 0 ≤ st ∧ st ≤ 18446744073709551615) (hn : ps.length ≤ 65536) (hc : ps.length ≤ lc) (hcm : lc ≤ maxLen) (hps : PairsAt w la ps) :
    Calls Try.prog 18 #[(.agg #[.int .i64 c, .int .i64 wi, .int .i64 ep, .int .i64 h, .int .u64 st, .slice la ps.length lc])] w fun e w' => e = .returned (.tuple #[.string ⟨(outB (viewZ c wi ep h st ps) (viewFar c wi ep h ps) (viewOdd wi ep ps)).toArray⟩, .int .i64 (outE (viewFar c wi ep h ps) (viewOdd wi ep ps))]) ∧ Below w.heap.size w w' := by
  have bA : Below w.heap.size w (w.alloc (.cells #[.int .i64 c, .int .i64 wi, .int .i64 ep, .int .i64 h, .int .u64 st, .slice la ps.length lc] 34)) := (Below.refl _ _).alloc (Nat.le_refl _) _
  have hps1 := hps.below (B := 0) bA
  have hput := put_View c wi ep h st la ps.length lc (viewP (some []) c wi ep h st ps) (mayViewP wi ep ps) (w.alloc (.cells #[.int .i64 c, .int .i64 wi, .int .i64 ep, .int .i64 h, .int .u64 st, .slice la ps.length lc] 34)) (fun b w5 hP kX hne hb5 => pview_any (w.alloc (.cells #[.int .i64 c, .int .i64 wi, .int .i64 ep, .int .i64 h, .int .u64 st, .slice la ps.length lc] 34)).heap.size b (w.alloc (.cells #[.int .i64 c, .int .i64 wi, .int .i64 ep, .int .i64 h, .int .u64 st, .slice la ps.length lc] 34)).heap.size c wi ep h st la lc ps [] w5 bst (by omega) hc hcm (by simp) hP kX hne (seats_of hps1 hb5 hP.le.1)) (fun w5 h5 => mayView_any c wi ep h st la lc ps w5 (by omega) (hps1.below (B := 0) h5))
  rw [(view_same c wi ep h st ps).1, (view_same c wi ep h st ps).2] at hput
  go_enter Try.func18, Try.ntmps18
  go_wp2_with fail
  refine hput.mono ?_
  rintro e w1 ⟨rfl, b1⟩
  go_wp2
  go_ret2
  exact ⟨rfl, bA.trans (b1.mono bA.size)⟩

set_option maxHeartbeats 800000 in
theorem rputView_any (c : Int) (wi : Int) (ep : Int) (h : Int) (st : Int) (la : Option Addr) (lc : Nat) (ps : List (Int × Int)) (w : World) (bc : -9223372036854775808 ≤ c ∧ c ≤ 9223372036854775807) (bwi : -9223372036854775808 ≤ wi ∧ wi ≤ 9223372036854775807) (bep : -9223372036854775808 ≤ ep ∧ ep ≤ 9223372036854775807) (bh : -9223372036854775808 ≤ h ∧ h ≤ 9223372036854775807) (bst : 0 ≤ st ∧ st ≤ 18446744073709551615) (hn : ps.length ≤ 65536) (hc : ps.length ≤ lc) (hcm : lc ≤ maxLen) (hps : PairsAt w la ps) :
    Calls Try.prog 19 #[(.agg #[.int .i64 c, .int .i64 wi, .int .i64 ep, .int .i64 h, .int .u64 st, .slice la ps.length lc])] w fun e w' => e = .returned (.tuple #[.string ⟨(outB (viewZ c wi ep h st ps) (viewFar c wi ep h ps) (viewOdd wi ep ps)).toArray⟩, .int .i64 (outE (viewFar c wi ep h ps) (viewOdd wi ep ps))]) ∧ Below w.heap.size w w' := by
  have R0 : RefAt ((w.alloc (.cells #[.int .i64 c, .int .i64 wi, .int .i64 ep, .int .i64 h, .int .u64 st, .slice la ps.length lc] 34)).alloc (.cells #[.string ⟨#[]⟩, .bool false, .bool false] 80)) (w.heap.size + 1) [] false false := by
    have h := Blk.new (w.alloc (.cells #[.int .i64 c, .int .i64 wi, .int .i64 ep, .int .i64 h, .int .u64 st, .slice la ps.length lc] 34)) #[.string ⟨#[]⟩, .bool false, .bool false] 80
    rw [World.size_alloc] at h
    exact h
  have bA : Below w.heap.size w ((w.alloc (.cells #[.int .i64 c, .int .i64 wi, .int .i64 ep, .int .i64 h, .int .u64 st, .slice la ps.length lc] 34)).alloc (.cells #[.string ⟨#[]⟩, .bool false, .bool false] 80)) := ((Below.refl _ _).alloc (Nat.le_refl _) _).alloc (by simp) _
  have P0 := lt_of hps bA
  go_enter Try.func19, Try.ntmps19
  go_wp2_with fail
  refine (rview_any w.heap.size (w.heap.size + 1) c wi ep h st la lc ps [] false false _ (by omega) bc bwi bep bh bst hn (by simp) R0 P0).mono ?_
  rintro e w1 ⟨rfl, R1, k1⟩
  simp only [List.nil_append, Bool.false_or] at R1
  have b1 := bA.trans k1.below
  go_wp2_with fail
  refine (rout_any (w.heap.size + 1) _ _ _ _ R1).mono ?_
  rintro e w2 ⟨rfl, b2⟩
  go_wp2
  go_ret2
  exact ⟨rfl, b1.trans (b2.mono b1.size)⟩

set_option maxHeartbeats 800000 in
theorem wputResult_any (co : Int) (us : Int) (va : Int) (la : Option Addr) (lc : Nat) (ps : List (Int × Int)) (w : World) (bco : -9223372036854775808 ≤ co ∧ co ≤ 9223372036854775807) (bus : -9223372036854775808 ≤ us ∧ us ≤ 9223372036854775807) (bva : -9223372036854775808 ≤ va ∧ va ≤ 9223372036854775807) (hn : ps.length ≤ 65536) (hc : ps.length ≤ lc) (hcm : lc ≤ maxLen) (hps : PairsAt w la ps) :
    Calls Try.prog 20 #[(.agg #[.int .i64 co, .int .i64 us, .int .i64 va, .slice la ps.length lc])] w fun e w' => e = .returned (.tuple #[.string ⟨(outB (resultZ co us va ps) (resultFar co us va ps) false).toArray⟩, .int .i64 (outE (resultFar co us va ps) false)]) ∧ Below w.heap.size w w' := by
  have bA : Below w.heap.size w (w.alloc (.cells #[.int .i64 co, .int .i64 us, .int .i64 va, .slice la ps.length lc] 38)) := (Below.refl _ _).alloc (Nat.le_refl _) _
  have hps1 := hps.below (B := 0) bA
  have hput := put_Result co us va la ps.length lc (resultP (some []) co us va ps) true (w.alloc (.cells #[.int .i64 co, .int .i64 us, .int .i64 va, .slice la ps.length lc] 38)) (fun b w5 hP kX hne hb5 => presult_any (w.alloc (.cells #[.int .i64 co, .int .i64 us, .int .i64 va, .slice la ps.length lc] 38)).heap.size b (w.alloc (.cells #[.int .i64 co, .int .i64 us, .int .i64 va, .slice la ps.length lc] 38)).heap.size co us va la lc ps [] w5 (by omega) hc hcm (by simp) hP kX hne (notes_of hps1 hb5 hP.le.1)) (fun w5 h5 => anyResult_any co us va la ps.length lc w5)
  rw [(result_same co us va ps).1, (result_same co us va ps).2] at hput
  go_enter Try.func20, Try.ntmps20
  go_wp2_with fail
  refine hput.mono ?_
  rintro e w1 ⟨rfl, b1⟩
  go_wp2
  go_ret2
  exact ⟨rfl, bA.trans (b1.mono bA.size)⟩

set_option maxHeartbeats 800000 in
theorem rputResult_any (co : Int) (us : Int) (va : Int) (la : Option Addr) (lc : Nat) (ps : List (Int × Int)) (w : World) (bco : -9223372036854775808 ≤ co ∧ co ≤ 9223372036854775807) (bus : -9223372036854775808 ≤ us ∧ us ≤ 9223372036854775807) (bva : -9223372036854775808 ≤ va ∧ va ≤ 9223372036854775807) (hn : ps.length ≤ 65536) (hc : ps.length ≤ lc) (hcm : lc ≤ maxLen) (hps : PairsAt w la ps) :
    Calls Try.prog 21 #[(.agg #[.int .i64 co, .int .i64 us, .int .i64 va, .slice la ps.length lc])] w fun e w' => e = .returned (.tuple #[.string ⟨(outB (resultZ co us va ps) (resultFar co us va ps) false).toArray⟩, .int .i64 (outE (resultFar co us va ps) false)]) ∧ Below w.heap.size w w' := by
  have R0 : RefAt ((w.alloc (.cells #[.int .i64 co, .int .i64 us, .int .i64 va, .slice la ps.length lc] 38)).alloc (.cells #[.string ⟨#[]⟩, .bool false, .bool false] 80)) (w.heap.size + 1) [] false false := by
    have h := Blk.new (w.alloc (.cells #[.int .i64 co, .int .i64 us, .int .i64 va, .slice la ps.length lc] 38)) #[.string ⟨#[]⟩, .bool false, .bool false] 80
    rw [World.size_alloc] at h
    exact h
  have bA : Below w.heap.size w ((w.alloc (.cells #[.int .i64 co, .int .i64 us, .int .i64 va, .slice la ps.length lc] 38)).alloc (.cells #[.string ⟨#[]⟩, .bool false, .bool false] 80)) := ((Below.refl _ _).alloc (Nat.le_refl _) _).alloc (by simp) _
  have P0 := lt_of hps bA
  go_enter Try.func21, Try.ntmps21
  go_wp2_with fail
  refine (rresult_any w.heap.size (w.heap.size + 1) co us va la lc ps [] false false _ (by omega) bco bus bva hn (by simp) R0 P0).mono ?_
  rintro e w1 ⟨rfl, R1, k1⟩
  simp only [List.nil_append, Bool.false_or] at R1
  have b1 := bA.trans k1.below
  go_wp2_with fail
  refine (rout_any (w.heap.size + 1) _ _ _ _ R1).mono ?_
  rintro e w2 ⟨rfl, b2⟩
  go_wp2
  go_ret2
  exact ⟨rfl, b1.trans (b2.mono b1.size)⟩

end Go.Proofs.Ytgcebahlfgclgaa
