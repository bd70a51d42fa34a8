/- Seats and numbers that come in: what their reading says of memory. -/
import Derived.Test.YtimcddknoanghaaBSeat
import Derived.ChangeArms
import Derived.Deep.Slices
import Derived.Test.YtimcddknoanghaaKBoth
import Derived.SizedLaws

namespace Go.Proofs.Ytimcddknoanghaa
open Go.RowKit
set_option linter.unusedVariables false
set_option linter.unusedSimpArgs false

theorem Try.cellsSe : Try.prog.cellsOf 53 = 2 := by kernel_rfl
theorem Try.cellsIn : Try.prog.cellsOf 3 = 1 := by kernel_rfl
theorem int_wf {a : Int} (h : (Lit.int .i64 a).wf = true) : -9223372036854775808 ≤ a ∧ a ≤ 9223372036854775807 := by
  simpa [Lit.wf, IntKind.min, IntKind.max, IntKind.signed, IntKind.bits] using h
theorem addr_plus (b off i : Nat) : (⟨b, off, none⟩ : Addr).add i = ⟨b, off + i, none⟩ := by unfold Addr.add; split <;> simp_all
theorem two_of {α : Type} {l : List α} (h : l.length = 2) : ∃ a b, l = [a, b] := by
  match l, h with
  | [a, b], _ => exact ⟨a, b, rfl⟩

/-- What a seat's numbers are in. -/
def InI (y : Int × Int) : Prop := (-9223372036854775808 ≤ y.1 ∧ y.1 ≤ 9223372036854775807) ∧ -9223372036854775808 ≤ y.2 ∧ y.2 ≤ 9223372036854775807
theorem open_seat {H : Type} {enc : TypeId × Value → H} {W : World} {sp : Nat → Bool} {fuel : Nat} {cs : List Value} {x : DataW H × List MemPlace} (h : DataW.trod enc Try.prog W 0 sp true fuel 53 cs = some x) :
    ∃ y : Int × Int, cs = [.int .i64 y.1, .int .i64 y.2] ∧ InI y := by
  obtain ⟨ys, m, _, _, hc, hlen, hfs⟩ := DataW.trod_struct Try.underlying53 h
  rw [Try.cellsSe] at hc
  obtain ⟨z0, z1, rfl⟩ := two_of hc
  obtain ⟨y0, y1, rfl⟩ := two_of (l := ys) (by simpa using hlen)
  have g0 := hfs 0 _ rfl
  simp [Try.cellsIn] at g0
  have g1 := hfs 1 _ rfl
  simp [Try.cellsIn] at g1
  obtain ⟨n0, e0, _, w0⟩ := DataW.trod_int Try.underlying3 g0
  obtain ⟨n1, e1, _, w1⟩ := DataW.trod_int Try.underlying3 g1
  simp only [List.cons.injEq, and_true] at e0 e1
  subst e0 e1
  exact ⟨(n0, n1), rfl, int_wf w0, int_wf w1⟩

theorem open_seats {H : Type} {enc : TypeId × Value → H} {W : World} {sp : Nat → Bool} {fuel : Nat} {cs : List Value} {x : DataW H × List MemPlace} (h : DataW.trod enc Try.prog W 0 sp true fuel 22 cs = some x) :
    ∃ (la : Option Addr) (l : List (Int × Int)) (cap : Nat), cs = [.slice la l.length cap] ∧ l.length ≤ maxLen ∧ (∀ y ∈ l, InI y) ∧ SeatsAt W la l := by
  rcases Deep.open_slice Try.underlying22 h with ⟨rfl, rfl⟩ | ⟨a, len, cap, m, n, D, Pl, rfl, hb, hl, hm, hmm, rfl, hx⟩
  · exact ⟨none, [], 0, rfl, Nat.zero_le _, by simp, .inl rfl⟩
  · have hlm : len ≤ m := by rw [hmm]; split <;> omega
    have each : ∀ i, i < len → ∃ y : Int × Int, (W.cell? ((a.add (i * 2)).add 0) = some (.int .i64 y.1) ∧ W.cell? ((a.add (i * 2)).add 1) = some (.int .i64 y.2)) ∧ InI y := by
      intro i hi
      obtain ⟨cs', h2, h3⟩ := hx i (by omega)
      rw [Try.cellsSe] at h2
      obtain ⟨_, hlen, hcell⟩ := World.cells?_some h2
      obtain ⟨y, e1, g⟩ := open_seat h3
      exact ⟨y, ⟨by rw [hcell 0 (by omega), e1]; rfl, by rw [hcell 1 (by omega), e1]; rfl⟩, g⟩
    obtain ⟨q, hq⟩ := Deep.choose_lt each
    refine ⟨some a, (List.range len).map q, cap, by simp, by simp; omega, fun y hy => ?_, ?_⟩
    · obtain ⟨i, hi, rfl⟩ := List.mem_map.1 hy
      exact (hq i (by simpa using hi)).2
    · by_cases h0 : len = 0
      · left; simp [h0]
      · right
        obtain ⟨b, off, spot⟩ := a
        have hy := (hq 0 (by omega)).1.1
        have hspot : spot = none := by simpa [Addr.add] using World.cell?_spot hy
        subst hspot
        have hlt := World.block_lt_of_cell? W _ hy
        have hlt' : b < W.heap.size := by simpa [Addr.add] using hlt
        refine ⟨b, off, rfl, hlt', fun i y hy => ?_⟩
        have hi : i < len := by
          have := (List.getElem?_eq_some_iff.1 hy).1
          simpa using this
        have hyq : y = q i := by
          rw [List.getElem?_map, List.getElem?_range hi] at hy
          simpa using hy.symm
        subst hyq
        obtain ⟨⟨h2, h3⟩, _⟩ := hq i hi
        rw [addr_plus, addr_plus] at h2 h3
        exact ⟨h2, h3⟩

theorem open_ints {H : Type} {enc : TypeId × Value → H} {W : World} {sp : Nat → Bool} {fuel : Nat} {cs : List Value} {x : DataW H × List MemPlace} (h : DataW.trod enc Try.prog W 0 sp true fuel 24 cs = some x) :
    ∃ (la : Option Addr) (l : List Int) (cap : Nat), cs = [.slice la l.length cap] ∧ l.length ≤ maxLen ∧ (∀ y ∈ l, -9223372036854775808 ≤ y ∧ y ≤ 9223372036854775807) ∧ IntsAt W la l := by
  rcases Deep.open_slice1 Try.underlying24 Try.cellsIn h with ⟨rfl, rfl⟩ | ⟨a, len, cap, m, n, V, D, Pl, rfl, hb, hl, hm, hmm, rfl, hx⟩
  · exact ⟨none, [], 0, rfl, Nat.zero_le _, by simp, .inl rfl⟩
  · have hlm : len ≤ m := by rw [hmm]; split <;> omega
    have each : ∀ i, i < len → ∃ y : Int, W.cell? (a.add i) = some (.int .i64 y) ∧ -9223372036854775808 ≤ y ∧ y ≤ 9223372036854775807 := by
      intro i hi
      obtain ⟨h2, h3⟩ := hx i (by omega)
      obtain ⟨n0, e0, _, w0⟩ := DataW.trod_int Try.underlying3 h3
      simp only [List.cons.injEq, and_true] at e0
      rw [e0] at h2
      exact ⟨n0, h2, int_wf w0⟩
    obtain ⟨q, hq⟩ := Deep.choose_lt each
    refine ⟨some a, (List.range len).map q, cap, by simp, by simp; omega, fun y hy => ?_, ?_⟩
    · obtain ⟨i, hi, rfl⟩ := List.mem_map.1 hy
      exact (hq i (by simpa using hi)).2
    · by_cases h0 : len = 0
      · left; simp [h0]
      · right
        obtain ⟨b, off, spot⟩ := a
        have hy := (hq 0 (by omega)).1
        have hspot : spot = none := by simpa [Addr.add] using World.cell?_spot hy
        subst hspot
        have hlt := World.block_lt_of_cell? W _ hy
        have hlt' : b < W.heap.size := by simpa [Addr.add] using hlt
        refine ⟨b, off, rfl, hlt', fun i y hy => ?_⟩
        have hi : i < len := by
          have := (List.getElem?_eq_some_iff.1 hy).1
          simpa using this
        have hyq : y = q i := by
          rw [List.getElem?_map, List.getElem?_range hi] at hy
          simpa using hy.symm
        subst hyq
        have h2 := (hq i hi).1
        rw [addr_plus] at h2
        exact h2
end Go.Proofs.Ytimcddknoanghaa

namespace Go.Proofs.Ytimcddknoanghaa
open Go.RowKit
set_option linter.unusedVariables false
set_option linter.unusedSimpArgs false

theorem Try.cellsDi : Try.prog.cellsOf 32 = 1 := by kernel_rfl

theorem Try.cellsBo : Try.prog.cellsOf 4 = 1 := by kernel_rfl

theorem Try.cellsVo : Try.prog.cellsOf 34 = 6 := by kernel_rfl

theorem dig_wf {a : Int} (h : (Lit.int .u64 a).wf = true) : 0 ≤ a ∧ a ≤ 18446744073709551615 := by
  simpa [Lit.wf, IntKind.min, IntKind.max, IntKind.signed, IntKind.bits] using h

theorem six_of {α : Type} {l : List α} (h : l.length = 6) : ∃ a b c d e f, l = [a, b, c, d, e, f] := by
  match l, h with
  | [a, b, c, d, e, f], _ => exact ⟨a, b, c, d, e, f, rfl⟩

/-- It is an int. -/
def InN (y : Int) : Prop := -9223372036854775808 ≤ y ∧ y ≤ 9223372036854775807

/-- It is a digest. -/
def InD (y : Int) : Prop := 0 ≤ y ∧ y ≤ 18446744073709551615

theorem open_vote {H : Type} {enc : TypeId × Value → H} {W : World} {sp : Nat → Bool} {fuel : Nat} {cs : List Value} {x : DataW H × List MemPlace} (h : DataW.trod enc Try.prog W 0 sp true fuel 34 cs = some x) :
    ∃ (vh vr vs : Int) (has : Bool) (bl f : Int), cs = [.int .i64 vh, .int .i64 vr, .int .i64 vs, .bool has, .int .u64 bl, .int .i64 f] ∧ InN vh ∧ InN vr ∧ InN vs ∧ InD bl ∧ InN f := by
  obtain ⟨ys, m, _, _, hc, hlen, hfs⟩ := DataW.trod_struct Try.underlying34 h
  rw [Try.cellsVo] at hc
  obtain ⟨z0, z1, z2, z3, z4, z5, rfl⟩ := six_of hc
  obtain ⟨y0, y1, y2, y3, y4, y5, rfl⟩ := six_of (l := ys) (by simpa using hlen)
  have g0 := hfs 0 _ rfl
  simp [Try.cellsIn] at g0
  have g1 := hfs 1 _ rfl
  simp [Try.cellsIn] at g1
  have g2 := hfs 2 _ rfl
  simp [Try.cellsIn] at g2
  have g3 := hfs 3 _ rfl
  simp [Try.cellsBo] at g3
  have g4 := hfs 4 _ rfl
  simp [Try.cellsDi] at g4
  have g5 := hfs 5 _ rfl
  simp [Try.cellsIn] at g5
  obtain ⟨n0, e0, _, w0⟩ := DataW.trod_int Try.underlying3 g0
  obtain ⟨n1, e1, _, w1⟩ := DataW.trod_int Try.underlying3 g1
  obtain ⟨n2, e2, _, w2⟩ := DataW.trod_int Try.underlying3 g2
  obtain ⟨n3, e3, _⟩ := DataW.trod_bool Try.underlying4 g3
  obtain ⟨n4, e4, _, w4⟩ := DataW.trod_int Try.underlying32 g4
  obtain ⟨n5, e5, _, w5⟩ := DataW.trod_int Try.underlying3 g5
  simp only [List.cons.injEq, and_true] at e0 e1 e2 e3 e4 e5
  subst e0 e1 e2 e3 e4 e5
  exact ⟨n0, n1, n2, n3, n4, n5, rfl, int_wf w0, int_wf w1, int_wf w2, dig_wf w4, int_wf w5⟩

theorem open_votes {H : Type} {enc : TypeId × Value → H} {W : World} {sp : Nat → Bool} {fuel : Nat} {cs : List Value} {x : DataW H × List MemPlace} (h : DataW.trod enc Try.prog W 0 sp true fuel 23 cs = some x) :
    ∃ (la : Option Addr) (l : List Vt) (cap : Nat), cs = [.slice la l.length cap] ∧ l.length ≤ maxLen ∧ (∀ y ∈ l, InV y) ∧ VotesAt W la l := by
  rcases Deep.open_slice Try.underlying23 h with ⟨rfl, rfl⟩ | ⟨a, len, cap, m, n, D, Pl, rfl, hb, hl, hm, hmm, rfl, hx⟩
  · exact ⟨none, [], 0, rfl, Nat.zero_le _, by simp, .inl rfl⟩
  · have hlm : len ≤ m := by rw [hmm]; split <;> omega
    have each : ∀ i, i < len → ∃ y : Vt, (∀ j u, y.cells[j]? = some u → W.cell? ((a.add (i * 6)).add j) = some u) ∧ InV y := by
      intro i hi
      obtain ⟨cs', h2, h3⟩ := hx i (by omega)
      rw [Try.cellsVo] at h2
      obtain ⟨_, hlen, hcell⟩ := World.cells?_some h2
      obtain ⟨vh, vr, vs, has, bl, f, e1, g0, g1, g2, g3, g4⟩ := open_vote h3
      refine ⟨⟨vh, vr, vs, has, bl, f⟩, fun j u hu => ?_, g0, ⟨g1, g2, g4⟩, g3⟩
      have hj : j < 6 := (List.getElem?_eq_some_iff.1 hu).1
      rw [hcell j (by omega), e1]
      exact hu
    obtain ⟨q, hq⟩ := Deep.choose_lt each
    refine ⟨some a, (List.range len).map q, cap, by simp, by simp; omega, fun y hy => ?_, ?_⟩
    · obtain ⟨i, hi, rfl⟩ := List.mem_map.1 hy
      exact (hq i (by simpa using hi)).2
    · by_cases h0 : len = 0
      · left; simp [h0]
      · right
        obtain ⟨b, off, spot⟩ := a
        have hy := (hq 0 (by omega)).1 0 _ rfl
        have hspot : spot = none := by simpa [Addr.add] using World.cell?_spot hy
        subst hspot
        have hlt := World.block_lt_of_cell? W _ hy
        have hlt' : b < W.heap.size := by simpa [Addr.add] using hlt
        refine ⟨b, off, rfl, hlt', fun i y hy => ?_⟩
        have hi : i < len := by
          have := (List.getElem?_eq_some_iff.1 hy).1
          simpa using this
        have hyq : y = q i := by
          rw [List.getElem?_map, List.getElem?_range hi] at hy
          simpa using hy.symm
        subst hyq
        intro j u hu
        have h2 := (hq i hi).1 j u hu
        rw [addr_plus, addr_plus] at h2
        exact h2
end Go.Proofs.Ytimcddknoanghaa
