/- Seats and numbers that come in: what their reading says of memory. -/
import Derived.Test.YtigbfbniicfpdaaGreatBSeat
import Derived.ChangeArms
import Derived.Deep.Slices
namespace Go.Proofs.YtigbfbniicfpdaaGreat
open Go.RowKit
set_option linter.unusedVariables false
set_option linter.unusedSimpArgs false

theorem Tryz.cellsSe : Tryz.prog.cellsOf 39 = 2 := by kernel_rfl
theorem Tryz.cellsIn : Tryz.prog.cellsOf 3 = 1 := by kernel_rfl
theorem int_wf {a : Int} (h : (Lit.int .i64 a).wf = true) : -9223372036854775808 ≤ a ∧ a ≤ 9223372036854775807 := by
  simpa [Lit.wf, IntKind.min, IntKind.max, IntKind.signed, IntKind.bits] using h
theorem addr_plus (b off i : Nat) : (⟨b, off, none⟩ : Addr).add i = ⟨b, off + i, none⟩ := by unfold Addr.add; split <;> simp_all
theorem two_of {α : Type} {l : List α} (h : l.length = 2) : ∃ a b, l = [a, b] := by
  match l, h with
  | [a, b], _ => exact ⟨a, b, rfl⟩

/-- What a seat's numbers are in. -/
def InI (y : Int × Int) : Prop := (-9223372036854775808 ≤ y.1 ∧ y.1 ≤ 9223372036854775807) ∧ -9223372036854775808 ≤ y.2 ∧ y.2 ≤ 9223372036854775807
theorem open_seat {H : Type} {enc : TypeId × Value → H} {W : World} {sp : Nat → Bool} {fuel : Nat} {cs : List Value} {x : DataW H × List MemPlace} (h : DataW.trod enc Tryz.prog W 0 sp true fuel 39 cs = some x) :
    ∃ y : Int × Int, cs = [.int .i64 y.1, .int .i64 y.2] ∧ InI y := by
  obtain ⟨ys, m, _, _, hc, hlen, hfs⟩ := DataW.trod_struct Tryz.underlying39 h
  rw [Tryz.cellsSe] at hc
  obtain ⟨z0, z1, rfl⟩ := two_of hc
  obtain ⟨y0, y1, rfl⟩ := two_of (l := ys) (by simpa using hlen)
  have g0 := hfs 0 _ rfl
  simp [Tryz.cellsIn] at g0
  have g1 := hfs 1 _ rfl
  simp [Tryz.cellsIn] at g1
  obtain ⟨n0, e0, _, w0⟩ := DataW.trod_int Tryz.underlying3 g0
  obtain ⟨n1, e1, _, w1⟩ := DataW.trod_int Tryz.underlying3 g1
  simp only [List.cons.injEq, and_true] at e0 e1
  subst e0 e1
  exact ⟨(n0, n1), rfl, int_wf w0, int_wf w1⟩

theorem open_seats {H : Type} {enc : TypeId × Value → H} {W : World} {sp : Nat → Bool} {fuel : Nat} {cs : List Value} {x : DataW H × List MemPlace} (h : DataW.trod enc Tryz.prog W 0 sp true fuel 22 cs = some x) :
    ∃ (la : Option Addr) (l : List (Int × Int)) (cap : Nat), cs = [.slice la l.length cap] ∧ l.length ≤ maxLen ∧ (∀ y ∈ l, InI y) ∧ SeatsAt W la l := by
  rcases Deep.open_slice Tryz.underlying22 h with ⟨rfl, rfl⟩ | ⟨a, len, cap, m, n, D, Pl, rfl, hb, hl, hm, hmm, rfl, hx⟩
  · exact ⟨none, [], 0, rfl, Nat.zero_le _, by simp, .inl rfl⟩
  · have hlm : len ≤ m := by rw [hmm]; split <;> omega
    have each : ∀ i, i < len → ∃ y : Int × Int, (W.cell? ((a.add (i * 2)).add 0) = some (.int .i64 y.1) ∧ W.cell? ((a.add (i * 2)).add 1) = some (.int .i64 y.2)) ∧ InI y := by
      intro i hi
      obtain ⟨cs', h2, h3⟩ := hx i (by omega)
      rw [Tryz.cellsSe] at h2
      obtain ⟨_, hlen, hcell⟩ := World.cells?_some h2
      obtain ⟨y, e1, g⟩ := open_seat h3
      exact ⟨y, ⟨by rw [hcell 0 (by omega), e1]; rfl, by rw [hcell 1 (by omega), e1]; rfl⟩, g⟩
    obtain ⟨q, hq⟩ := Deep.choose_lt each
    refine ⟨some a, (List.range len).map q, cap, by simp, by simp; omega, fun y hy => ?_, ?_⟩
    · obtain ⟨i, hi, rfl⟩ := List.mem_map.1 hy
      exact (hq i (by simpa using hi)).2
    · by_cases h0 : len = 0
      · left; simp [h0]
      · right
        obtain ⟨b, off, spot⟩ := a
        have hy := (hq 0 (by omega)).1.1
        have hspot : spot = none := by simpa [Addr.add] using World.cell?_spot hy
        subst hspot
        have hlt := World.block_lt_of_cell? W _ hy
        have hlt' : b < W.heap.size := by simpa [Addr.add] using hlt
        refine ⟨b, off, rfl, hlt', fun i y hy => ?_⟩
        have hi : i < len := by
          have := (List.getElem?_eq_some_iff.1 hy).1
          simpa using this
        have hyq : y = q i := by
          rw [List.getElem?_map, List.getElem?_range hi] at hy
          simpa using hy.symm
        subst hyq
        obtain ⟨⟨h2, h3⟩, _⟩ := hq i hi
        rw [addr_plus, addr_plus] at h2 h3
        exact ⟨h2, h3⟩

theorem open_ints {H : Type} {enc : TypeId × Value → H} {W : World} {sp : Nat → Bool} {fuel : Nat} {cs : List Value} {x : DataW H × List MemPlace} (h : DataW.trod enc Tryz.prog W 0 sp true fuel 23 cs = some x) :
    ∃ (la : Option Addr) (l : List Int) (cap : Nat), cs = [.slice la l.length cap] ∧ l.length ≤ maxLen ∧ (∀ y ∈ l, -9223372036854775808 ≤ y ∧ y ≤ 9223372036854775807) ∧ IntsAt W la l := by
  rcases Deep.open_slice1 Tryz.underlying23 Tryz.cellsIn h with ⟨rfl, rfl⟩ | ⟨a, len, cap, m, n, V, D, Pl, rfl, hb, hl, hm, hmm, rfl, hx⟩
  · exact ⟨none, [], 0, rfl, Nat.zero_le _, by simp, .inl rfl⟩
  · have hlm : len ≤ m := by rw [hmm]; split <;> omega
    have each : ∀ i, i < len → ∃ y : Int, W.cell? (a.add i) = some (.int .i64 y) ∧ -9223372036854775808 ≤ y ∧ y ≤ 9223372036854775807 := by
      intro i hi
      obtain ⟨h2, h3⟩ := hx i (by omega)
      obtain ⟨n0, e0, _, w0⟩ := DataW.trod_int Tryz.underlying3 h3
      simp only [List.cons.injEq, and_true] at e0
      rw [e0] at h2
      exact ⟨n0, h2, int_wf w0⟩
    obtain ⟨q, hq⟩ := Deep.choose_lt each
    refine ⟨some a, (List.range len).map q, cap, by simp, by simp; omega, fun y hy => ?_, ?_⟩
    · obtain ⟨i, hi, rfl⟩ := List.mem_map.1 hy
      exact (hq i (by simpa using hi)).2
    · by_cases h0 : len = 0
      · left; simp [h0]
      · right
        obtain ⟨b, off, spot⟩ := a
        have hy := (hq 0 (by omega)).1
        have hspot : spot = none := by simpa [Addr.add] using World.cell?_spot hy
        subst hspot
        have hlt := World.block_lt_of_cell? W _ hy
        have hlt' : b < W.heap.size := by simpa [Addr.add] using hlt
        refine ⟨b, off, rfl, hlt', fun i y hy => ?_⟩
        have hi : i < len := by
          have := (List.getElem?_eq_some_iff.1 hy).1
          simpa using this
        have hyq : y = q i := by
          rw [List.getElem?_map, List.getElem?_range hi] at hy
          simpa using hy.symm
        subst hyq
        have h2 := (hq i hi).1
        rw [addr_plus] at h2
        exact h2
end Go.Proofs.YtigbfbniicfpdaaGreat
