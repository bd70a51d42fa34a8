/- Steps that come in: what their reading says of memory. -/
import Derived.Test.YtaifkidpdmhciaaGreatEState
import Derived.ChangeArms
import Derived.Deep.Slices
import Derived.SizedLaws
namespace Go.Proofs.YtaifkidpdmhciaaGreat
open Go.RowKit
set_option linter.unusedVariables false
set_option linter.unusedSimpArgs false

theorem Tryz.cellsIn : Tryz.prog.cellsOf 3 = 1 := by kernel_rfl
theorem Tryz.cellsWs : Tryz.prog.cellsOf 33 = 9 := by kernel_rfl
theorem int_wf {a : Int} (h : (Lit.int .i64 a).wf = true) : -9223372036854775808 ≤ a ∧ a ≤ 9223372036854775807 := by
  simpa [Lit.wf, IntKind.min, IntKind.max, IntKind.signed, IntKind.bits] using h
theorem addr_plus (b off i : Nat) : (⟨b, off, none⟩ : Addr).add i = ⟨b, off + i, none⟩ := by unfold Addr.add; split <;> simp_all
theorem four_of {α : Type} {l : List α} (h : l.length = 4) : ∃ a b c d, l = [a, b, c, d] := by
  match l, h with
  | [a, b, c, d], _ => exact ⟨a, b, c, d, rfl⟩
theorem nine_of {α : Type} {l : List α} (h : l.length = 9) : ∃ a b c d e f g i j, l = [a, b, c, d, e, f, g, i, j] := by
  match l, h with
  | [a, b, c, d, e, f, g, i, j], _ => exact ⟨a, b, c, d, e, f, g, i, j, rfl⟩

theorem Tryz.cellsDi : Tryz.prog.cellsOf 29 = 1 := by kernel_rfl

theorem Tryz.cellsBo : Tryz.prog.cellsOf 4 = 1 := by kernel_rfl

theorem Tryz.cellsVo : Tryz.prog.cellsOf 31 = 6 := by kernel_rfl

theorem dig_wf {a : Int} (h : (Lit.int .u64 a).wf = true) : 0 ≤ a ∧ a ≤ 18446744073709551615 := by
  simpa [Lit.wf, IntKind.min, IntKind.max, IntKind.signed, IntKind.bits] using h

theorem six_of {α : Type} {l : List α} (h : l.length = 6) : ∃ a b c d e f, l = [a, b, c, d, e, f] := by
  match l, h with
  | [a, b, c, d, e, f], _ => exact ⟨a, b, c, d, e, f, rfl⟩

theorem open_vote {H : Type} {enc : TypeId × Value → H} {W : World} {sp : Nat → Bool} {fuel : Nat} {cs : List Value} {x : DataW H × List MemPlace} (h : DataW.trod enc Tryz.prog W 0 sp true fuel 31 cs = some x) :
    ∃ (vh vr vs : Int) (has : Bool) (bl f : Int), cs = [.int .i64 vh, .int .i64 vr, .int .i64 vs, .bool has, .int .u64 bl, .int .i64 f] ∧ InN vh ∧ InN vr ∧ InN vs ∧ InD bl ∧ InN f := by
  obtain ⟨ys, m, _, _, hc, hlen, hfs⟩ := DataW.trod_struct Tryz.underlying31 h
  rw [Tryz.cellsVo] at hc
  obtain ⟨z0, z1, z2, z3, z4, z5, rfl⟩ := six_of hc
  obtain ⟨y0, y1, y2, y3, y4, y5, rfl⟩ := six_of (l := ys) (by simpa using hlen)
  have g0 := hfs 0 _ rfl
  simp [Tryz.cellsIn] at g0
  have g1 := hfs 1 _ rfl
  simp [Tryz.cellsIn] at g1
  have g2 := hfs 2 _ rfl
  simp [Tryz.cellsIn] at g2
  have g3 := hfs 3 _ rfl
  simp [Tryz.cellsBo] at g3
  have g4 := hfs 4 _ rfl
  simp [Tryz.cellsDi] at g4
  have g5 := hfs 5 _ rfl
  simp [Tryz.cellsIn] at g5
  obtain ⟨n0, e0, _, w0⟩ := DataW.trod_int Tryz.underlying3 g0
  obtain ⟨n1, e1, _, w1⟩ := DataW.trod_int Tryz.underlying3 g1
  obtain ⟨n2, e2, _, w2⟩ := DataW.trod_int Tryz.underlying3 g2
  obtain ⟨n3, e3, _⟩ := DataW.trod_bool Tryz.underlying4 g3
  obtain ⟨n4, e4, _, w4⟩ := DataW.trod_int Tryz.underlying29 g4
  obtain ⟨n5, e5, _, w5⟩ := DataW.trod_int Tryz.underlying3 g5
  simp only [List.cons.injEq, and_true] at e0 e1 e2 e3 e4 e5
  subst e0 e1 e2 e3 e4 e5
  exact ⟨n0, n1, n2, n3, n4, n5, rfl, int_wf w0, int_wf w1, int_wf w2, dig_wf w4, int_wf w5⟩

instance : Inhabited Sp := ⟨⟨0, 0, 0, 0, 0, 0, false, 0, 0⟩⟩
theorem open_step {H : Type} {enc : TypeId × Value → H} {W : World} {sp : Nat → Bool} {fuel : Nat} {cs : List Value} {x : DataW H × List MemPlace} (h : DataW.trod enc Tryz.prog W 0 sp true fuel 33 cs = some x) :
    ∃ y : Sp, cs = y.cells ∧ y.In := by
  obtain ⟨ys, m, _, _, hc, hlen, hfs⟩ := DataW.trod_struct Tryz.underlying33 h
  rw [Tryz.cellsWs] at hc
  obtain ⟨z0, z1, z2, z3, z4, z5, z6, z7, z8, rfl⟩ := nine_of hc
  obtain ⟨y0, y1, y2, y3, rfl⟩ := four_of (l := ys) (by simpa using hlen)
  have g0 := hfs 0 _ rfl
  simp [Tryz.cellsIn] at g0
  have g1 := hfs 1 _ rfl
  simp [Tryz.cellsIn] at g1
  have g2 := hfs 2 _ rfl
  simp [Tryz.cellsIn] at g2
  have g3 := hfs 3 _ rfl
  simp [Tryz.cellsVo] at g3
  obtain ⟨n0, e0, _, w0⟩ := DataW.trod_int Tryz.underlying3 g0
  obtain ⟨n1, e1, _, w1⟩ := DataW.trod_int Tryz.underlying3 g1
  obtain ⟨n2, e2, _, w2⟩ := DataW.trod_int Tryz.underlying3 g2
  obtain ⟨vh, vr, vs, has, bl, f, e3, b0, b1, b2, b3, b4⟩ := open_vote g3
  simp only [List.cons.injEq, and_true] at e0 e1 e2 e3
  subst e0 e1 e2
  obtain ⟨rfl, rfl, rfl, rfl, rfl, rfl⟩ := e3
  exact ⟨⟨n0, n1, n2, vh, vr, vs, has, bl, f⟩, rfl, int_wf w0, int_wf w1, int_wf w2, b0, b1, b2, b3, b4⟩

theorem open_steps {H : Type} {enc : TypeId × Value → H} {W : World} {sp : Nat → Bool} {fuel : Nat} {cs : List Value} {x : DataW H × List MemPlace} (h : DataW.trod enc Tryz.prog W 0 sp true fuel 22 cs = some x) :
    ∃ (la : Option Addr) (l : List Sp) (cap : Nat), cs = [.slice la l.length cap] ∧ l.length ≤ maxLen ∧ (∀ y ∈ l, y.In) ∧ StepsAt W la l := by
  rcases Deep.open_slice Tryz.underlying22 h with ⟨rfl, rfl⟩ | ⟨a, len, cap, m, n, D, Pl, rfl, hb, hl, hm, hmm, rfl, hx⟩
  · exact ⟨none, [], 0, rfl, Nat.zero_le _, by simp, .inl rfl⟩
  · have hlm : len ≤ m := by rw [hmm]; split <;> omega
    have each : ∀ i, i < len → ∃ y : Sp, (∀ j u, y.cells[j]? = some u → W.cell? ((a.add (i * 9)).add j) = some u) ∧ y.In := by
      intro i hi
      obtain ⟨cs', h2, h3⟩ := hx i (by omega)
      rw [Tryz.cellsWs] at h2
      obtain ⟨_, hlen, hcell⟩ := World.cells?_some h2
      obtain ⟨y, e1, g⟩ := open_step h3
      refine ⟨y, fun j u hu => ?_, g⟩
      have hj : j < 9 := (List.getElem?_eq_some_iff.1 hu).1
      rw [hcell j (by omega), e1]
      exact hu
    obtain ⟨q, hq⟩ := Deep.choose_lt each
    refine ⟨some a, (List.range len).map q, cap, by simp, by simp; omega, fun y hy => ?_, ?_⟩
    · obtain ⟨i, hi, rfl⟩ := List.mem_map.1 hy
      exact (hq i (by simpa using hi)).2
    · by_cases h0 : len = 0
      · left; simp [h0]
      · right
        obtain ⟨b, off, spot⟩ := a
        have hy := (hq 0 (by omega)).1 0 _ rfl
        have hspot : spot = none := by simpa [Addr.add] using World.cell?_spot hy
        subst hspot
        have hlt := World.block_lt_of_cell? W _ hy
        have hlt' : b < W.heap.size := by simpa [Addr.add] using hlt
        refine ⟨b, off, rfl, hlt', fun i y hy => ?_⟩
        have hi : i < len := by
          have := (List.getElem?_eq_some_iff.1 hy).1
          simpa using this
        have hyq : y = q i := by
          rw [List.getElem?_map, List.getElem?_range hi] at hy
          simpa using hy.symm
        subst hyq
        intro j u hu
        have h2 := (hq i hi).1 j u hu
        rw [addr_plus, addr_plus] at h2
        exact h2
end Go.Proofs.YtaifkidpdmhciaaGreat
