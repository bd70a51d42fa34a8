/- The arguments of WireSmalls, opened. -/
import Derived.Test.YtgcebahlfgclgaaRows
import Derived.Test.YtgcebahlfgclgaaWMay
import Derived.WalkKit
import Derived.ProofKit
import Derived.OpenShut
import Derived.ChangeOld
import Derived.ChangeArms
import Derived.Deep.SlicePairs
namespace Go.Proofs.Ytgcebahlfgclgaa.wireSmalls
open Go.ChangeShapes Go.WideShapes Go.ChangeAt Go.RowKit
set_option linter.unusedVariables false
set_option linter.unusedSimpArgs false
theorem add_none (b off i : Nat) : (⟨b, off, none⟩ : Addr).add i = ⟨b, off + i, none⟩ := by unfold Addr.add; split <;> simp_all
theorem bounds_i64 {a : Int} (h : (Lit.int .i64 a).wf = true) : -9223372036854775808 ≤ a ∧ a ≤ 9223372036854775807 := by
  simpa [Lit.wf, IntKind.min, IntKind.max, IntKind.signed, IntKind.bits] using h
theorem bounds_u64 {a : Int} (h : (Lit.int .u64 a).wf = true) : 0 ≤ a ∧ a ≤ 18446744073709551615 := by
  simpa [Lit.wf, IntKind.min, IntKind.max, IntKind.signed, IntKind.bits] using h
theorem Try.cellsI : Try.prog.cellsOf 3 = 1 := by kernel_rfl
theorem open_pairs {H : Type} {enc : TypeId × Value → H} {W : World} {sp : Nat → Bool} {t e : TypeId} {f0 f1 : Field} {fuel : Nat} {cs : List Value} {x : DataW H × List MemPlace} (ht : Try.prog.underlying t = some (.slice e)) (he : Try.prog.underlying e = some (.struct #[f0, f1]))
    (ce : Try.prog.cellsOf e = 2) (o0 : f0.offset = 0) (o1 : f1.offset = 1) (t0 : f0.type = 3) (t1 : f1.type = 3) (h : DataW.trod enc Try.prog W 0 sp true fuel t cs = some x) :
    ∃ (la : Option Addr) (lc : Nat) (ps : List (Int × Int)), cs = [.slice la ps.length lc] ∧ ps.length ≤ lc ∧ lc ≤ maxLen ∧ PairsAt W la ps ∧ ((ps = [] ∧ x.1 = .nil) ∨ ∃ el sp', x.1 = .slice el sp' ∧ el.length = ps.length) := by
  rcases Deep.open_slice_pairs ht he ce o0 o1 (by rw [t0]; exact Try.cellsI) (by rw [t1]; exact Try.cellsI) h with ⟨rfl, rfl⟩ | ⟨a, len, cap, m, n, V0, V1, D0, D1, P0, P1, rfl, hb, hl, hm, hmm, rfl, hx⟩
  · exact ⟨none, 0, [], rfl, Nat.le_refl _, Nat.zero_le _, ⟨by simp, .inl rfl⟩, .inl ⟨rfl, rfl⟩⟩
  · have hlm : len ≤ m := by rw [hmm]; split <;> omega
    have each : ∀ i, i < m → ∃ q : Int × Int, W.cell? (a.add (i * 2)) = some (.int .i64 q.1) ∧ W.cell? (a.add (i * 2 + 1)) = some (.int .i64 q.2) ∧ (-9223372036854775808 ≤ q.1 ∧ q.1 ≤ 9223372036854775807) ∧ (-9223372036854775808 ≤ q.2 ∧ q.2 ≤ 9223372036854775807) := by
      intro i hi
      obtain ⟨h1, h2, h3, h4⟩ := hx i hi
      rw [t0] at h3
      rw [t1] at h4
      obtain ⟨n0, e0, _, z0⟩ := DataW.trod_int Try.underlying3 h3
      obtain ⟨n1, e1, _, z1⟩ := DataW.trod_int Try.underlying3 h4
      simp only [List.cons.injEq, and_true] at e0 e1
      rw [e0] at h1
      rw [e1] at h2
      exact ⟨(n0, n1), h1, h2, bounds_i64 z0, bounds_i64 z1⟩
    obtain ⟨q, hq⟩ := Deep.choose_lt each
    refine ⟨some a, cap, (List.range len).map q, by simp, by simpa using hl, hm, ⟨?_, ?_⟩, .inr ⟨_, _, rfl, by simp⟩⟩
    · intro p hp
      simp only [List.mem_map, List.mem_range] at hp
      obtain ⟨i, hi, rfl⟩ := hp
      exact (hq i (by omega)).2.2
    · by_cases h0 : len = 0
      · left; simp [h0]
      · right
        obtain ⟨b, off, spot⟩ := a
        have hc := (hq 0 (by omega)).1
        have hspot : spot = none := by simpa [Addr.add] using World.cell?_spot hc
        subst hspot
        have hlt := World.block_lt_of_cell? W _ hc
        refine ⟨b, off, rfl, by simpa [Addr.add] using hlt, fun i p hp => ?_⟩
        have hi : i < len := by
          have := (List.getElem?_eq_some_iff.1 hp).1
          simpa using this
        have hpq : p = q i := by
          rw [List.getElem?_map, List.getElem?_range hi] at hp
          simpa using hp.symm
        subst hpq
        have h1 := (hq i (by omega)).1
        have h2 := (hq i (by omega)).2.1
        rw [add_none] at h1 h2
        exact ⟨h1, by rw [Nat.add_assoc]; exact h2⟩
theorem arr2 (cs : Array Value) (h : cs.size = 2) : ∃ a0 a1, cs = #[a0, a1] := by
  obtain ⟨l⟩ := cs
  match l, h with
  | [a0, a1], _ => exact ⟨a0, a1, rfl⟩
theorem lst2 {α : Type} (l : List α) (h : l.length = 2) : ∃ a0 a1, l = [a0, a1] := by
  match l, h with
  | [a0, a1], _ => exact ⟨a0, a1, rfl⟩
theorem arr3 (cs : Array Value) (h : cs.size = 3) : ∃ a0 a1 a2, cs = #[a0, a1, a2] := by
  obtain ⟨l⟩ := cs
  match l, h with
  | [a0, a1, a2], _ => exact ⟨a0, a1, a2, rfl⟩
theorem lst3 {α : Type} (l : List α) (h : l.length = 3) : ∃ a0 a1 a2, l = [a0, a1, a2] := by
  match l, h with
  | [a0, a1, a2], _ => exact ⟨a0, a1, a2, rfl⟩
theorem arr4 (cs : Array Value) (h : cs.size = 4) : ∃ a0 a1 a2 a3, cs = #[a0, a1, a2, a3] := by
  obtain ⟨l⟩ := cs
  match l, h with
  | [a0, a1, a2, a3], _ => exact ⟨a0, a1, a2, a3, rfl⟩
theorem lst4 {α : Type} (l : List α) (h : l.length = 4) : ∃ a0 a1 a2 a3, l = [a0, a1, a2, a3] := by
  match l, h with
  | [a0, a1, a2, a3], _ => exact ⟨a0, a1, a2, a3, rfl⟩
theorem arr6 (cs : Array Value) (h : cs.size = 6) : ∃ a0 a1 a2 a3 a4 a5, cs = #[a0, a1, a2, a3, a4, a5] := by
  obtain ⟨l⟩ := cs
  match l, h with
  | [a0, a1, a2, a3, a4, a5], _ => exact ⟨a0, a1, a2, a3, a4, a5, rfl⟩
theorem lst6 {α : Type} (l : List α) (h : l.length = 6) : ∃ a0 a1 a2 a3 a4 a5, l = [a0, a1, a2, a3, a4, a5] := by
  match l, h with
  | [a0, a1, a2, a3, a4, a5], _ => exact ⟨a0, a1, a2, a3, a4, a5, rfl⟩
theorem arr7 (cs : Array Value) (h : cs.size = 7) : ∃ a0 a1 a2 a3 a4 a5 a6, cs = #[a0, a1, a2, a3, a4, a5, a6] := by
  obtain ⟨l⟩ := cs
  match l, h with
  | [a0, a1, a2, a3, a4, a5, a6], _ => exact ⟨a0, a1, a2, a3, a4, a5, a6, rfl⟩
theorem lst7 {α : Type} (l : List α) (h : l.length = 7) : ∃ a0 a1 a2 a3 a4 a5 a6, l = [a0, a1, a2, a3, a4, a5, a6] := by
  match l, h with
  | [a0, a1, a2, a3, a4, a5, a6], _ => exact ⟨a0, a1, a2, a3, a4, a5, a6, rfl⟩
theorem arr12 (cs : Array Value) (h : cs.size = 12) : ∃ a0 a1 a2 a3 a4 a5 a6 a7 a8 a9 a10 a11, cs = #[a0, a1, a2, a3, a4, a5, a6, a7, a8, a9, a10, a11] := by
  obtain ⟨l⟩ := cs
  match l, h with
  | [a0, a1, a2, a3, a4, a5, a6, a7, a8, a9, a10, a11], _ => exact ⟨a0, a1, a2, a3, a4, a5, a6, a7, a8, a9, a10, a11, rfl⟩
theorem lst12 {α : Type} (l : List α) (h : l.length = 12) : ∃ a0 a1 a2 a3 a4 a5 a6 a7 a8 a9 a10 a11, l = [a0, a1, a2, a3, a4, a5, a6, a7, a8, a9, a10, a11] := by
  match l, h with
  | [a0, a1, a2, a3, a4, a5, a6, a7, a8, a9, a10, a11], _ => exact ⟨a0, a1, a2, a3, a4, a5, a6, a7, a8, a9, a10, a11, rfl⟩
theorem Try.cellsB : Try.prog.cellsOf 4 = 1 := by kernel_rfl
theorem Try.cellsD : Try.prog.cellsOf 23 = 1 := by kernel_rfl
theorem Try.cellsE : Try.prog.cellsOf 35 = 1 := by kernel_rfl
theorem Try.cellsV : Try.prog.cellsOf 25 = 6 := by kernel_rfl
theorem Try.cellsG : Try.prog.cellsOf 27 = 12 := by kernel_rfl
theorem Try.cellsP : Try.prog.cellsOf 30 = 3 := by kernel_rfl
theorem Try.cellsA : Try.prog.cellsOf 32 = 7 := by kernel_rfl
theorem Try.cellsW : Try.prog.cellsOf 34 = 6 := by kernel_rfl
theorem Try.cellsR : Try.prog.cellsOf 38 = 4 := by kernel_rfl
theorem Try.cellsSs : Try.prog.cellsOf 28 = 1 := by kernel_rfl
theorem Try.cellsNs : Try.prog.cellsOf 36 = 1 := by kernel_rfl
theorem Try.cellsS : Try.prog.cellsOf 160 = 2 := by kernel_rfl
theorem Try.cellsN : Try.prog.cellsOf 174 = 2 := by kernel_rfl
theorem open_vote {H : Type} {enc : TypeId × Value → H} {W : World} {sp : Nat → Bool} {fuel : Nat} {x0 x1 x2 x3 x4 x5 : Value} {x : DataW H × List MemPlace} (hf : DataW.trod enc Try.prog W 0 sp true fuel 25 [x0, x1, x2, x3, x4, x5] = some x) :
    ∃ (h : Int) (r : Int) (s : Int) (has : Bool) (bl : Int) (f : Int) , [x0, x1, x2, x3, x4, x5] = [.int .i64 h, .int .i64 r, .int .i64 s, .bool has, .int .u64 bl, .int .i64 f] ∧ (-9223372036854775808 ≤ h ∧ h ≤ 9223372036854775807) ∧ (-9223372036854775808 ≤ r ∧ r ≤ 9223372036854775807) ∧ (-9223372036854775808 ≤ s ∧ s ≤ 9223372036854775807) ∧ (0 ≤ bl ∧ bl ≤ 18446744073709551615) ∧ (-9223372036854775808 ≤ f ∧ f ≤ 9223372036854775807) := by
  obtain ⟨ys, m, _, _, _, hlen, hfs⟩ := DataW.trod_struct Try.underlying25 hf
  obtain ⟨y0, y1, y2, y3, y4, y5, rfl⟩ := lst6 ys (by simpa using hlen)
  have g0 := hfs 0 _ rfl
  simp [Try.cellsI] at g0
  obtain ⟨n0, e0, _, z0⟩ := DataW.trod_int Try.underlying3 g0
  have g1 := hfs 1 _ rfl
  simp [Try.cellsI] at g1
  obtain ⟨n1, e1, _, z1⟩ := DataW.trod_int Try.underlying3 g1
  have g2 := hfs 2 _ rfl
  simp [Try.cellsI] at g2
  obtain ⟨n2, e2, _, z2⟩ := DataW.trod_int Try.underlying3 g2
  have g3 := hfs 3 _ rfl
  simp [Try.cellsB] at g3
  obtain ⟨n3, e3, _⟩ := DataW.trod_bool Try.underlying4 g3
  have g4 := hfs 4 _ rfl
  simp [Try.cellsD] at g4
  obtain ⟨n4, e4, _, z4⟩ := DataW.trod_int Try.underlying23 g4
  have g5 := hfs 5 _ rfl
  simp [Try.cellsI] at g5
  obtain ⟨n5, e5, _, z5⟩ := DataW.trod_int Try.underlying3 g5
  simp only [List.cons.injEq, and_true] at e0 e1 e2 e3 e4 e5
  subst e0 e1 e2 e3 e4 e5
  exact ⟨n0, n1, n2, n3, n4, n5, rfl, bounds_i64 z0, bounds_i64 z1, bounds_i64 z2, bounds_u64 z4, bounds_i64 z5⟩
theorem open_parcel {H : Type} {enc : TypeId × Value → H} {W : World} {sp : Nat → Bool} {fuel : Nat} {x0 x1 x2 : Value} {x : DataW H × List MemPlace} (hf : DataW.trod enc Try.prog W 0 sp true fuel 30 [x0, x1, x2] = some x) :
    ∃ (k : Int) (t : Int) (a : Int) , [x0, x1, x2] = [.int .i64 k, .int .i64 t, .int .i64 a] ∧ (-9223372036854775808 ≤ k ∧ k ≤ 9223372036854775807) ∧ (-9223372036854775808 ≤ t ∧ t ≤ 9223372036854775807) ∧ (-9223372036854775808 ≤ a ∧ a ≤ 9223372036854775807) := by
  obtain ⟨ys, m, _, _, _, hlen, hfs⟩ := DataW.trod_struct Try.underlying30 hf
  obtain ⟨y0, y1, y2, rfl⟩ := lst3 ys (by simpa using hlen)
  have g0 := hfs 0 _ rfl
  simp [Try.cellsI] at g0
  obtain ⟨n0, e0, _, z0⟩ := DataW.trod_int Try.underlying3 g0
  have g1 := hfs 1 _ rfl
  simp [Try.cellsI] at g1
  obtain ⟨n1, e1, _, z1⟩ := DataW.trod_int Try.underlying3 g1
  have g2 := hfs 2 _ rfl
  simp [Try.cellsI] at g2
  obtain ⟨n2, e2, _, z2⟩ := DataW.trod_int Try.underlying3 g2
  simp only [List.cons.injEq, and_true] at e0 e1 e2
  subst e0 e1 e2
  exact ⟨n0, n1, n2, rfl, bounds_i64 z0, bounds_i64 z1, bounds_i64 z2⟩
theorem open_account {H : Type} {enc : TypeId × Value → H} {W : World} {sp : Nat → Bool} {fuel : Nat} {x0 x1 x2 x3 x4 x5 x6 : Value} {x : DataW H × List MemPlace} (hf : DataW.trod enc Try.prog W 0 sp true fuel 32 [x0, x1, x2, x3, x4, x5, x6] = some x) :
    ∃ (ba : Int) (fo : Int) (no : Int) (bo : Int) (le : Int) (fr : Int) (ja : Bool) , [x0, x1, x2, x3, x4, x5, x6] = [.int .i64 ba, .int .i64 fo, .int .i64 no, .int .i64 bo, .int .i64 le, .int .i64 fr, .bool ja] ∧ (-9223372036854775808 ≤ ba ∧ ba ≤ 9223372036854775807) ∧ (-9223372036854775808 ≤ fo ∧ fo ≤ 9223372036854775807) ∧ (-9223372036854775808 ≤ no ∧ no ≤ 9223372036854775807) ∧ (-9223372036854775808 ≤ bo ∧ bo ≤ 9223372036854775807) ∧ (-9223372036854775808 ≤ le ∧ le ≤ 9223372036854775807) ∧ (-9223372036854775808 ≤ fr ∧ fr ≤ 9223372036854775807) := by
  obtain ⟨ys, m, _, _, _, hlen, hfs⟩ := DataW.trod_struct Try.underlying32 hf
  obtain ⟨y0, y1, y2, y3, y4, y5, y6, rfl⟩ := lst7 ys (by simpa using hlen)
  have g0 := hfs 0 _ rfl
  simp [Try.cellsI] at g0
  obtain ⟨n0, e0, _, z0⟩ := DataW.trod_int Try.underlying3 g0
  have g1 := hfs 1 _ rfl
  simp [Try.cellsI] at g1
  obtain ⟨n1, e1, _, z1⟩ := DataW.trod_int Try.underlying3 g1
  have g2 := hfs 2 _ rfl
  simp [Try.cellsI] at g2
  obtain ⟨n2, e2, _, z2⟩ := DataW.trod_int Try.underlying3 g2
  have g3 := hfs 3 _ rfl
  simp [Try.cellsI] at g3
  obtain ⟨n3, e3, _, z3⟩ := DataW.trod_int Try.underlying3 g3
  have g4 := hfs 4 _ rfl
  simp [Try.cellsI] at g4
  obtain ⟨n4, e4, _, z4⟩ := DataW.trod_int Try.underlying3 g4
  have g5 := hfs 5 _ rfl
  simp [Try.cellsI] at g5
  obtain ⟨n5, e5, _, z5⟩ := DataW.trod_int Try.underlying3 g5
  have g6 := hfs 6 _ rfl
  simp [Try.cellsB] at g6
  obtain ⟨n6, e6, _⟩ := DataW.trod_bool Try.underlying4 g6
  simp only [List.cons.injEq, and_true] at e0 e1 e2 e3 e4 e5 e6
  subst e0 e1 e2 e3 e4 e5 e6
  exact ⟨n0, n1, n2, n3, n4, n5, n6, rfl, bounds_i64 z0, bounds_i64 z1, bounds_i64 z2, bounds_i64 z3, bounds_i64 z4, bounds_i64 z5⟩
end Go.Proofs.Ytgcebahlfgclgaa.wireSmalls
