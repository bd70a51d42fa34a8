/- TrieExact: steps that come in: what their reading says of memory. -/
import Derived.Test.YtfjkgglflmakhaaDoorZSteps
import Derived.ChangeArms
import Derived.Deep.Slices
import Derived.SizedLaws
namespace Go.Proofs.YtfjkgglflmakhaaDoor
open Go.RowKit
set_option linter.unusedVariables false
set_option linter.unusedSimpArgs false

theorem Tryd.cellsZi : Tryd.prog.cellsOf 3 = 1 := by kernel_rfl
theorem Tryd.cellsZg : Tryd.prog.cellsOf 9 = 1 := by kernel_rfl
theorem Tryd.cellsZs : Tryd.prog.cellsOf 33 = 7 := by kernel_rfl
theorem intZ_wf {a : Int} (h : (Lit.int .i64 a).wf = true) : -9223372036854775808 ≤ a ∧ a ≤ 9223372036854775807 := by
  simpa [Lit.wf, IntKind.min, IntKind.max, IntKind.signed, IntKind.bits] using h
theorem addrZ_plus (b off i : Nat) : (⟨b, off, none⟩ : Addr).add i = ⟨b, off + i, none⟩ := by unfold Addr.add; split <;> simp_all
theorem seven_ofZ {α : Type} {l : List α} (h : l.length = 7) : ∃ a b c d e f g, l = [a, b, c, d, e, f, g] := by
  match l, h with
  | [a, b, c, d, e, f, g], _ => exact ⟨a, b, c, d, e, f, g, rfl⟩
theorem wAllZ {H : Type} {P : Program} {e : TypeId} : ∀ {l : List (DataW H)} {d : DataW H}, d ∈ l → ∀ n ∈ d.weights P e, n ∈ DataW.weightsAll P e l
  | y :: r, d, hd, n, hn => by
    simp only [DataW.weightsAll, List.mem_append]
    rcases List.mem_cons.1 hd with rfl | hd
    · exact .inl hn
    · exact .inr (wAllZ hd n hn)
theorem lenZ_small {H : Type} {enc : TypeId × Value → H} {W : World} {sp : Nat → Bool} {t e : TypeId} (ht : Tryd.prog.underlying t = some (.slice e)) (he : 1 ≤ Tryd.prog.bytesOf e) {fuel : Nat} {cs : List Value} {x : DataW H × List MemPlace} (h : DataW.trod enc Tryd.prog W 0 sp true fuel t cs = some x) (hs : ∀ n ∈ x.1.weights Tryd.prog t, n ≤ reachBytes) {la : Option Addr} {n c : Nat} (hc : cs = [.slice la n c]) : n ≤ reachBytes := by
  rcases DataW.trod_slice ht h with ⟨h0, _⟩ | ⟨a, len, cap, elems, rest, k, _, h1, rfl, _, _, _, hlen, _⟩
  · rw [hc] at h0
    simp only [List.cons.injEq, Value.slice.injEq, and_true] at h0
    rw [h0.2.1]
    exact Nat.zero_le _
  · rw [hc] at h1
    simp only [List.cons.injEq, Value.slice.injEq, and_true] at h1
    have h2 := hs (((elems.map (·.1)).length + (rest.map (·.1)).length) * Tryd.prog.bytesOf e) (by simp [DataW.weights, ht])
    have h3 := Nat.le_mul_of_pos_right ((elems.map (·.1)).length + (rest.map (·.1)).length) he
    rw [List.length_map, List.length_map] at h2 h3
    omega
theorem strZ_eta (s : ByteArray) : s = str s.data.toList := by
  cases s; simp [str]

instance : Inhabited Sz := ⟨⟨0, 0, 0, 0, 0, [], []⟩⟩
theorem openZ_step {H : Type} {enc : TypeId × Value → H} {W : World} {sp : Nat → Bool} {fuel : Nat} {cs : List Value} {x : DataW H × List MemPlace} (h : DataW.trod enc Tryd.prog W 0 sp true fuel 33 cs = some x) (hw : ∀ n ∈ x.1.weights Tryd.prog 33, n ≤ reachBytes) :
    ∃ y : Sz, cs = y.cells ∧ y.In := by
  obtain ⟨ys, m, _, rfl, hc, hlen, hfs⟩ := DataW.trod_struct Tryd.underlying33 h
  rw [Tryd.cellsZs] at hc
  obtain ⟨z0, z1, z2, z3, z4, z5, z6, rfl⟩ := seven_ofZ hc
  obtain ⟨y0, y1, y2, y3, y4, y5, y6, rfl⟩ := seven_ofZ (l := ys) (by simpa using hlen)
  have g0 := hfs 0 _ rfl
  simp [Tryd.cellsZi] at g0
  have g1 := hfs 1 _ rfl
  simp [Tryd.cellsZi] at g1
  have g2 := hfs 2 _ rfl
  simp [Tryd.cellsZi] at g2
  have g3 := hfs 3 _ rfl
  simp [Tryd.cellsZi] at g3
  have g4 := hfs 4 _ rfl
  simp [Tryd.cellsZi] at g4
  have g5 := hfs 5 _ rfl
  simp [Tryd.cellsZg] at g5
  have g6 := hfs 6 _ rfl
  simp [Tryd.cellsZg] at g6
  have w5 : ∀ n ∈ y5.1.weights Tryd.prog 9, n ≤ reachBytes := fun n hn => hw n (by
    simp only [DataW.weights, Tryd.underlying33]
    exact DataW.weights_mem_each (j := 5) rfl rfl n hn)
  have w6 : ∀ n ∈ y6.1.weights Tryd.prog 9, n ≤ reachBytes := fun n hn => hw n (by
    simp only [DataW.weights, Tryd.underlying33]
    exact DataW.weights_mem_each (j := 6) rfl rfl n hn)
  obtain ⟨n0, e0, _, i0⟩ := DataW.trod_int Tryd.underlying3 g0
  obtain ⟨n1, e1, _, i1⟩ := DataW.trod_int Tryd.underlying3 g1
  obtain ⟨n2, e2, _, i2⟩ := DataW.trod_int Tryd.underlying3 g2
  obtain ⟨n3, e3, _, i3⟩ := DataW.trod_int Tryd.underlying3 g3
  obtain ⟨n4, e4, _, i4⟩ := DataW.trod_int Tryd.underlying3 g4
  obtain ⟨s5, e5, f5, _⟩ := DataW.trod_string Tryd.underlying9 g5
  obtain ⟨s6, e6, f6, _⟩ := DataW.trod_string Tryd.underlying9 g6
  simp only [List.cons.injEq, and_true] at e0 e1 e2 e3 e4 e5 e6
  subst e0 e1 e2 e3 e4 e5 e6
  have l5 := w5 s5.data.toList.length (by rw [f5]; simp [DataW.weights])
  have l6 := w6 s6.data.toList.length (by rw [f6]; simp [DataW.weights])
  unfold reachBytes at l5 l6
  refine ⟨⟨n0, n1, n2, n3, n4, s5.data.toList, s6.data.toList⟩, ?_, intZ_wf i0, intZ_wf i1, intZ_wf i4, ?_, ?_⟩
  · simp only [Sz.cells, ← strZ_eta]
  · show s5.data.toList.length ≤ _
    omega
  · show s6.data.toList.length ≤ _
    omega

theorem openZ_steps {H : Type} {enc : TypeId × Value → H} {W : World} {sp : Nat → Bool} {fuel : Nat} {cs : List Value} {x : DataW H × List MemPlace} (h : DataW.trod enc Tryd.prog W 0 sp true fuel 22 cs = some x) (hw : ∀ n ∈ x.1.weights Tryd.prog 22, n ≤ reachBytes) :
    ∃ (la : Option Addr) (l : List Sz) (cap : Nat), cs = [.slice la l.length cap] ∧ l.length ≤ 140737488355328 ∧ (∀ y ∈ l, y.In) ∧ StepsZ W la l := by
  rcases Deep.open_slice Tryd.underlying22 h with ⟨rfl, rfl⟩ | ⟨a, len, cap, m, n, D, Pl, rfl, hb, hl, hm, hmm, rfl, hx⟩
  · exact ⟨none, [], 0, rfl, Nat.zero_le _, by simp, .inl rfl⟩
  · have hlm : len ≤ m := by rw [hmm]; split <;> omega
    have hls := lenZ_small Tryd.underlying22 (by decide +kernel) h hw rfl
    unfold reachBytes at hls
    have wD : ∀ i, i < len → ∀ k ∈ (D i).weights Tryd.prog 33, k ≤ reachBytes := fun i hi k hk => hw k (by
      simp only [DataW.weights, Tryd.underlying22, List.mem_cons, List.mem_append]
      exact .inr (.inl (wAllZ (List.mem_map.2 ⟨i, List.mem_range.2 hi, rfl⟩) k hk)))
    have each : ∀ i, i < len → ∃ y : Sz, (∀ j u, y.cells[j]? = some u → W.cell? ((a.add (i * 7)).add j) = some u) ∧ y.In := by
      intro i hi
      obtain ⟨cs', h2, h3⟩ := hx i (by omega)
      rw [Tryd.cellsZs] at h2
      obtain ⟨_, hlen, hcell⟩ := World.cells?_some h2
      obtain ⟨y, e1, g⟩ := openZ_step h3 (wD i hi)
      refine ⟨y, fun j u hu => ?_, g⟩
      have hj : j < 7 := (List.getElem?_eq_some_iff.1 hu).1
      rw [hcell j (by omega), e1]
      exact hu
    obtain ⟨q, hq⟩ := Deep.choose_lt each
    refine ⟨some a, (List.range len).map q, cap, by simp, by simp; omega, fun y hy => ?_, ?_⟩
    · obtain ⟨i, hi, rfl⟩ := List.mem_map.1 hy
      exact (hq i (by simpa using hi)).2
    · by_cases h0 : len = 0
      · left; simp [h0]
      · right
        obtain ⟨b, off, spot⟩ := a
        have hy := (hq 0 (by omega)).1 0 _ rfl
        have hspot : spot = none := by simpa [Addr.add] using World.cell?_spot hy
        subst hspot
        have hlt := World.block_lt_of_cell? W _ hy
        have hlt' : b < W.heap.size := by simpa [Addr.add] using hlt
        refine ⟨b, off, rfl, hlt', fun i y hy => ?_⟩
        have hi : i < len := by
          have := (List.getElem?_eq_some_iff.1 hy).1
          simpa using this
        have hyq : y = q i := by
          rw [List.getElem?_map, List.getElem?_range hi] at hy
          simpa using hy.symm
        subst hyq
        intro j u hu
        have h2 := (hq i hi).1 j u hu
        rw [addrZ_plus, addrZ_plus] at h2
        exact h2
end Go.Proofs.YtfjkgglflmakhaaDoor
