/- FetchExact: steps that come in: what their reading says of memory. -/
import Derived.Test.YtmhllihedejehaaGreatGStep
import Derived.Test.YtmhllihedejehaaGreatM21
import Derived.ChangeArms
import Derived.Deep.Slices
import Derived.SizedLaws
namespace Go.Proofs.YtmhllihedejehaaGreat
open Go.RowKit
set_option linter.unusedVariables false
set_option linter.unusedSimpArgs false

theorem Tryz.cellsFi : Tryz.prog.cellsOf 3 = 1 := by kernel_rfl
theorem Tryz.cellsFg : Tryz.prog.cellsOf 9 = 1 := by kernel_rfl
theorem Tryz.cellsFd : Tryz.prog.cellsOf 26 = 1 := by kernel_rfl
theorem Tryz.cellsFs : Tryz.prog.cellsOf 30 = 10 := by kernel_rfl
theorem Tryz.cellsFn : Tryz.prog.cellsOf 28 = 6 := by kernel_rfl
theorem Tryz.cellsFm : Tryz.prog.cellsOf 64 = 2 := by kernel_rfl
theorem intF_wf {a : Int} (h : (Lit.int .i64 a).wf = true) : -9223372036854775808 ≤ a ∧ a ≤ 9223372036854775807 := by
  simpa [Lit.wf, IntKind.min, IntKind.max, IntKind.signed, IntKind.bits] using h
theorem digF_wf {a : Int} (h : (Lit.int .u64 a).wf = true) : 0 ≤ a ∧ a ≤ 18446744073709551615 := by
  simpa [Lit.wf, IntKind.min, IntKind.max, IntKind.signed, IntKind.bits] using h
theorem addrF_plus (b off i : Nat) : (⟨b, off, none⟩ : Addr).add i = ⟨b, off + i, none⟩ := by unfold Addr.add; split <;> simp_all
theorem tenF {α : Type} {l : List α} (h : l.length = 10) : ∃ a b c d e f g i j k, l = [a, b, c, d, e, f, g, i, j, k] := by
  match l, h with
  | [a, b, c, d, e, f, g, i, j, k], _ => exact ⟨a, b, c, d, e, f, g, i, j, k, rfl⟩
theorem sixF {α : Type} {l : List α} (h : l.length = 6) : ∃ a b c d e f, l = [a, b, c, d, e, f] := by
  match l, h with
  | [a, b, c, d, e, f], _ => exact ⟨a, b, c, d, e, f, rfl⟩
theorem fiveF {α : Type} {l : List α} (h : l.length = 5) : ∃ a b c d e, l = [a, b, c, d, e] := by
  match l, h with
  | [a, b, c, d, e], _ => exact ⟨a, b, c, d, e, rfl⟩
theorem twoF {α : Type} {l : List α} (h : l.length = 2) : ∃ a b, l = [a, b] := by
  match l, h with
  | [a, b], _ => exact ⟨a, b, rfl⟩
theorem wAllF {H : Type} {P : Program} {e : TypeId} : ∀ {l : List (DataW H)} {d : DataW H}, d ∈ l → ∀ n ∈ d.weights P e, n ∈ DataW.weightsAll P e l
  | y :: r, d, hd, n, hn => by
    simp only [DataW.weightsAll, List.mem_append]
    rcases List.mem_cons.1 hd with rfl | hd
    · exact .inl hn
    · exact .inr (wAllF hd n hn)
theorem strF_eta (s : ByteArray) : s = str s.data.toList := by
  cases s; simp [str]
theorem lenF_small {H : Type} {enc : TypeId × Value → H} {W : World} {sp : Nat → Bool} {t e : TypeId} (ht : Tryz.prog.underlying t = some (.slice e)) (he : 1 ≤ Tryz.prog.bytesOf e) {fuel : Nat} {cs : List Value} {x : DataW H × List MemPlace} (h : DataW.trod enc Tryz.prog W 0 sp true fuel t cs = some x) (hs : ∀ n ∈ x.1.weights Tryz.prog t, n ≤ reachBytes) {la : Option Addr} {n c : Nat} (hc : cs = [.slice la n c]) : n ≤ reachBytes := by
  rcases DataW.trod_slice ht h with ⟨h0, _⟩ | ⟨a, len, cap, elems, rest, k, _, h1, rfl, _, _, _, hlen, _⟩
  · rw [hc] at h0
    simp only [List.cons.injEq, Value.slice.injEq, and_true] at h0
    rw [h0.2.1]
    exact Nat.zero_le _
  · rw [hc] at h1
    simp only [List.cons.injEq, Value.slice.injEq, and_true] at h1
    have h2 := hs (((elems.map (·.1)).length + (rest.map (·.1)).length) * Tryz.prog.bytesOf e) (by simp [DataW.weights, ht])
    have h3 := Nat.le_mul_of_pos_right ((elems.map (·.1)).length + (rest.map (·.1)).length) he
    rw [List.length_map, List.length_map] at h2 h3
    omega

theorem openF_node {H : Type} {enc : TypeId × Value → H} {W : World} {sp : Nat → Bool} {fuel : Nat} {cs : List Value} {x : DataW H × List MemPlace} (h : DataW.trod enc Tryz.prog W 0 sp true fuel 28 cs = some x) (hw : ∀ n ∈ x.1.weights Tryz.prog 28, n ≤ reachBytes) :
    ∃ y : Nd, cs = [.int .i64 y.k, .string (str y.key), .string (str y.val), .int .i64 y.pos, .int .u64 y.l, .int .u64 y.r] ∧ y.Ok ∧ y.key.length ≤ 140737488355328 ∧ y.val.length ≤ 140737488355328 := by
  obtain ⟨ys, m, _, rfl, hc, hlen, hfs⟩ := DataW.trod_struct Tryz.underlying28 h
  rw [Tryz.cellsFn] at hc
  obtain ⟨z0, z1, z2, z3, z4, z5, rfl⟩ := sixF hc
  obtain ⟨y0, y1, y2, y3, y4, y5, rfl⟩ := sixF (l := ys) (by simpa using hlen)
  have g0 := hfs 0 _ rfl
  simp [Tryz.cellsFi, Tryz.cellsFg, Tryz.cellsFd] at g0
  have g1 := hfs 1 _ rfl
  simp [Tryz.cellsFi, Tryz.cellsFg, Tryz.cellsFd] at g1
  have g2 := hfs 2 _ rfl
  simp [Tryz.cellsFi, Tryz.cellsFg, Tryz.cellsFd] at g2
  have g3 := hfs 3 _ rfl
  simp [Tryz.cellsFi, Tryz.cellsFg, Tryz.cellsFd] at g3
  have g4 := hfs 4 _ rfl
  simp [Tryz.cellsFi, Tryz.cellsFg, Tryz.cellsFd] at g4
  have g5 := hfs 5 _ rfl
  simp [Tryz.cellsFi, Tryz.cellsFg, Tryz.cellsFd] at g5
  have w1 : ∀ n ∈ y1.1.weights Tryz.prog 9, n ≤ reachBytes := fun n hn => hw n (by
    simp only [DataW.weights, Tryz.underlying28]
    exact DataW.weights_mem_each (j := 1) rfl rfl n hn)
  have w2 : ∀ n ∈ y2.1.weights Tryz.prog 9, n ≤ reachBytes := fun n hn => hw n (by
    simp only [DataW.weights, Tryz.underlying28]
    exact DataW.weights_mem_each (j := 2) rfl rfl n hn)
  obtain ⟨n0, e0, _, i0⟩ := DataW.trod_int Tryz.underlying3 g0
  obtain ⟨s1, e1, f1, _⟩ := DataW.trod_string Tryz.underlying9 g1
  obtain ⟨s2, e2, f2, _⟩ := DataW.trod_string Tryz.underlying9 g2
  obtain ⟨n3, e3, _, i3⟩ := DataW.trod_int Tryz.underlying3 g3
  obtain ⟨n4, e4, _, i4⟩ := DataW.trod_int Tryz.underlying26 g4
  obtain ⟨n5, e5, _, i5⟩ := DataW.trod_int Tryz.underlying26 g5
  simp only [List.cons.injEq, and_true] at e0 e1 e2 e3 e4 e5
  subst e0 e1 e2 e3 e4 e5
  have l1 := w1 s1.data.toList.length (by rw [f1]; simp [DataW.weights])
  have l2 := w2 s2.data.toList.length (by rw [f2]; simp [DataW.weights])
  unfold reachBytes at l1 l2
  refine ⟨⟨n0, s1.data.toList, s2.data.toList, n3, n4, n5⟩, ?_, ⟨?_, ?_, digF_wf i4, digF_wf i5, intF_wf i3⟩, ?_, ?_⟩
  · simp only [← strF_eta]
  · show s1.data.toList.length ≤ _
    unfold maxLen; omega
  · show s2.data.toList.length ≤ _
    unfold maxLen; omega
  · show s1.data.toList.length ≤ _
    omega
  · show s2.data.toList.length ≤ _
    omega

theorem openF_step {H : Type} {enc : TypeId × Value → H} {W : World} {sp : Nat → Bool} {fuel : Nat} {cs : List Value} {x : DataW H × List MemPlace} (h : DataW.trod enc Tryz.prog W 0 sp true fuel 30 cs = some x) (hw : ∀ n ∈ x.1.weights Tryz.prog 30, n ≤ reachBytes) :
    ∃ y : Fs, cs = y.cells ∧ y.In := by
  obtain ⟨ys, m, _, rfl, hc, hlen, hfs⟩ := DataW.trod_struct Tryz.underlying30 h
  rw [Tryz.cellsFs] at hc
  obtain ⟨z0, z1, z2, z3, z4, z5, z6, z7, z8, z9, rfl⟩ := tenF hc
  obtain ⟨y0, y1, y2, y3, y4, rfl⟩ := fiveF (l := ys) (by simpa using hlen)
  have g0 := hfs 0 _ rfl
  simp [Tryz.cellsFi, Tryz.cellsFg, Tryz.cellsFn] at g0
  have g1 := hfs 1 _ rfl
  simp [Tryz.cellsFi, Tryz.cellsFg, Tryz.cellsFn] at g1
  have g2 := hfs 2 _ rfl
  simp [Tryz.cellsFi, Tryz.cellsFg, Tryz.cellsFn] at g2
  have g3 := hfs 3 _ rfl
  simp [Tryz.cellsFi, Tryz.cellsFg, Tryz.cellsFn] at g3
  have g4 := hfs 4 _ rfl
  simp [Tryz.cellsFi, Tryz.cellsFg, Tryz.cellsFn] at g4
  have w3 : ∀ n ∈ y3.1.weights Tryz.prog 28, n ≤ reachBytes := fun n hn => hw n (by
    simp only [DataW.weights, Tryz.underlying30]
    exact DataW.weights_mem_each (j := 3) rfl rfl n hn)
  have w4 : ∀ n ∈ y4.1.weights Tryz.prog 9, n ≤ reachBytes := fun n hn => hw n (by
    simp only [DataW.weights, Tryz.underlying30]
    exact DataW.weights_mem_each (j := 4) rfl rfl n hn)
  obtain ⟨n0, e0, _, i0⟩ := DataW.trod_int Tryz.underlying3 g0
  obtain ⟨n1, e1, _, i1⟩ := DataW.trod_int Tryz.underlying3 g1
  obtain ⟨n2, e2, _, i2⟩ := DataW.trod_int Tryz.underlying3 g2
  obtain ⟨y, e3, hy, hyk, hyv⟩ := openF_node g3 w3
  obtain ⟨s4, e4, f4, _⟩ := DataW.trod_string Tryz.underlying9 g4
  simp only [List.cons.injEq, and_true] at e0 e1 e2 e3 e4
  obtain ⟨q1, q2, q3, q4, q5, q6⟩ := e3
  subst e0 e1 e2 e4 q1 q2 q3 q4 q5 q6
  have l4 := w4 s4.data.toList.length (by rw [f4]; simp [DataW.weights])
  unfold reachBytes at l4
  refine ⟨⟨n0, n1, n2, y, s4.data.toList⟩, ?_, ⟨intF_wf i0, intF_wf i1, intF_wf i2, hy, hyk, hyv, ?_⟩⟩
  · simp only [Fs.cells, ← strF_eta]
  · show s4.data.toList.length ≤ _
    omega

instance : Inhabited Nd := ⟨⟨0, [], [], 0, 0, 0⟩⟩
instance : Inhabited Fs := ⟨⟨0, 0, 0, default, []⟩⟩
theorem openF_steps {H : Type} {enc : TypeId × Value → H} {W : World} {sp : Nat → Bool} {fuel : Nat} {cs : List Value} {x : DataW H × List MemPlace} (h : DataW.trod enc Tryz.prog W 0 sp true fuel 23 cs = some x) (hw : ∀ n ∈ x.1.weights Tryz.prog 23, n ≤ reachBytes) :
    ∃ (la : Option Addr) (l : List Fs) (cap : Nat), cs = [.slice la l.length cap] ∧ l.length ≤ 140737488355328 ∧ (∀ y ∈ l, y.In) ∧ StepsF W la l := by
  rcases Deep.open_slice Tryz.underlying23 h with ⟨rfl, rfl⟩ | ⟨a, len, cap, m, n, D, Pl, rfl, hb, hl, hm, hmm, rfl, hx⟩
  · exact ⟨none, [], 0, rfl, Nat.zero_le _, by simp, .inl rfl⟩
  · have hlm : len ≤ m := by rw [hmm]; split <;> omega
    have hls := lenF_small Tryz.underlying23 (by decide +kernel) h hw rfl
    unfold reachBytes at hls
    have wD : ∀ i, i < len → ∀ k ∈ (D i).weights Tryz.prog 30, k ≤ reachBytes := fun i hi k hk => hw k (by
      simp only [DataW.weights, Tryz.underlying23, List.mem_cons, List.mem_append]
      exact .inr (.inl (wAllF (List.mem_map.2 ⟨i, List.mem_range.2 hi, rfl⟩) k hk)))
    have each : ∀ i, i < len → ∃ y : Fs, (∀ j u, y.cells[j]? = some u → W.cell? ((a.add (i * 10)).add j) = some u) ∧ y.In := by
      intro i hi
      obtain ⟨cs', h2, h3⟩ := hx i (by omega)
      rw [Tryz.cellsFs] at h2
      obtain ⟨_, hlen, hcell⟩ := World.cells?_some h2
      obtain ⟨y, e1, g⟩ := openF_step h3 (wD i hi)
      refine ⟨y, fun j u hu => ?_, g⟩
      have hj : j < 10 := (List.getElem?_eq_some_iff.1 hu).1
      rw [hcell j (by omega), e1]
      exact hu
    obtain ⟨q, hq⟩ := Deep.choose_lt each
    refine ⟨some a, (List.range len).map q, cap, by simp, by simp; omega, fun y hy => ?_, ?_⟩
    · obtain ⟨i, hi, rfl⟩ := List.mem_map.1 hy
      exact (hq i (by simpa using hi)).2
    · by_cases h0 : len = 0
      · left; simp [h0]
      · right
        obtain ⟨b, off, spot⟩ := a
        have hy := (hq 0 (by omega)).1 0 _ rfl
        have hspot : spot = none := by simpa [Addr.add] using World.cell?_spot hy
        subst hspot
        have hlt := World.block_lt_of_cell? W _ hy
        have hlt' : b < W.heap.size := by simpa [Addr.add] using hlt
        refine ⟨b, off, rfl, hlt', fun i y hy => ?_⟩
        have hi : i < len := by
          have := (List.getElem?_eq_some_iff.1 hy).1
          simpa using this
        have hyq : y = q i := by
          rw [List.getElem?_map, List.getElem?_range hi] at hy
          simpa using hy.symm
        subst hyq
        intro j u hu
        have h2 := (hq i hi).1 j u hu
        rw [addrF_plus, addrF_plus] at h2
        exact h2

theorem openF_item {H : Type} {enc : TypeId × Value → H} {W : World} {sp : Nat → Bool} {fuel : Nat} {cs : List Value} {x : DataW H × List MemPlace} (h : DataW.trod enc Tryz.prog W 0 sp true fuel 64 cs = some x) :
    ∃ y : Key × Key, cs = [.string (str y.1), .string (str y.2)] ∧ y.1.length ≤ maxLen ∧ y.2.length ≤ maxLen := by
  obtain ⟨ys, m, _, _, hc, hlen, hfs⟩ := DataW.trod_struct Tryz.underlying64 h
  rw [Tryz.cellsFm] at hc
  obtain ⟨z0, z1, rfl⟩ := twoF hc
  obtain ⟨y0, y1, rfl⟩ := twoF (l := ys) (by simpa using hlen)
  have g0 := hfs 0 _ rfl
  simp [Tryz.cellsFg] at g0
  have g1 := hfs 1 _ rfl
  simp [Tryz.cellsFg] at g1
  obtain ⟨n0, e0, _, w0⟩ := DataW.trod_string Tryz.underlying9 g0
  obtain ⟨n1, e1, _, w1⟩ := DataW.trod_string Tryz.underlying9 g1
  simp only [List.cons.injEq, and_true] at e0 e1
  subst e0 e1
  exact ⟨(n0.data.toList, n1.data.toList), by rw [← strF_eta, ← strF_eta], by simpa using w0, by simpa using w1⟩

theorem openF_items {H : Type} {enc : TypeId × Value → H} {W : World} {sp : Nat → Bool} {fuel : Nat} {cs : List Value} {x : DataW H × List MemPlace} (h : DataW.trod enc Tryz.prog W 0 sp true fuel 22 cs = some x) :
    ∃ (la : Option Addr) (l : List (Key × Key)) (cap : Nat), cs = [.slice la l.length cap] ∧ l.length ≤ maxLen ∧ (∀ y ∈ l, y.1.length ≤ maxLen ∧ y.2.length ≤ maxLen) ∧ ItemsAt W la l := by
  rcases Deep.open_slice Tryz.underlying22 h with ⟨rfl, rfl⟩ | ⟨a, len, cap, m, n, D, Pl, rfl, hb, hl, hm, hmm, rfl, hx⟩
  · exact ⟨none, [], 0, rfl, Nat.zero_le _, by simp, .inl rfl⟩
  · have hlm : len ≤ m := by rw [hmm]; split <;> omega
    have each : ∀ i, i < len → ∃ y : Key × Key, (W.cell? ((a.add (i * 2)).add 0) = some (.string (str y.1)) ∧ W.cell? ((a.add (i * 2)).add 1) = some (.string (str y.2))) ∧ y.1.length ≤ maxLen ∧ y.2.length ≤ maxLen := by
      intro i hi
      obtain ⟨cs', h2, h3⟩ := hx i (by omega)
      rw [Tryz.cellsFm] at h2
      obtain ⟨_, hlen, hcell⟩ := World.cells?_some h2
      obtain ⟨y, e1, g⟩ := openF_item h3
      exact ⟨y, ⟨by rw [hcell 0 (by omega), e1]; rfl, by rw [hcell 1 (by omega), e1]; rfl⟩, g⟩
    obtain ⟨q, hq⟩ := Deep.choose_lt each
    refine ⟨some a, (List.range len).map q, cap, by simp, by simp; omega, fun y hy => ?_, ?_⟩
    · obtain ⟨i, hi, rfl⟩ := List.mem_map.1 hy
      exact (hq i (by simpa using hi)).2
    · by_cases h0 : len = 0
      · left; simp [h0]
      · right
        obtain ⟨b, off, spot⟩ := a
        have hy := (hq 0 (by omega)).1.1
        have hspot : spot = none := by simpa [Addr.add] using World.cell?_spot hy
        subst hspot
        have hlt := World.block_lt_of_cell? W _ hy
        have hlt' : b < W.heap.size := by simpa [Addr.add] using hlt
        refine ⟨b, off, rfl, hlt', fun i y hy => ?_⟩
        have hi : i < len := by
          have := (List.getElem?_eq_some_iff.1 hy).1
          simpa using this
        have hyq : y = q i := by
          rw [List.getElem?_map, List.getElem?_range hi] at hy
          simpa using hy.symm
        subst hyq
        obtain ⟨⟨h2, h3⟩, _⟩ := hq i hi
        rw [addrF_plus, addrF_plus] at h2 h3
        exact ⟨h2, h3⟩

end Go.Proofs.YtmhllihedejehaaGreat
