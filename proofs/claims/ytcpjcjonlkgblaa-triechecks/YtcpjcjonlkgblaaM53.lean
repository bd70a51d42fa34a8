/- Items and numbers that come in: what their reading says of memory. -/
import Derived.Test.YtcpjcjonlkgblaaM51
import Derived.ChangeArms
import Derived.Deep.Slices
import Derived.Test.YtcpjcjonlkgblaaM39
import Derived.SizedLaws

namespace Go.Proofs.Ytcpjcjonlkgblaa
open Go.RowKit
set_option linter.unusedVariables false
set_option linter.unusedSimpArgs false

theorem Try.cellsIt : Try.prog.cellsOf 54 = 2 := by kernel_rfl
theorem Try.cellsIn : Try.prog.cellsOf 3 = 1 := by kernel_rfl
theorem Try.cellsSt : Try.prog.cellsOf 9 = 1 := by kernel_rfl
theorem int_wf {a : Int} (h : (Lit.int .i64 a).wf = true) : -9223372036854775808 ≤ a ∧ a ≤ 9223372036854775807 := by
  simpa [Lit.wf, IntKind.min, IntKind.max, IntKind.signed, IntKind.bits] using h
theorem addr_plus (b off i : Nat) : (⟨b, off, none⟩ : Addr).add i = ⟨b, off + i, none⟩ := by unfold Addr.add; split <;> simp_all
theorem str_list (s : ByteArray) : s = str s.data.toList := by cases s; simp [str]
theorem two_of {α : Type} {l : List α} (h : l.length = 2) : ∃ a b, l = [a, b] := by
  match l, h with
  | [a, b], _ => exact ⟨a, b, rfl⟩

theorem open_item {H : Type} {enc : TypeId × Value → H} {W : World} {sp : Nat → Bool} {fuel : Nat} {cs : List Value} {x : DataW H × List MemPlace} (h : DataW.trod enc Try.prog W 0 sp true fuel 54 cs = some x) :
    ∃ y : Key × Key, cs = [.string (str y.1), .string (str y.2)] ∧ y.1.length ≤ maxLen ∧ y.2.length ≤ maxLen := by
  obtain ⟨ys, m, _, _, hc, hlen, hfs⟩ := DataW.trod_struct Try.underlying54 h
  rw [Try.cellsIt] at hc
  obtain ⟨z0, z1, rfl⟩ := two_of hc
  obtain ⟨y0, y1, rfl⟩ := two_of (l := ys) (by simpa using hlen)
  have g0 := hfs 0 _ rfl
  simp [Try.cellsSt] at g0
  have g1 := hfs 1 _ rfl
  simp [Try.cellsSt] at g1
  obtain ⟨n0, e0, _, w0⟩ := DataW.trod_string Try.underlying9 g0
  obtain ⟨n1, e1, _, w1⟩ := DataW.trod_string Try.underlying9 g1
  simp only [List.cons.injEq, and_true] at e0 e1
  subst e0 e1
  exact ⟨(n0.data.toList, n1.data.toList), by rw [← str_list, ← str_list], by simpa using w0, by simpa using w1⟩

theorem open_items {H : Type} {enc : TypeId × Value → H} {W : World} {sp : Nat → Bool} {fuel : Nat} {cs : List Value} {x : DataW H × List MemPlace} (h : DataW.trod enc Try.prog W 0 sp true fuel 22 cs = some x) :
    ∃ (la : Option Addr) (l : List (Key × Key)) (cap : Nat), cs = [.slice la l.length cap] ∧ l.length ≤ maxLen ∧ (∀ y ∈ l, y.1.length ≤ maxLen ∧ y.2.length ≤ maxLen) ∧ ItemsAt W la l := by
  rcases Deep.open_slice Try.underlying22 h with ⟨rfl, rfl⟩ | ⟨a, len, cap, m, n, D, Pl, rfl, hb, hl, hm, hmm, rfl, hx⟩
  · exact ⟨none, [], 0, rfl, Nat.zero_le _, by simp, .inl rfl⟩
  · have hlm : len ≤ m := by rw [hmm]; split <;> omega
    have each : ∀ i, i < len → ∃ y : Key × Key, (W.cell? ((a.add (i * 2)).add 0) = some (.string (str y.1)) ∧ W.cell? ((a.add (i * 2)).add 1) = some (.string (str y.2))) ∧ y.1.length ≤ maxLen ∧ y.2.length ≤ maxLen := by
      intro i hi
      obtain ⟨cs', h2, h3⟩ := hx i (by omega)
      rw [Try.cellsIt] at h2
      obtain ⟨_, hlen, hcell⟩ := World.cells?_some h2
      obtain ⟨y, e1, g⟩ := open_item h3
      exact ⟨y, ⟨by rw [hcell 0 (by omega), e1]; rfl, by rw [hcell 1 (by omega), e1]; rfl⟩, g⟩
    obtain ⟨q, hq⟩ := Deep.choose_lt each
    refine ⟨some a, (List.range len).map q, cap, by simp, by simp; omega, fun y hy => ?_, ?_⟩
    · obtain ⟨i, hi, rfl⟩ := List.mem_map.1 hy
      exact (hq i (by simpa using hi)).2
    · by_cases h0 : len = 0
      · left; simp [h0]
      · right
        obtain ⟨b, off, spot⟩ := a
        have hy := (hq 0 (by omega)).1.1
        have hspot : spot = none := by simpa [Addr.add] using World.cell?_spot hy
        subst hspot
        have hlt := World.block_lt_of_cell? W _ hy
        have hlt' : b < W.heap.size := by simpa [Addr.add] using hlt
        refine ⟨b, off, rfl, hlt', fun i y hy => ?_⟩
        have hi : i < len := by
          have := (List.getElem?_eq_some_iff.1 hy).1
          simpa using this
        have hyq : y = q i := by
          rw [List.getElem?_map, List.getElem?_range hi] at hy
          simpa using hy.symm
        subst hyq
        obtain ⟨⟨h2, h3⟩, _⟩ := hq i hi
        rw [addr_plus, addr_plus] at h2 h3
        exact ⟨h2, h3⟩


end Go.Proofs.Ytcpjcjonlkgblaa

namespace Go.Proofs.Ytcpjcjonlkgblaa
open Go.RowKit
set_option linter.unusedVariables false
set_option linter.unusedSimpArgs false

theorem Try.cellsTu : Try.prog.cellsOf 69 = 2 := by kernel_rfl
theorem Try.cellsDi : Try.prog.cellsOf 36 = 1 := by kernel_rfl
theorem Try.cellsBo : Try.prog.cellsOf 4 = 1 := by kernel_rfl
theorem Try.cellsTs : Try.prog.cellsOf 23 = 1 := by kernel_rfl
theorem Try.cellsPr : Try.prog.cellsOf 25 = 4 := by kernel_rfl
theorem Try.bytesTu : Try.prog.bytesOf 69 = 16 := by kernel_rfl
theorem dig_wf {a : Int} (h : (Lit.int .u64 a).wf = true) : 0 ≤ a ∧ a ≤ 18446744073709551615 := by
  simpa [Lit.wf, IntKind.min, IntKind.max, IntKind.signed, IntKind.bits] using h
theorem four_of {α : Type} {l : List α} (h : l.length = 4) : ∃ a b c d, l = [a, b, c, d] := by
  match l, h with
  | [a, b, c, d], _ => exact ⟨a, b, c, d, rfl⟩

theorem open_turn {H : Type} {enc : TypeId × Value → H} {W : World} {sp : Nat → Bool} {fuel : Nat} {cs : List Value} {x : DataW H × List MemPlace} (h : DataW.trod enc Try.prog W 0 sp true fuel 69 cs = some x) :
    ∃ y : Int × Int, cs = [.int .i64 y.1, .int .u64 y.2] ∧ okTurn y := by
  obtain ⟨ys, m, _, _, hc, hlen, hfs⟩ := DataW.trod_struct Try.underlying69 h
  rw [Try.cellsTu] at hc
  obtain ⟨z0, z1, rfl⟩ := two_of hc
  obtain ⟨y0, y1, rfl⟩ := two_of (l := ys) (by simpa using hlen)
  have g0 := hfs 0 _ rfl
  simp [Try.cellsIn] at g0
  have g1 := hfs 1 _ rfl
  simp [Try.cellsDi] at g1
  obtain ⟨n0, e0, _, w0⟩ := DataW.trod_int Try.underlying3 g0
  obtain ⟨n1, e1, _, w1⟩ := DataW.trod_int Try.underlying36 g1
  simp only [List.cons.injEq, and_true] at e0 e1
  subst e0 e1
  exact ⟨(n0, n1), rfl, int_wf w0, dig_wf w1⟩

theorem open_turns {H : Type} {enc : TypeId × Value → H} {W : World} {sp : Nat → Bool} {fuel : Nat} {cs : List Value} {x : DataW H × List MemPlace} (h : DataW.trod enc Try.prog W 0 sp true fuel 23 cs = some x) :
    ∃ (la : Option Addr) (l : List (Int × Int)) (cap : Nat), cs = [.slice la l.length cap] ∧ l.length ≤ cap ∧ cap ≤ maxLen ∧ (∀ y ∈ l, okTurn y) ∧ TurnsAt W la l ∧ (l = [] ∨ ∃ el sp, x.1 = .slice el sp ∧ el.length = l.length) := by
  rcases Deep.open_slice Try.underlying23 h with ⟨rfl, rfl⟩ | ⟨a, len, cap, m, n, D, Pl, rfl, hb, hl, hm, hmm, rfl, hx⟩
  · exact ⟨none, [], 0, rfl, Nat.zero_le _, Nat.zero_le _, by simp, .inl rfl, .inl rfl⟩
  · have hlm : len ≤ m := by rw [hmm]; split <;> omega
    have each : ∀ i, i < len → ∃ y : Int × Int, (W.cell? ((a.add (i * 2)).add 0) = some (.int .i64 y.1) ∧ W.cell? ((a.add (i * 2)).add 1) = some (.int .u64 y.2)) ∧ okTurn y := by
      intro i hi
      obtain ⟨cs', h2, h3⟩ := hx i (by omega)
      rw [Try.cellsTu] at h2
      obtain ⟨_, hlen, hcell⟩ := World.cells?_some h2
      obtain ⟨y, e1, g⟩ := open_turn h3
      exact ⟨y, ⟨by rw [hcell 0 (by omega), e1]; rfl, by rw [hcell 1 (by omega), e1]; rfl⟩, g⟩
    obtain ⟨q, hq⟩ := Deep.choose_lt each
    refine ⟨some a, (List.range len).map q, cap, by simp, by simp; omega, hm, fun y hy => ?_, ?_, .inr ⟨_, _, rfl, by simp⟩⟩
    · obtain ⟨i, hi, rfl⟩ := List.mem_map.1 hy
      exact (hq i (by simpa using hi)).2
    · by_cases h0 : len = 0
      · left; simp [h0]
      · right
        obtain ⟨b, off, spot⟩ := a
        have hy := (hq 0 (by omega)).1.1
        have hspot : spot = none := by simpa [Addr.add] using World.cell?_spot hy
        subst hspot
        have hlt := World.block_lt_of_cell? W _ hy
        have hlt' : b < W.heap.size := by simpa [Addr.add] using hlt
        refine ⟨b, off, rfl, hlt', fun i y hy => ?_⟩
        have hi : i < len := by
          have := (List.getElem?_eq_some_iff.1 hy).1
          simpa using this
        have hyq : y = q i := by
          rw [List.getElem?_map, List.getElem?_range hi] at hy
          simpa using hy.symm
        subst hyq
        obtain ⟨⟨h2, h3⟩, _⟩ := hq i hi
        rw [addr_plus, addr_plus] at h2 h3
        exact ⟨h2, h3⟩

/-- What a proof's data are, as far as their sizes go. -/
def PfData {H : Type} (p : Pf) (x : DataW H) : Prop := ∃ a b c d, x = .agg [a, b, c, d] ∧ (p.tu = [] ∨ ∃ el sp, a = .slice el sp ∧ el.length = p.tu.length) ∧ c = .lit (.string p.key) ∧ d = .lit (.string p.val)
theorem open_proof {H : Type} {enc : TypeId × Value → H} {W : World} {sp : Nat → Bool} {fuel : Nat} {cs : List Value} {x : DataW H × List MemPlace} (h : DataW.trod enc Try.prog W 0 sp true fuel 25 cs = some x) :
    ∃ (la : Option Addr) (cap : Nat) (p : Pf), cs = [.slice la p.tu.length cap, .bool p.leaf, .string (str p.key), .string (str p.val)] ∧ PfIn W la cap p ∧ PfData p x.1 := by
  obtain ⟨ys, m, _, hxx, hc, hlen, hfs⟩ := DataW.trod_struct Try.underlying25 h
  rw [Try.cellsPr] at hc
  obtain ⟨z0, z1, z2, z3, rfl⟩ := four_of hc
  obtain ⟨y0, y1, y2, y3, rfl⟩ := four_of (l := ys) (by simpa using hlen)
  have g0 := hfs 0 _ rfl
  simp [Try.cellsTs] at g0
  have g1 := hfs 1 _ rfl
  simp [Try.cellsBo] at g1
  have g2 := hfs 2 _ rfl
  simp [Try.cellsSt] at g2
  have g3 := hfs 3 _ rfl
  simp [Try.cellsSt] at g3
  obtain ⟨la, l, cap, e0, hl1, hl2, hok, hT, hd⟩ := open_turns g0
  obtain ⟨b1, e1, _⟩ := DataW.trod_bool Try.underlying4 g1
  obtain ⟨n2, e2, d2, w2⟩ := DataW.trod_string Try.underlying9 g2
  obtain ⟨n3, e3, d3, w3⟩ := DataW.trod_string Try.underlying9 g3
  simp only [List.cons.injEq, and_true] at e0 e1 e2 e3
  subst e0 e1 e2 e3
  refine ⟨la, cap, { leaf := b1, key := n2.data.toList, val := n3.data.toList, tu := l }, by rw [← str_list, ← str_list], ⟨hl1, hl2, hT, hok, by simpa using w2, by simpa using w3⟩, ?_⟩
  rw [hxx]
  exact ⟨y0.1, y1.1, y2.1, y3.1, rfl, hd, by rw [d2], by rw [d3]⟩
theorem proof_small {H : Type} {ts : List TypeId} {ds : List (DataW H)} (h : (DataW.weightsEach Try.prog ts ds).all (· ≤ reachBytes) = true) {j : Nat} {p : Pf} {x : DataW H} (ht : ts[j]? = some 25) (hd : ds[j]? = some x) (hp : PfData p x) :
    p.tu.length ≤ 140737488355328 ∧ p.key.length ≤ 140737488355328 ∧ p.val.length ≤ 140737488355328 := by
  obtain ⟨a, b, c, d, rfl, h0, rfl, rfl⟩ := hp
  have hs : (DataW.weightsEach Try.prog [23, 4, 9, 9] [a, b, .lit (.string p.key), .lit (.string p.val)]).all (· ≤ reachBytes) = true := by
    rw [List.all_eq_true]
    intro n hn
    exact List.all_eq_true.1 h n (DataW.weights_mem_each ht hd n (by simp only [DataW.weights, Try.underlying25]; exact hn))
  have k2 := sized_string hs (j := 2) (t := 9) rfl rfl
  have k3 := sized_string hs (j := 3) (t := 9) rfl rfl
  have hr := reachBytes_lt
  refine ⟨?_, by omega, by omega⟩
  rcases h0 with h0 | ⟨el, sp, rfl, hel⟩
  · rw [h0]; simp
  · have k0 := sized_slice hs (j := 0) (t := 23) (e := 69) rfl rfl Try.underlying23
    rw [Try.bytesTu] at k0
    omega
end Go.Proofs.Ytcpjcjonlkgblaa
