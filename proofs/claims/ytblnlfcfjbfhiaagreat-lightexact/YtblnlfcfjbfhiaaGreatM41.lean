/- Seats and numbers that come in: what their reading says of memory. -/
import Derived.Test.YtblnlfcfjbfhiaaGreatM04
import Derived.ChangeArms
import Derived.Deep.Slices
import Derived.Test.YtblnlfcfjbfhiaaGreatXTop
import Derived.SizedLaws

namespace Go.Proofs.YtblnlfcfjbfhiaaGreat
open Go.RowKit
set_option linter.unusedVariables false
set_option linter.unusedSimpArgs false

theorem Tryz.cellsSe : Tryz.prog.cellsOf 52 = 2 := by kernel_rfl
theorem Tryz.cellsIn : Tryz.prog.cellsOf 3 = 1 := by kernel_rfl
theorem int_wf {a : Int} (h : (Lit.int .i64 a).wf = true) : -9223372036854775808 ≤ a ∧ a ≤ 9223372036854775807 := by
  simpa [Lit.wf, IntKind.min, IntKind.max, IntKind.signed, IntKind.bits] using h
theorem addr_plus (b off i : Nat) : (⟨b, off, none⟩ : Addr).add i = ⟨b, off + i, none⟩ := by unfold Addr.add; split <;> simp_all
theorem two_of {α : Type} {l : List α} (h : l.length = 2) : ∃ a b, l = [a, b] := by
  match l, h with
  | [a, b], _ => exact ⟨a, b, rfl⟩

/-- What a seat's numbers are in. -/
def InI (y : Int × Int) : Prop := (-9223372036854775808 ≤ y.1 ∧ y.1 ≤ 9223372036854775807) ∧ -9223372036854775808 ≤ y.2 ∧ y.2 ≤ 9223372036854775807
theorem open_seat {H : Type} {enc : TypeId × Value → H} {W : World} {sp : Nat → Bool} {fuel : Nat} {cs : List Value} {x : DataW H × List MemPlace} (h : DataW.trod enc Tryz.prog W 0 sp true fuel 52 cs = some x) :
    ∃ y : Int × Int, cs = [.int .i64 y.1, .int .i64 y.2] ∧ InI y := by
  obtain ⟨ys, m, _, _, hc, hlen, hfs⟩ := DataW.trod_struct Tryz.underlying52 h
  rw [Tryz.cellsSe] at hc
  obtain ⟨z0, z1, rfl⟩ := two_of hc
  obtain ⟨y0, y1, rfl⟩ := two_of (l := ys) (by simpa using hlen)
  have g0 := hfs 0 _ rfl
  simp [Tryz.cellsIn] at g0
  have g1 := hfs 1 _ rfl
  simp [Tryz.cellsIn] at g1
  obtain ⟨n0, e0, _, w0⟩ := DataW.trod_int Tryz.underlying3 g0
  obtain ⟨n1, e1, _, w1⟩ := DataW.trod_int Tryz.underlying3 g1
  simp only [List.cons.injEq, and_true] at e0 e1
  subst e0 e1
  exact ⟨(n0, n1), rfl, int_wf w0, int_wf w1⟩

theorem open_seats {H : Type} {enc : TypeId × Value → H} {W : World} {sp : Nat → Bool} {fuel : Nat} {cs : List Value} {x : DataW H × List MemPlace} (h : DataW.trod enc Tryz.prog W 0 sp true fuel 24 cs = some x) :
    ∃ (la : Option Addr) (l : List (Int × Int)) (cap : Nat), cs = [.slice la l.length cap] ∧ l.length ≤ maxLen ∧ (∀ y ∈ l, InI y) ∧ SeatsAt W la l := by
  rcases Deep.open_slice Tryz.underlying24 h with ⟨rfl, rfl⟩ | ⟨a, len, cap, m, n, D, Pl, rfl, hb, hl, hm, hmm, rfl, hx⟩
  · exact ⟨none, [], 0, rfl, Nat.zero_le _, by simp, .inl rfl⟩
  · have hlm : len ≤ m := by rw [hmm]; split <;> omega
    have each : ∀ i, i < len → ∃ y : Int × Int, (W.cell? ((a.add (i * 2)).add 0) = some (.int .i64 y.1) ∧ W.cell? ((a.add (i * 2)).add 1) = some (.int .i64 y.2)) ∧ InI y := by
      intro i hi
      obtain ⟨cs', h2, h3⟩ := hx i (by omega)
      rw [Tryz.cellsSe] at h2
      obtain ⟨_, hlen, hcell⟩ := World.cells?_some h2
      obtain ⟨y, e1, g⟩ := open_seat h3
      exact ⟨y, ⟨by rw [hcell 0 (by omega), e1]; rfl, by rw [hcell 1 (by omega), e1]; rfl⟩, g⟩
    obtain ⟨q, hq⟩ := Deep.choose_lt each
    refine ⟨some a, (List.range len).map q, cap, by simp, by simp; omega, fun y hy => ?_, ?_⟩
    · obtain ⟨i, hi, rfl⟩ := List.mem_map.1 hy
      exact (hq i (by simpa using hi)).2
    · by_cases h0 : len = 0
      · left; simp [h0]
      · right
        obtain ⟨b, off, spot⟩ := a
        have hy := (hq 0 (by omega)).1.1
        have hspot : spot = none := by simpa [Addr.add] using World.cell?_spot hy
        subst hspot
        have hlt := World.block_lt_of_cell? W _ hy
        have hlt' : b < W.heap.size := by simpa [Addr.add] using hlt
        refine ⟨b, off, rfl, hlt', fun i y hy => ?_⟩
        have hi : i < len := by
          have := (List.getElem?_eq_some_iff.1 hy).1
          simpa using this
        have hyq : y = q i := by
          rw [List.getElem?_map, List.getElem?_range hi] at hy
          simpa using hy.symm
        subst hyq
        obtain ⟨⟨h2, h3⟩, _⟩ := hq i hi
        rw [addr_plus, addr_plus] at h2 h3
        exact ⟨h2, h3⟩

theorem open_ints {H : Type} {enc : TypeId × Value → H} {W : World} {sp : Nat → Bool} {fuel : Nat} {cs : List Value} {x : DataW H × List MemPlace} (h : DataW.trod enc Tryz.prog W 0 sp true fuel 30 cs = some x) :
    ∃ (la : Option Addr) (l : List Int) (cap : Nat), cs = [.slice la l.length cap] ∧ l.length ≤ maxLen ∧ (∀ y ∈ l, -9223372036854775808 ≤ y ∧ y ≤ 9223372036854775807) ∧ IntsAt W la l := by
  rcases Deep.open_slice1 Tryz.underlying30 Tryz.cellsIn h with ⟨rfl, rfl⟩ | ⟨a, len, cap, m, n, V, D, Pl, rfl, hb, hl, hm, hmm, rfl, hx⟩
  · exact ⟨none, [], 0, rfl, Nat.zero_le _, by simp, .inl rfl⟩
  · have hlm : len ≤ m := by rw [hmm]; split <;> omega
    have each : ∀ i, i < len → ∃ y : Int, W.cell? (a.add i) = some (.int .i64 y) ∧ -9223372036854775808 ≤ y ∧ y ≤ 9223372036854775807 := by
      intro i hi
      obtain ⟨h2, h3⟩ := hx i (by omega)
      obtain ⟨n0, e0, _, w0⟩ := DataW.trod_int Tryz.underlying3 h3
      simp only [List.cons.injEq, and_true] at e0
      rw [e0] at h2
      exact ⟨n0, h2, int_wf w0⟩
    obtain ⟨q, hq⟩ := Deep.choose_lt each
    refine ⟨some a, (List.range len).map q, cap, by simp, by simp; omega, fun y hy => ?_, ?_⟩
    · obtain ⟨i, hi, rfl⟩ := List.mem_map.1 hy
      exact (hq i (by simpa using hi)).2
    · by_cases h0 : len = 0
      · left; simp [h0]
      · right
        obtain ⟨b, off, spot⟩ := a
        have hy := (hq 0 (by omega)).1
        have hspot : spot = none := by simpa [Addr.add] using World.cell?_spot hy
        subst hspot
        have hlt := World.block_lt_of_cell? W _ hy
        have hlt' : b < W.heap.size := by simpa [Addr.add] using hlt
        refine ⟨b, off, rfl, hlt', fun i y hy => ?_⟩
        have hi : i < len := by
          have := (List.getElem?_eq_some_iff.1 hy).1
          simpa using this
        have hyq : y = q i := by
          rw [List.getElem?_map, List.getElem?_range hi] at hy
          simpa using hy.symm
        subst hyq
        have h2 := (hq i hi).1
        rw [addr_plus] at h2
        exact h2
end Go.Proofs.YtblnlfcfjbfhiaaGreat

namespace Go.Proofs.YtblnlfcfjbfhiaaGreat
open Go.RowKit
set_option linter.unusedVariables false
set_option linter.unusedSimpArgs false

theorem Tryz.cellsDi : Tryz.prog.cellsOf 23 = 1 := by kernel_rfl

theorem Tryz.cellsBo : Tryz.prog.cellsOf 4 = 1 := by kernel_rfl

theorem Tryz.cellsIs : Tryz.prog.cellsOf 30 = 1 := by kernel_rfl



theorem Tryz.cellsCe : Tryz.prog.cellsOf 32 = 6 := by kernel_rfl



theorem dig_wf {a : Int} (h : (Lit.int .u64 a).wf = true) : 0 ≤ a ∧ a ≤ 18446744073709551615 := by
  simpa [Lit.wf, IntKind.min, IntKind.max, IntKind.signed, IntKind.bits] using h

theorem six_of {α : Type} {l : List α} (h : l.length = 6) : ∃ a b c d e f, l = [a, b, c, d, e, f] := by
  match l, h with
  | [a, b, c, d, e, f], _ => exact ⟨a, b, c, d, e, f, rfl⟩

theorem twelve_of {α : Type} {l : List α} (h : l.length = 12) : ∃ a b c d e f a2 b2 c2 d2 e2 f2, l = [a, b, c, d, e, f, a2, b2, c2, d2, e2, f2] := by
  match l, h with
  | [a, b, c, d, e, f, a2, b2, c2, d2, e2, f2], _ => exact ⟨a, b, c, d, e, f, a2, b2, c2, d2, e2, f2, rfl⟩

/-- It is an int. -/
def InN (y : Int) : Prop := -9223372036854775808 ≤ y ∧ y ≤ 9223372036854775807

/-- It is a digest. -/
def InD (y : Int) : Prop := 0 ≤ y ∧ y ≤ 18446744073709551615





theorem open_ints2 {H : Type} {enc : TypeId × Value → H} {W : World} {sp : Nat → Bool} {fuel : Nat} {cs : List Value} {x : DataW H × List MemPlace} (h : DataW.trod enc Tryz.prog W 0 sp true fuel 30 cs = some x) :
    ∃ (la : Option Addr) (l : List Int) (cap : Nat), cs = [.slice la l.length cap] ∧ l.length ≤ cap ∧ cap ≤ maxLen ∧ (∀ y ∈ l, InN y) ∧ IntsAt W la l := by
  obtain ⟨la, l, cap, e, h1, h2, h3⟩ := open_ints h
  refine ⟨la, l, cap, e, ?_, ?_, h2, h3⟩
  all_goals
    rcases Deep.open_slice1 Tryz.underlying30 Tryz.cellsIn h with ⟨e2, _⟩ | ⟨a, len, cap', m, n, V, D, Pl, e2, hb, hl, hm, _⟩
    · rw [e] at e2
      simp only [List.cons.injEq, Value.slice.injEq, and_true] at e2
      obtain ⟨_, e3, e4⟩ := e2
      simp only [e4]
      omega
    · rw [e] at e2
      simp only [List.cons.injEq, Value.slice.injEq, and_true] at e2
      obtain ⟨_, e3, e4⟩ := e2
      omega

/-- A cert as the wire's texts have it. -/
def certX (ch cr cs : Int) (has : Bool) (bl : Int) (la : Option Addr) (cap : Nat) (l : List Int) : W.Cert := ⟨ch, cr, cs, has, bl, ⟨la, cap, l⟩⟩

theorem cert_goods {ch cr cs : Int} {has : Bool} {bl : Int} {la : Option Addr} {cap : Nat} {l : List Int} {w : World} (h0 : InN ch) (h1 : InN cr) (h2 : InN cs) (h3 : InD bl) (h4 : l.length ≤ cap) (h5 : cap ≤ maxLen) (h6 : ∀ y ∈ l, InN y) (h7 : IntsAt w la l) :
    W.goods w.heap.size w (certX ch cr cs has bl la cap l).flds := by
  have hl : (W.Lst.fld W.intF (⟨la, cap, l⟩ : W.Lst Int)).good w.heap.size w := by
    refine W.Lst.good (sz := 1) (fun _ => rfl) ⟨h4, h5, ?_⟩
    rcases h7 with h7 | ⟨b, off, e, hb, hc⟩
    · exact .inl h7
    · refine .inr ⟨b, off, e, hb, hb, fun i x hx => ?_⟩
      have hx6 := h6 x (List.mem_of_getElem? hx)
      rw [Nat.mul_one]
      exact ⟨hc i x hx, hx6, trivial⟩
  intro f hf
  simp only [certX, W.Cert.flds, List.mem_cons, List.not_mem_nil, or_false] at hf
  rcases hf with rfl | rfl | rfl | rfl | rfl | rfl
  · exact h0
  · exact h1
  · exact h2
  · trivial
  · exact h3
  · exact hl

theorem each_wt : ∀ l : List Int, W.wtL (W.eachL W.intA l) = 6 * l.length
  | [] => by simp [W.eachL, W.wtL]
  | x :: r => by
    have := each_wt r
    simp only [W.eachL, W.wtL_append, W.intA, W.wtL, W.Atom.wt, List.length_cons] at this ⊢
    omega

theorem cert_wt (ch cr cs : Int) (has : Bool) (bl : Int) (la : Option Addr) (cap : Nat) (l : List Int) (h : l.length ≤ 4096) : W.wtL (certX ch cr cs has bl la cap l).atoms ≤ 1099400000000 := by
  have h1 := each_wt l
  have h2 : (W.flagB has).length ≤ 100 := by cases has <;> simp [W.flagB]
  simp only [certX, W.Cert.atoms, W.wtL_append, W.nums, List.map_cons, List.map_nil, W.wtL, W.Atom.wt, W.flagL, W.digL, W.listL, h1, be_len]
  omega

theorem open_cert {H : Type} {enc : TypeId × Value → H} {W : World} {sp : Nat → Bool} {fuel : Nat} {cs : List Value} {x : DataW H × List MemPlace} (h : DataW.trod enc Tryz.prog W 0 sp true fuel 32 cs = some x) :
    ∃ (vh vr vs : Int) (has : Bool) (bl : Int) (la : Option Addr) (l : List Int) (cap : Nat), cs = [.int .i64 vh, .int .i64 vr, .int .i64 vs, .bool has, .int .u64 bl, .slice la l.length cap] ∧ InN vh ∧ InN vr ∧ InN vs ∧ InD bl ∧ l.length ≤ cap ∧ cap ≤ maxLen ∧ (∀ y ∈ l, InN y) ∧ IntsAt W la l := by
  obtain ⟨ys, m, _, _, hc, hlen, hfs⟩ := DataW.trod_struct Tryz.underlying32 h
  rw [Tryz.cellsCe] at hc
  obtain ⟨z0, z1, z2, z3, z4, z5, rfl⟩ := six_of hc
  obtain ⟨y0, y1, y2, y3, y4, y5, rfl⟩ := six_of (l := ys) (by simpa using hlen)
  have g0 := hfs 0 _ rfl
  simp [Tryz.cellsIn] at g0
  have g1 := hfs 1 _ rfl
  simp [Tryz.cellsIn] at g1
  have g2 := hfs 2 _ rfl
  simp [Tryz.cellsIn] at g2
  have g3 := hfs 3 _ rfl
  simp [Tryz.cellsBo] at g3
  have g4 := hfs 4 _ rfl
  simp [Tryz.cellsDi] at g4
  have g5 := hfs 5 _ rfl
  simp [Tryz.cellsIs] at g5
  obtain ⟨n0, e0, _, w0⟩ := DataW.trod_int Tryz.underlying3 g0
  obtain ⟨n1, e1, _, w1⟩ := DataW.trod_int Tryz.underlying3 g1
  obtain ⟨n2, e2, _, w2⟩ := DataW.trod_int Tryz.underlying3 g2
  obtain ⟨n3, e3, _⟩ := DataW.trod_bool Tryz.underlying4 g3
  obtain ⟨n4, e4, _, w4⟩ := DataW.trod_int Tryz.underlying23 g4
  obtain ⟨la, l, cap, e5, h5⟩ := open_ints2 g5
  simp only [List.cons.injEq, and_true] at e0 e1 e2 e3 e4 e5
  subst e0 e1 e2 e3 e4 e5
  exact ⟨n0, n1, n2, n3, n4, la, l, cap, rfl, int_wf w0, int_wf w1, int_wf w2, dig_wf w4, h5⟩
end Go.Proofs.YtblnlfcfjbfhiaaGreat
