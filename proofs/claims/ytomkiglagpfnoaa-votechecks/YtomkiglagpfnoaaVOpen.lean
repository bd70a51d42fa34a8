/- Votes and certs that come in: what their reading says of memory. -/
import Derived.Test.YtomkiglagpfnoaaBOpen
import Derived.Test.YtomkiglagpfnoaaXTop
import Derived.SizedLaws
namespace Go.Proofs.Ytomkiglagpfnoaa
open Go.RowKit
set_option linter.unusedVariables false
set_option linter.unusedSimpArgs false

theorem Try.cellsDi : Try.prog.cellsOf 24 = 1 := by kernel_rfl
theorem Try.cellsBo : Try.prog.cellsOf 4 = 1 := by kernel_rfl
theorem Try.cellsIs : Try.prog.cellsOf 25 = 1 := by kernel_rfl
theorem Try.cellsVo : Try.prog.cellsOf 29 = 6 := by kernel_rfl
theorem Try.cellsCe : Try.prog.cellsOf 27 = 6 := by kernel_rfl
theorem Try.cellsGu : Try.prog.cellsOf 31 = 12 := by kernel_rfl
theorem dig_wf {a : Int} (h : (Lit.int .u64 a).wf = true) : 0 ≤ a ∧ a ≤ 18446744073709551615 := by
  simpa [Lit.wf, IntKind.min, IntKind.max, IntKind.signed, IntKind.bits] using h
theorem six_of {α : Type} {l : List α} (h : l.length = 6) : ∃ a b c d e f, l = [a, b, c, d, e, f] := by
  match l, h with
  | [a, b, c, d, e, f], _ => exact ⟨a, b, c, d, e, f, rfl⟩
theorem twelve_of {α : Type} {l : List α} (h : l.length = 12) : ∃ a b c d e f a2 b2 c2 d2 e2 f2, l = [a, b, c, d, e, f, a2, b2, c2, d2, e2, f2] := by
  match l, h with
  | [a, b, c, d, e, f, a2, b2, c2, d2, e2, f2], _ => exact ⟨a, b, c, d, e, f, a2, b2, c2, d2, e2, f2, rfl⟩
/-- It is an int. -/
def InN (y : Int) : Prop := -9223372036854775808 ≤ y ∧ y ≤ 9223372036854775807
/-- It is a digest. -/
def InD (y : Int) : Prop := 0 ≤ y ∧ y ≤ 18446744073709551615

theorem open_vote {H : Type} {enc : TypeId × Value → H} {W : World} {sp : Nat → Bool} {fuel : Nat} {cs : List Value} {x : DataW H × List MemPlace} (h : DataW.trod enc Try.prog W 0 sp true fuel 29 cs = some x) :
    ∃ (vh vr vs : Int) (has : Bool) (bl f : Int), cs = [.int .i64 vh, .int .i64 vr, .int .i64 vs, .bool has, .int .u64 bl, .int .i64 f] ∧ InN vh ∧ InN vr ∧ InN vs ∧ InD bl ∧ InN f := by
  obtain ⟨ys, m, _, _, hc, hlen, hfs⟩ := DataW.trod_struct Try.underlying29 h
  rw [Try.cellsVo] at hc
  obtain ⟨z0, z1, z2, z3, z4, z5, rfl⟩ := six_of hc
  obtain ⟨y0, y1, y2, y3, y4, y5, rfl⟩ := six_of (l := ys) (by simpa using hlen)
  have g0 := hfs 0 _ rfl
  simp [Try.cellsIn] at g0
  have g1 := hfs 1 _ rfl
  simp [Try.cellsIn] at g1
  have g2 := hfs 2 _ rfl
  simp [Try.cellsIn] at g2
  have g3 := hfs 3 _ rfl
  simp [Try.cellsBo] at g3
  have g4 := hfs 4 _ rfl
  simp [Try.cellsDi] at g4
  have g5 := hfs 5 _ rfl
  simp [Try.cellsIn] at g5
  obtain ⟨n0, e0, _, w0⟩ := DataW.trod_int Try.underlying3 g0
  obtain ⟨n1, e1, _, w1⟩ := DataW.trod_int Try.underlying3 g1
  obtain ⟨n2, e2, _, w2⟩ := DataW.trod_int Try.underlying3 g2
  obtain ⟨n3, e3, _⟩ := DataW.trod_bool Try.underlying4 g3
  obtain ⟨n4, e4, _, w4⟩ := DataW.trod_int Try.underlying24 g4
  obtain ⟨n5, e5, _, w5⟩ := DataW.trod_int Try.underlying3 g5
  simp only [List.cons.injEq, and_true] at e0 e1 e2 e3 e4 e5
  subst e0 e1 e2 e3 e4 e5
  exact ⟨n0, n1, n2, n3, n4, n5, rfl, int_wf w0, int_wf w1, int_wf w2, dig_wf w4, int_wf w5⟩

theorem open_guilt {H : Type} {enc : TypeId × Value → H} {W : World} {sp : Nat → Bool} {fuel : Nat} {cs : List Value} {x : DataW H × List MemPlace} (h : DataW.trod enc Try.prog W 0 sp true fuel 31 cs = some x) :
    ∃ (vh vr vs : Int) (has : Bool) (bl f vh2 vr2 vs2 : Int) (has2 : Bool) (bl2 f2 : Int), cs = [.int .i64 vh, .int .i64 vr, .int .i64 vs, .bool has, .int .u64 bl, .int .i64 f, .int .i64 vh2, .int .i64 vr2, .int .i64 vs2, .bool has2, .int .u64 bl2, .int .i64 f2] ∧ (InN vh ∧ InN vr ∧ InN vs ∧ InD bl ∧ InN f) ∧ InN vh2 ∧ InN vr2 ∧ InN vs2 ∧ InD bl2 ∧ InN f2 := by
  obtain ⟨ys, m, _, _, hc, hlen, hfs⟩ := DataW.trod_struct Try.underlying31 h
  rw [Try.cellsGu] at hc
  obtain ⟨z0, z1, z2, z3, z4, z5, z6, z7, z8, z9, z10, z11, rfl⟩ := twelve_of hc
  obtain ⟨y0, y1, rfl⟩ := two_of (l := ys) (by simpa using hlen)
  have g0 := hfs 0 _ rfl
  simp [Try.cellsVo] at g0
  have g1 := hfs 1 _ rfl
  simp [Try.cellsVo] at g1
  obtain ⟨vh, vr, vs, has, bl, f, e0, b0⟩ := open_vote g0
  obtain ⟨vh2, vr2, vs2, has2, bl2, f2, e1, b1⟩ := open_vote g1
  simp only [List.cons.injEq, and_true] at e0 e1
  obtain ⟨rfl, rfl, rfl, rfl, rfl, rfl⟩ := e0
  obtain ⟨rfl, rfl, rfl, rfl, rfl, rfl⟩ := e1
  exact ⟨_, _, _, _, _, _, _, _, _, _, _, _, rfl, b0, b1⟩

theorem open_ints2 {H : Type} {enc : TypeId × Value → H} {W : World} {sp : Nat → Bool} {fuel : Nat} {cs : List Value} {x : DataW H × List MemPlace} (h : DataW.trod enc Try.prog W 0 sp true fuel 25 cs = some x) :
    ∃ (la : Option Addr) (l : List Int) (cap : Nat), cs = [.slice la l.length cap] ∧ l.length ≤ cap ∧ cap ≤ maxLen ∧ (∀ y ∈ l, InN y) ∧ IntsAt W la l := by
  obtain ⟨la, l, cap, e, h1, h2, h3⟩ := open_ints h
  refine ⟨la, l, cap, e, ?_, ?_, h2, h3⟩
  all_goals
    rcases Deep.open_slice1 Try.underlying25 Try.cellsIn h with ⟨e2, _⟩ | ⟨a, len, cap', m, n, V, D, Pl, e2, hb, hl, hm, _⟩
    · rw [e] at e2
      simp only [List.cons.injEq, Value.slice.injEq, and_true] at e2
      obtain ⟨_, e3, e4⟩ := e2
      simp only [e4]
      omega
    · rw [e] at e2
      simp only [List.cons.injEq, Value.slice.injEq, and_true] at e2
      obtain ⟨_, e3, e4⟩ := e2
      omega

/-- A cert as the wire's texts have it. -/
def certX (ch cr cs : Int) (has : Bool) (bl : Int) (la : Option Addr) (cap : Nat) (l : List Int) : W.Cert := ⟨ch, cr, cs, has, bl, ⟨la, cap, l⟩⟩
theorem cert_goods {ch cr cs : Int} {has : Bool} {bl : Int} {la : Option Addr} {cap : Nat} {l : List Int} {w : World} (h0 : InN ch) (h1 : InN cr) (h2 : InN cs) (h3 : InD bl) (h4 : l.length ≤ cap) (h5 : cap ≤ maxLen) (h6 : ∀ y ∈ l, InN y) (h7 : IntsAt w la l) :
    W.goods w.heap.size w (certX ch cr cs has bl la cap l).flds := by
  have hl : (W.Lst.fld W.intF (⟨la, cap, l⟩ : W.Lst Int)).good w.heap.size w := by
    refine W.Lst.good (sz := 1) (fun _ => rfl) ⟨h4, h5, ?_⟩
    rcases h7 with h7 | ⟨b, off, e, hb, hc⟩
    · exact .inl h7
    · refine .inr ⟨b, off, e, hb, hb, fun i x hx => ?_⟩
      have hx6 := h6 x (List.mem_of_getElem? hx)
      rw [Nat.mul_one]
      exact ⟨hc i x hx, hx6, trivial⟩
  intro f hf
  simp only [certX, W.Cert.flds, List.mem_cons, List.not_mem_nil, or_false] at hf
  rcases hf with rfl | rfl | rfl | rfl | rfl | rfl
  · exact h0
  · exact h1
  · exact h2
  · trivial
  · exact h3
  · exact hl
theorem each_wt : ∀ l : List Int, W.wtL (W.eachL W.intA l) = 6 * l.length
  | [] => by simp [W.eachL, W.wtL]
  | x :: r => by
    have := each_wt r
    simp only [W.eachL, W.wtL_append, W.intA, W.wtL, W.Atom.wt, List.length_cons] at this ⊢
    omega
theorem cert_wt (ch cr cs : Int) (has : Bool) (bl : Int) (la : Option Addr) (cap : Nat) (l : List Int) (h : l.length ≤ 4096) : W.wtL (certX ch cr cs has bl la cap l).atoms ≤ 1099400000000 := by
  have h1 := each_wt l
  have h2 : (W.flagB has).length ≤ 100 := by cases has <;> simp [W.flagB]
  simp only [certX, W.Cert.atoms, W.wtL_append, W.nums, List.map_cons, List.map_nil, W.wtL, W.Atom.wt, W.flagL, W.digL, W.listL, h1, be_len]
  omega

theorem open_cert {H : Type} {enc : TypeId × Value → H} {W : World} {sp : Nat → Bool} {fuel : Nat} {cs : List Value} {x : DataW H × List MemPlace} (h : DataW.trod enc Try.prog W 0 sp true fuel 27 cs = some x) :
    ∃ (vh vr vs : Int) (has : Bool) (bl : Int) (la : Option Addr) (l : List Int) (cap : Nat), cs = [.int .i64 vh, .int .i64 vr, .int .i64 vs, .bool has, .int .u64 bl, .slice la l.length cap] ∧ InN vh ∧ InN vr ∧ InN vs ∧ InD bl ∧ l.length ≤ cap ∧ cap ≤ maxLen ∧ (∀ y ∈ l, InN y) ∧ IntsAt W la l := by
  obtain ⟨ys, m, _, _, hc, hlen, hfs⟩ := DataW.trod_struct Try.underlying27 h
  rw [Try.cellsCe] at hc
  obtain ⟨z0, z1, z2, z3, z4, z5, rfl⟩ := six_of hc
  obtain ⟨y0, y1, y2, y3, y4, y5, rfl⟩ := six_of (l := ys) (by simpa using hlen)
  have g0 := hfs 0 _ rfl
  simp [Try.cellsIn] at g0
  have g1 := hfs 1 _ rfl
  simp [Try.cellsIn] at g1
  have g2 := hfs 2 _ rfl
  simp [Try.cellsIn] at g2
  have g3 := hfs 3 _ rfl
  simp [Try.cellsBo] at g3
  have g4 := hfs 4 _ rfl
  simp [Try.cellsDi] at g4
  have g5 := hfs 5 _ rfl
  simp [Try.cellsIs] at g5
  obtain ⟨n0, e0, _, w0⟩ := DataW.trod_int Try.underlying3 g0
  obtain ⟨n1, e1, _, w1⟩ := DataW.trod_int Try.underlying3 g1
  obtain ⟨n2, e2, _, w2⟩ := DataW.trod_int Try.underlying3 g2
  obtain ⟨n3, e3, _⟩ := DataW.trod_bool Try.underlying4 g3
  obtain ⟨n4, e4, _, w4⟩ := DataW.trod_int Try.underlying24 g4
  obtain ⟨la, l, cap, e5, h5⟩ := open_ints2 g5
  simp only [List.cons.injEq, and_true] at e0 e1 e2 e3 e4 e5
  subst e0 e1 e2 e3 e4 e5
  exact ⟨n0, n1, n2, n3, n4, la, l, cap, rfl, int_wf w0, int_wf w1, int_wf w2, dig_wf w4, h5⟩
end Go.Proofs.Ytomkiglagpfnoaa
