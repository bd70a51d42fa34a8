/- FetchExact: steps in memory. -/
import Derived.Test.YtmhllihedejehaaGreatM39
namespace Go.Proofs.YtmhllihedejehaaGreat
open Go.RowKit Go.Maps
set_option linter.unusedVariables false
set_option linter.unusedSimpArgs false

/-- A node lies in a variable. -/
abbrev NdAt (w : World) (b : Nat) (y : Nd) : Prop := Blk w b #[.int .i64 y.k, .string (str y.key), .string (str y.val), .int .i64 y.pos, .int .u64 y.l, .int .u64 y.r] 28
theorem six_blk {w : World} {b : Nat} {a0 a1 a2 a3 a4 a5 : Value} {t : TypeId} (k : Blk w b #[a0, a1, a2, a3, a4, a5] t) (v0 v1 v2 v3 v4 v5 : Value) : Blk ((((((w.setCell ⟨b, 0, none⟩ v0).setCell ⟨b, 1, none⟩ v1).setCell ⟨b, 2, none⟩ v2).setCell ⟨b, 3, none⟩ v3).setCell ⟨b, 4, none⟩ v4).setCell ⟨b, 5, none⟩ v5) b #[v0, v1, v2, v3, v4, v5] t :=
  ((((((k.set 0 v0).set 1 v1).set 2 v2).set 3 v3).set 4 v4).set 5 v5)
theorem six_bel {B b : Nat} {w0 w : World} (h : Below B w0 w) (hb : B ≤ b) (v0 v1 v2 v3 v4 v5 : Value) : Below B w0 ((((((w.setCell ⟨b, 0, none⟩ v0).setCell ⟨b, 1, none⟩ v1).setCell ⟨b, 2, none⟩ v2).setCell ⟨b, 3, none⟩ v3).setCell ⟨b, 4, none⟩ v4).setCell ⟨b, 5, none⟩ v5) :=
  (((((h.setCell hb _).setCell hb _).setCell hb _).setCell hb _).setCell hb _).setCell hb _
/-- A step. -/
structure Fs where
  fr : Int
  a : Int
  t : Int
  n : Nd
  way : Key
def Fs.cells (x : Fs) : List Value := [.int .i64 x.fr, .int .i64 x.a, .int .i64 x.t, .int .i64 x.n.k, .string (str x.n.key), .string (str x.n.val), .int .i64 x.n.pos, .int .u64 x.n.l, .int .u64 x.n.r, .string (str x.way)]
def InF (n : Int) : Prop := -9223372036854775808 ≤ n ∧ n ≤ 9223372036854775807
structure Fs.In (x : Fs) : Prop where
  hf : InF x.fr
  ha : InF x.a
  ht : InF x.t
  hn : x.n.Ok
  hk : x.n.key.length ≤ 140737488355328
  hv : x.n.val.length ≤ 140737488355328
  hw : x.way.length ≤ 140737488355328
/-- A list of steps in memory. -/
def StepsF (w : World) (la : Option Addr) (l : List Fs) : Prop :=
  l = [] ∨ ∃ b off, la = some ⟨b, off, none⟩ ∧ b < w.heap.size ∧ ∀ i x, l[i]? = some x → ∀ j u, x.cells[j]? = some u → w.cell? ⟨b, off + i * 10 + j, none⟩ = some u
theorem StepsF.below {w w' : World} {la : Option Addr} {l : List Fs} (h : StepsF w la l) (hb : Below w.heap.size w w') : StepsF w' la l := by
  rcases h with h | ⟨b, off, e, hl, hc⟩
  · exact .inl h
  · exact .inr ⟨b, off, e, Nat.lt_of_lt_of_le hl hb.size, fun i x hx j u hu => by rw [hb.cell (p := ⟨b, off + i * 10 + j, none⟩) hl]; exact hc i x hx j u hu⟩
/-- One step's cells, in whatever world keeps them. -/
theorem StepsF.one {w : World} {la : Option Addr} {l : List Fs} (h : StepsF w la l) {i : Nat} (hi : i < l.length) : ∃ b off, la = some ⟨b, off, none⟩ ∧ b < w.heap.size ∧ ∀ w' : World, w'.heap[b]? = w.heap[b]? → ∀ (j : Nat) (u : Value), (l[i].cells)[j]? = some u → w'.cell? ⟨b, off + i * 10 + j, none⟩ = some u := by
  rcases h with h | ⟨b, off, e, hl, hc⟩
  · rw [h] at hi; simp at hi
  · refine ⟨b, off, e, hl, fun w' hw j u hu => ?_⟩
    have := hc i _ (List.getElem?_eq_getElem hi) j u hu
    rw [← this]
    exact World.cell?_of_block hw

end Go.Proofs.YtmhllihedejehaaGreat
