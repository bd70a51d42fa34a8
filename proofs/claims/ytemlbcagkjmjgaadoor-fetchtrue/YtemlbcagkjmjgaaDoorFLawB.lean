/- FetchTrue: a node that At tells, in its variable. -/
import Derived.Test.YtemlbcagkjmjgaaDoorFLawA
import Derived.Test.YtemlbcagkjmjgaaDoorTGrow2
namespace Go.Proofs.YtemlbcagkjmjgaaDoor
open Go.RowKit Go.Maps
set_option linter.unusedVariables false
set_option linter.unusedSimpArgs false

/-- A node lies in a variable. -/
abbrev NdAt (w : World) (b : Nat) (y : Nd) : Prop := Blk w b #[.int .i64 y.k, .string (str y.key), .string (str y.val), .int .i64 y.pos, .int .u64 y.l, .int .u64 y.r] 28
/-- What is told is in its variable. -/
def ToldAt (wB : World) (y : Nd) (nv ev : Value) (wx : World) : Prop := ∃ nb, nv = .pointer (some ⟨nb, 0, none⟩) ∧ ev = .int .i64 0 ∧ wB.heap.size ≤ nb ∧ NdAt wx nb y ∧ Below wB.heap.size wB wx
abbrev zeroN : Obj := .cells #[.int .i64 0, .string ⟨#[]⟩, .string ⟨#[]⟩, .int .i64 0, .int .u64 0, .int .u64 0] 28
theorem six_blk {w : World} {b : Nat} {a0 a1 a2 a3 a4 a5 : Value} {t : TypeId} (k : Blk w b #[a0, a1, a2, a3, a4, a5] t) (v0 v1 v2 v3 v4 v5 : Value) : Blk ((((((w.setCell ⟨b, 0, none⟩ v0).setCell ⟨b, 1, none⟩ v1).setCell ⟨b, 2, none⟩ v2).setCell ⟨b, 3, none⟩ v3).setCell ⟨b, 4, none⟩ v4).setCell ⟨b, 5, none⟩ v5) b #[v0, v1, v2, v3, v4, v5] t :=
  ((((((k.set 0 v0).set 1 v1).set 2 v2).set 3 v3).set 4 v4).set 5 v5)
theorem six_bel {B b : Nat} {w0 w : World} (h : Below B w0 w) (hb : B ≤ b) (v0 v1 v2 v3 v4 v5 : Value) : Below B w0 ((((((w.setCell ⟨b, 0, none⟩ v0).setCell ⟨b, 1, none⟩ v1).setCell ⟨b, 2, none⟩ v2).setCell ⟨b, 3, none⟩ v3).setCell ⟨b, 4, none⟩ v4).setCell ⟨b, 5, none⟩ v5) :=
  (((((h.setCell hb _).setCell hb _).setCell hb _).setCell hb _).setCell hb _).setCell hb _
theorem told_late {wB w3 : World} {y : Nd} (hb : Below wB.heap.size wB w3) : ToldAt wB y (.pointer (some ⟨w3.heap.size, 0, none⟩)) (.int .i64 0) (w3.alloc (.cells #[.int .i64 y.k, .string (str y.key), .string (str y.val), .int .i64 y.pos, .int .u64 y.l, .int .u64 y.r] 28)) :=
  ⟨_, rfl, rfl, hb.size, Blk.new w3 _ _, hb.alloc hb.size _⟩
theorem told_early {wB w3 : World} {y : Nd} {nb : Nat} (hn : wB.heap.size ≤ nb) {a0 a1 a2 a3 a4 a5 : Value} (k : Blk w3 nb #[a0, a1, a2, a3, a4, a5] 28) (hb : Below wB.heap.size wB w3) :
    ToldAt wB y (.pointer (some ⟨nb, 0, none⟩)) (.int .i64 0) ((((((w3.setCell ⟨nb, 0, none⟩ (.int .i64 y.k)).setCell ⟨nb, 1, none⟩ (.string (str y.key))).setCell ⟨nb, 2, none⟩ (.string (str y.val))).setCell ⟨nb, 3, none⟩ (.int .i64 y.pos)).setCell ⟨nb, 4, none⟩ (.int .u64 y.l)).setCell ⟨nb, 5, none⟩ (.int .u64 y.r)) :=
  ⟨nb, rfl, rfl, hn, six_blk k _ _ _ _ _ _, six_bel hb hn _ _ _ _ _ _⟩
/-- What was made ahead of the call lies there still. -/
theorem own6 {w w' : World} (hb : Below (w.alloc zeroN).drew.heap.size (w.alloc zeroN).drew w') : Blk w' w.heap.size #[.int .i64 0, .string ⟨#[]⟩, .string ⟨#[]⟩, .int .i64 0, .int .u64 0, .int .u64 0] 28 ∧
    (w'.cell? ⟨w.heap.size, 0, none⟩ = some (.int .i64 0) ∧ w'.cell? ⟨w.heap.size, 1, none⟩ = some (.string ⟨#[]⟩) ∧ w'.cell? ⟨w.heap.size, 2, none⟩ = some (.string ⟨#[]⟩) ∧ w'.cell? ⟨w.heap.size, 3, none⟩ = some (.int .i64 0) ∧ w'.cell? ⟨w.heap.size, 4, none⟩ = some (.int .u64 0) ∧ w'.cell? ⟨w.heap.size, 5, none⟩ = some (.int .u64 0)) ∧
    (w'.frozen? ⟨w.heap.size, 0, none⟩ = false ∧ w'.frozen? ⟨w.heap.size, 1, none⟩ = false ∧ w'.frozen? ⟨w.heap.size, 2, none⟩ = false ∧ w'.frozen? ⟨w.heap.size, 3, none⟩ = false ∧ w'.frozen? ⟨w.heap.size, 4, none⟩ = false ∧ w'.frozen? ⟨w.heap.size, 5, none⟩ = false) ∧ w.heap.size < w'.heap.size := by
  have k : Blk w' w.heap.size #[.int .i64 0, .string ⟨#[]⟩, .string ⟨#[]⟩, .int .i64 0, .int .u64 0, .int .u64 0] 28 := own1 hb
  exact ⟨k, ⟨(k.cell 0).trans rfl, (k.cell 1).trans rfl, (k.cell 2).trans rfl, (k.cell 3).trans rfl, (k.cell 4).trans rfl, (k.cell 5).trans rfl⟩, ⟨k.frozen 0, k.frozen 1, k.frozen 2, k.frozen 3, k.frozen 4, k.frozen 5⟩, k.lt⟩
end Go.Proofs.YtemlbcagkjmjgaaDoor
