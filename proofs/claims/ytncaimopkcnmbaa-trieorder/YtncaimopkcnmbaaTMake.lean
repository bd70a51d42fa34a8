/- Nodes are made. -/
import Derived.Test.YtncaimopkcnmbaaTMem
import Derived.Deep.CutRange
import Derived.Deep.DeepCutAuto
import Derived.BigRegion
namespace Go.Proofs.Ytncaimopkcnmbaa
open Go.RowKit
set_option linter.unusedVariables false

set_option maxHeartbeats 1600000 in
theorem told_leaf (b : Nat) (d : Int) (k v : ByteArray) (w : World) (h : Blk w b #[.int .u64 d, .string k, .string v, .int .i64 0, .pointer none, .pointer none] 58) :
    Calls Try.prog 39 #[.pointer (some ⟨b, 0, none⟩)] w fun e w' => e = .returned (.agg #[.int .i64 1, .string k, .string v, .int .i64 0, .int .u64 0, .int .u64 0]) ∧ Below w.heap.size w w' := by
  have hlt := h.lt
  have c1 := Blk.cell h 1
  have c2 := Blk.cell h 2
  have c4 := Blk.cell h 4
  simp only [List.getElem?_toArray, List.getElem?_cons_succ, List.getElem?_cons_zero] at c1 c2 c4
  clear h
  go_enter Try.func39, Try.ntmps39
  go_wp2
  go_region
  all_goals
    go_wp2
    exact bodyPost_ret (v := .agg #[.int .i64 1, .string k, .string v, .int .i64 0, .int .u64 0, .int .u64 0]) (by simp [results, Try.results39, go_sem]) rfl ⟨rfl, ((Below.refl _ _).alloc (Nat.le_refl _) _).drew⟩

set_option maxHeartbeats 3200000 in
theorem told_fork (b bl br : Nat) (d p x y : Int) (s t : ByteArray) (w : World) (h : Blk w b #[.int .u64 d, .string s, .string t, .int .i64 p, .pointer (some ⟨bl, 0, none⟩), .pointer (some ⟨br, 0, none⟩)] 58)
    (hl : bl < w.heap.size) (hr : br < w.heap.size) (cl : w.cell? ⟨bl, 0, none⟩ = some (.int .u64 x)) (cr : w.cell? ⟨br, 0, none⟩ = some (.int .u64 y)) :
    Calls Try.prog 39 #[.pointer (some ⟨b, 0, none⟩)] w fun e w' => e = .returned (.agg #[.int .i64 2, .string ⟨#[]⟩, .string ⟨#[]⟩, .int .i64 p, .int .u64 x, .int .u64 y]) ∧ Below w.heap.size w w' := by
  have hlt := h.lt
  have c3 := Blk.cell h 3
  have c4 := Blk.cell h 4
  have c5 := Blk.cell h 5
  simp only [List.getElem?_toArray, List.getElem?_cons_succ, List.getElem?_cons_zero] at c3 c4 c5
  clear h
  go_enter Try.func39, Try.ntmps39
  go_wp2
  go_region
  all_goals
    go_wp2
    exact bodyPost_ret (v := .agg #[.int .i64 2, .string ⟨#[]⟩, .string ⟨#[]⟩, .int .i64 p, .int .u64 x, .int .u64 y]) (by simp [results, Try.results39, go_sem]) rfl ⟨rfl, ((Below.refl _ _).alloc (Nat.le_refl _) _).drew⟩
end Go.Proofs.Ytncaimopkcnmbaa
