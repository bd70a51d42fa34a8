/- Items of all keys. -/
import Derived.RangeFuncNested
import Derived.RangeFuncWrites
import Derived.RangeFuncBox
import Derived.Maps.AppendAt
import Derived.Test.YtncaimopkcnmbaaTEach
import Derived.Test.YtncaimopkcnmbaaTLeav
import Derived.Test.YtncaimopkcnmbaaTHas
import Derived.Test.YtncaimopkcnmbaaTRPut
namespace Go.Proofs.Ytncaimopkcnmbaa
open Go.RowKit Go.Shelf
attribute [local go_sem] Oper.semAt_some
set_option linter.unusedVariables false
set_option linter.unusedSimpArgs false

theorem RoundIn.anyD {m m' : Nat} {P : Program} {l : Nat} {f : FuncId} {tmps : Array Value} {assign body : Code} {w : World} {R : Ending → World → Prop}
    (h : RoundIn Fence.wide m P l f tmps assign body w R) : RoundIn Fence.wide m' P l f tmps assign body w R := ⟨h.1, fun c cs _ => h.2 c cs (room_wide _)⟩
theorem YieldAt.anyD {m : Nat} (m' : Nat) {P : Program} {l : Nat} {args : Array Value} {W : World} {R : Ending → World → Prop} (h : YieldAt Fence.wide m P l args W R) : YieldAt Fence.wide m' P l args W R := by
  obtain ⟨fn, tmps, assign, body, hy, hR⟩ := h
  exact ⟨fn, tmps, assign, body, hy, RoundIn.anyD hR⟩

theorem leaves_stops (wd : Int) (w0 : World) (t : Tr) (n b Bn : Nat) (xs : List (Lf wd w0)) (hx : LeavesOf wd w0 b t xs) (w : World) (hB : Bn < w.heap.size) (h0 : Below w0.heap.size w0 w) (hc : w.cell? ⟨Bn, 0, none⟩ = some (.pointer (some ⟨b, 0, none⟩))) :
    SeqStopsK Fence.wide n Try.prog 43 #[.pointer (some ⟨Bn, 0, none⟩)] (fun x : Lf wd w0 => #[Value.pointer (some ⟨x.1.1, 0, none⟩)]) (Below w0.heap.size) (fun ys => ys = xs) (fun pre => pre <+: xs) xs.length w := fun l J Jx W hW _ _ hY hJ =>
  leaves1_in wd w0 l J Jx t n b Bn xs hx (fun m pre x W' hj hl => YieldAt.anyD m (hY pre x W' hj hl)) W (h0.trans (hW.mono h0.size)) ((hW.cell (p := ⟨Bn, 0, none⟩) hB).trans hc) hJ
end Go.Proofs.Ytncaimopkcnmbaa
