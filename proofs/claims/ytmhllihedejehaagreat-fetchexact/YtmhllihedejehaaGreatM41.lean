/- What a way is. -/
import Derived.Test.YtmhllihedejehaaGreatZPure
import Derived.Test.YtmhllihedejehaaGreatM08

namespace Go.Proofs.YtmhllihedejehaaGreat

/-- Is it a way? -/
def isWay (s : Key) : Bool := s.all fun c => c == 48 || c == 49
end Go.Proofs.YtmhllihedejehaaGreat

namespace Go.Proofs.YtmhllihedejehaaGreat
open Go.RowKit
set_option linter.unusedVariables false
set_option linter.unusedSimpArgs false

/-- Where a way leads. -/
def goP : Key → Option Tr → Option (Option Tr)
  | [], o => some o
  | c :: r, some (.fork _ l q) => goP r (some (if c = 48 then l else q))
  | _ :: _, _ => none
/-- A node as those outside are told of it. -/
def nodeV (wd : Int) : Option Tr → Value
  | none => .agg #[.int .i64 0, .string ⟨#[]⟩, .string ⟨#[]⟩, .int .i64 0, .int .u64 0, .int .u64 0]
  | some (.leaf k v) => .agg #[.int .i64 1, .string (str k), .string (str v), .int .i64 0, .int .u64 0, .int .u64 0]
  | some (.fork p l r) => .agg #[.int .i64 2, .string ⟨#[]⟩, .string ⟨#[]⟩, .int .i64 p, .int .u64 (l.dig wd), .int .u64 (r.dig wd)]
def atP (wd : Int) (way : Key) (o : Option Tr) : Value × Int := if isWay way then (match goP way o with | none => (nodeV wd none, 30) | some s => (nodeV wd s, 0)) else (nodeV wd none, 2)
/-- What At says. -/
def AtE (w : World) (x : Value × Int) (e : Ending) (w' : World) : Prop := e = .returned (.tuple #[x.1, .int .i64 x.2]) ∧ Below w.heap.size w w'
theorem way_at (way : Key) (h : isWay way = true) (i : Nat) (hi : i < way.length) : way[i] = 48 ∨ way[i] = 49 := by
  unfold isWay at h
  rw [List.all_eq_true] at h
  have := h _ (List.getElem_mem hi)
  simpa using this
theorem node_stored {w w1 : World} {R : Nat} (hR : w.heap.size ≤ R) (hb : Below w.heap.size w w1) (a b c d e f : Value) :
    Below w.heap.size w ((((((w1.setCell ⟨R, 0, none⟩ a).setCell ⟨R, 1, none⟩ b).setCell ⟨R, 2, none⟩ c).setCell ⟨R, 3, none⟩ d).setCell ⟨R, 4, none⟩ e).setCell ⟨R, 5, none⟩ f) :=
  (((((hb.setCell hR _).setCell hR _).setCell hR _).setCell hR _).setCell hR _).setCell hR _


end Go.Proofs.YtmhllihedejehaaGreat
