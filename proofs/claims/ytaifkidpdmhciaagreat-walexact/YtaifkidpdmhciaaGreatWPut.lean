/- Put of a thing of each kind: the walk, then whether it may be (chapter 1, W3, W5). -/
import Derived.Test.YtaifkidpdmhciaaGreatWTry
namespace Go.Proofs.YtaifkidpdmhciaaGreat
open Go.RowKit
set_option linter.unusedVariables false

def resB (o : Option (List UInt8)) (m : Bool) : List UInt8 := match o with | none => [] | some b => if m = true then b else []
def resE (o : Option (List UInt8)) (m : Bool) : Int := match o with | none => 3 | some _ => if m = true then 0 else 2

theorem conv_own {w : World} {base : Nat} {v : Value} {out : List UInt8} (h : w.ownsRow base 5 1 v out.length (bcells out)) : (convert 63 9 v).run Tryz.prog w = .ok (.string ⟨out.toArray⟩) w := by
  rcases h.2 with ⟨rfl, h0⟩ | ⟨g, cap, cur, rfl, _⟩
  · have e : out = [] := List.eq_nil_of_length_eq_zero h0
    subst e
    exact run_convert_bytes_nil (P := Tryz.prog) w 63 5 Tryz.underlying63 Tryz.underlying5 0 0 9 Tryz.underlying9
  · have hc := run_convert_bytes_arg (P := Tryz.prog) w 63 5 Tryz.underlying63 Tryz.underlying5 g 0 out.length cap (out.map fun b => (b.toNat : Int)) (by simp) (fun i hi => by
      have hx := h.cells (g := g) rfl i (Value.int .u8 (out[i].toNat : Int)) (by simp [bcells, hi])
      rw [show (⟨g, 0, none⟩ : Addr).add i = ⟨g, 0 + i, none⟩ by unfold Addr.add; split <;> simp_all] at hx
      rw [hx]
      simp [List.getD, hi]) 9 Tryz.underlying9
    have e : strOfNums (out.map fun b => (b.toNat : Int)) = ⟨out.toArray⟩ := by
      unfold strOfNums
      rw [List.map_map, List.map_congr_left (g := id) (fun b _ => by simp), List.map_id]
    rw [hc, e]
theorem PassAt.setOther {w : World} {base b k : Nat} {out : List UInt8} {cs : Array Value} {t : TypeId} (h : PassAt w base b out) (hk : Blk w k cs t) (ht : t ≠ 5) (hne : b ≠ k) (i : Nat) (v : Value) : PassAt (w.setCell ⟨k, i, none⟩ v) base b out := by
  obtain ⟨u, h1, h2, h3⟩ := h
  exact ⟨u, h1.setOther ⟨k, i, none⟩ hne v, owns_set h2 hk ht i v, h3⟩

















end Go.Proofs.YtaifkidpdmhciaaGreat
