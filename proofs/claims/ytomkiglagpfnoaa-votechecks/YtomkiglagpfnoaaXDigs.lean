/- A pass that writes: any number of digests. -/
import Derived.Test.YtomkiglagpfnoaaXText
import Derived.Test.YtomkiglagpfnoaaWWalk
namespace Go.Proofs.Ytomkiglagpfnoaa.W
open Go.RowKit
set_option linter.unusedVariables false

def PtrsD (w : World) (b lb : Nat) (ads : List Addr) (ns : List Int) : Prop :=
  ads.length = ns.length ∧ Safe w b lb ∧ ∀ i a n, ads[i]? = some a → ns[i]? = some n → w.cell? ⟨lb, i, none⟩ = some (.pointer (some a)) ∧ w.cell? a = some (.int .u64 n) ∧ Safe w b a.block ∧ (0 ≤ n ∧ n ≤ 18446744073709551615)

theorem PtrsD.kp {w w' : World} {base b lb : Nat} {ads : List Addr} {ns : List Int} (h : PtrsD w b lb ads ns) (hK : Kp base b w w') : PtrsD w' b lb ads ns := by
  refine ⟨h.1, h.2.1.kp hK, fun i a n ha hn => ?_⟩
  obtain ⟨h1, h2, h3, h4⟩ := h.2.2 i a n ha hn
  exact ⟨by rw [Safe.cell (a := ⟨lb, i, none⟩) h.2.1 hK]; exact h1, by rw [h3.cell hK]; exact h2, h3.kp hK, h4⟩

theorem ptrsD_mk {w : World} {b : Nat} (ads : List Addr) (ns : List Int) (hl : ads.length = ns.length) (hb : b < w.heap.size)
    (h : ∀ p ∈ ads.zip ns, w.cell? p.1 = some (.int .u64 p.2) ∧ Safe w b p.1.block ∧ (0 ≤ p.2 ∧ p.2 ≤ 18446744073709551615)) : PtrsD (w.alloc (.cells (ads.map fun a => Value.pointer (some a)).toArray 84)) b w.heap.size ads ns := by
  have hbl : Below w.heap.size w (w.alloc (.cells (ads.map fun a => Value.pointer (some a)).toArray 84)) := (Below.refl _ _).alloc (Nat.le_refl _) _
  have kN := Blk.new w (ads.map fun a => Value.pointer (some a)).toArray 84
  refine ⟨hl, kN.safe (by decide) (by omega), fun i a n ha hn => ?_⟩
  have hm : (a, n) ∈ ads.zip ns := List.mem_of_getElem? (i := i) (by rw [List.getElem?_zip_eq_some]; exact ⟨ha, hn⟩)
  obtain ⟨h1, h2, h3⟩ := h _ hm
  refine ⟨?_, ?_, h2.below hbl, h3⟩
  · rw [kN.cell i]; simp [ha]
  · rw [hbl.cell (p := a) h2.2.1]; exact h1

theorem digs_ok (l : List Int) : okL (digs l) = true := by
  induction l with
  | nil => rfl
  | cons n r ih => exact ih

theorem digs_take (l : List Int) (k : Nat) (n : Int) (h : l[k]? = some n) : encL (digs (l.take (k + 1))) = encL (digs (l.take k)) ++ be n 8 := by
  have e : l.take (k + 1) = l.take k ++ [n] := by rw [List.take_add_one, h]; rfl
  rw [e, show digs (l.take k ++ [n]) = digs (l.take k) ++ digs [n] by simp [digs], encL_append]
  simp [digs, encL, Atom.enc]

theorem digs_len (l : List Int) : (encL (digs l)).length = 8 * l.length := by
  induction l with
  | nil => rfl
  | cons n r ih => simp only [digs, List.map_cons, encL, Atom.enc, List.length_append, List.length_cons, be_len] at *; omega


end Go.Proofs.Ytomkiglagpfnoaa.W
