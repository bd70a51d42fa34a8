/- A pass over votes, pairs of votes, parcels and accounts. -/
import Derived.Test.YtigbfbniicfpdaaGreatWPut
namespace Go.Proofs.YtigbfbniicfpdaaGreat.W
open Go.RowKit
set_option linter.unusedVariables false

def oApp (o : Option (List UInt8)) (l : List UInt8) : Option (List UInt8) := o.map (· ++ l)

theorem pNums_len {o : List UInt8} : ∀ {ns : List Int} {out : List UInt8}, pNums (some out) ns = some o → o.length ≤ out.length + 6 * ns.length
  | [], out, h => by
    simp only [pNums, List.foldl_nil, Option.some.injEq] at h
    subst h; simp
  | n :: r, out, h => by
    have e : pNums (some out) (n :: r) = pNums (pNum 1099511627775 (some out) n) r := rfl
    rw [e] at h
    cases hc : pNum 1099511627775 (some out) n with
    | none => rw [hc, pNums_none] at h; cases h
    | some o1 =>
      rw [hc] at h
      have h1 := pNum_len hc
      have h2 := pNums_len (ns := r) (out := o1) h
      simp only [List.length_cons]; omega

theorem Safe.below {w w' : World} {b k : Nat} (h : Safe w b k) (hb : Below w.heap.size w w') : Safe w' b k :=
  ⟨h.1, Nat.lt_of_lt_of_le h.2.1 hb.size, h.2.2.imp id fun hh cs f => by rw [hb.block k h.2.1]; exact hh cs f⟩

/-- Addresses of numbers that are laid one beside the other. -/
theorem ptrs_mk {w : World} {b : Nat} (ads : List Addr) (ns : List Int) (hl : ads.length = ns.length) (hb : b < w.heap.size)
    (h : ∀ p ∈ ads.zip ns, w.cell? p.1 = some (.int .i64 p.2) ∧ Safe w b p.1.block) : Ptrs (w.alloc (.cells (ads.map fun a => Value.pointer (some a)).toArray 105)) b w.heap.size ads ns := by
  have hbl : Below w.heap.size w (w.alloc (.cells (ads.map fun a => Value.pointer (some a)).toArray 105)) := (Below.refl _ _).alloc (Nat.le_refl _) _
  have kN := Blk.new w (ads.map fun a => Value.pointer (some a)).toArray 105
  refine ⟨hl, kN.safe (by decide) (by omega), fun i a n ha hn => ?_⟩
  have hm : (a, n) ∈ ads.zip ns := List.mem_of_getElem? (i := i) (by rw [List.getElem?_zip_eq_some]; exact ⟨ha, hn⟩)
  obtain ⟨h1, h2⟩ := h _ hm
  refine ⟨?_, ?_, h2.below hbl⟩
  · rw [kN.cell i]; simp [ha]
  · rw [hbl.cell (p := a) h2.2.1]; exact h1

/-- It lies in memory. -/
def VoteAt (w : World) (xb off : Nat) (h : Int) (r : Int) (s : Int) (has : Bool) (bl : Int) (f : Int) : Prop :=
  w.cell? ⟨xb, off, none⟩ = some (.int .i64 h) ∧ w.cell? ⟨xb, off + 1, none⟩ = some (.int .i64 r) ∧ w.cell? ⟨xb, off + 2, none⟩ = some (.int .i64 s) ∧ w.cell? ⟨xb, off + 3, none⟩ = some (.bool has) ∧ w.cell? ⟨xb, off + 4, none⟩ = some (.int .u64 bl) ∧ w.cell? ⟨xb, off + 5, none⟩ = some (.int .i64 f)

theorem VoteAt.kp {w w' : World} {base b xb off : Nat} {h : Int} {r : Int} {s : Int} {has : Bool} {bl : Int} {f : Int} (H : VoteAt w xb off h r s has bl f) (hs : Safe w b xb) (hK : Kp base b w w') : VoteAt w' xb off h r s has bl f := by
  have e : ∀ i, w'.cell? ⟨xb, i, none⟩ = w.cell? ⟨xb, i, none⟩ := fun i => Safe.cell (a := ⟨xb, i, none⟩) hs hK
  unfold VoteAt at *
  rw [e, e, e, e, e, e]; exact H

theorem VoteAt.below {w w' : World} {xb off : Nat} {h : Int} {r : Int} {s : Int} {has : Bool} {bl : Int} {f : Int} (H : VoteAt w xb off h r s has bl f) (hlt : xb < w.heap.size) (hB : Below w.heap.size w w') : VoteAt w' xb off h r s has bl f := by
  have e : ∀ i, w'.cell? ⟨xb, i, none⟩ = w.cell? ⟨xb, i, none⟩ := fun i => hB.cell (p := ⟨xb, i, none⟩) hlt
  unfold VoteAt at *
  rw [e, e, e, e, e, e]; exact H

def voteP (o : Option (List UInt8)) (h : Int) (r : Int) (s : Int) (has : Bool) (bl : Int) (f : Int) : Option (List UInt8) := pNum 1099511627775 (oApp (oApp (pNums o [h, r, s]) (flagB has)) (be bl 8)) f



/-- It lies in memory. -/
def ParcelAt (w : World) (xb off : Nat) (k : Int) (t : Int) (a : Int) : Prop :=
  w.cell? ⟨xb, off, none⟩ = some (.int .i64 k) ∧ w.cell? ⟨xb, off + 1, none⟩ = some (.int .i64 t) ∧ w.cell? ⟨xb, off + 2, none⟩ = some (.int .i64 a)

theorem ParcelAt.kp {w w' : World} {base b xb off : Nat} {k : Int} {t : Int} {a : Int} (H : ParcelAt w xb off k t a) (hs : Safe w b xb) (hK : Kp base b w w') : ParcelAt w' xb off k t a := by
  have e : ∀ i, w'.cell? ⟨xb, i, none⟩ = w.cell? ⟨xb, i, none⟩ := fun i => Safe.cell (a := ⟨xb, i, none⟩) hs hK
  unfold ParcelAt at *
  rw [e, e, e]; exact H

theorem ParcelAt.below {w w' : World} {xb off : Nat} {k : Int} {t : Int} {a : Int} (H : ParcelAt w xb off k t a) (hlt : xb < w.heap.size) (hB : Below w.heap.size w w') : ParcelAt w' xb off k t a := by
  have e : ∀ i, w'.cell? ⟨xb, i, none⟩ = w.cell? ⟨xb, i, none⟩ := fun i => hB.cell (p := ⟨xb, i, none⟩) hlt
  unfold ParcelAt at *
  rw [e, e, e]; exact H

def parcelP (o : Option (List UInt8)) (k : Int) (t : Int) (a : Int) : Option (List UInt8) := pNums o [k, t, a]



/-- It lies in memory. -/
def AccountAt (w : World) (xb off : Nat) (ba : Int) (fo : Int) (no : Int) (bo : Int) (le : Int) (fr : Int) (ja : Bool) : Prop :=
  w.cell? ⟨xb, off, none⟩ = some (.int .i64 ba) ∧ w.cell? ⟨xb, off + 1, none⟩ = some (.int .i64 fo) ∧ w.cell? ⟨xb, off + 2, none⟩ = some (.int .i64 no) ∧ w.cell? ⟨xb, off + 3, none⟩ = some (.int .i64 bo) ∧ w.cell? ⟨xb, off + 4, none⟩ = some (.int .i64 le) ∧ w.cell? ⟨xb, off + 5, none⟩ = some (.int .i64 fr) ∧ w.cell? ⟨xb, off + 6, none⟩ = some (.bool ja)

theorem AccountAt.kp {w w' : World} {base b xb off : Nat} {ba : Int} {fo : Int} {no : Int} {bo : Int} {le : Int} {fr : Int} {ja : Bool} (H : AccountAt w xb off ba fo no bo le fr ja) (hs : Safe w b xb) (hK : Kp base b w w') : AccountAt w' xb off ba fo no bo le fr ja := by
  have e : ∀ i, w'.cell? ⟨xb, i, none⟩ = w.cell? ⟨xb, i, none⟩ := fun i => Safe.cell (a := ⟨xb, i, none⟩) hs hK
  unfold AccountAt at *
  rw [e, e, e, e, e, e, e]; exact H

theorem AccountAt.below {w w' : World} {xb off : Nat} {ba : Int} {fo : Int} {no : Int} {bo : Int} {le : Int} {fr : Int} {ja : Bool} (H : AccountAt w xb off ba fo no bo le fr ja) (hlt : xb < w.heap.size) (hB : Below w.heap.size w w') : AccountAt w' xb off ba fo no bo le fr ja := by
  have e : ∀ i, w'.cell? ⟨xb, i, none⟩ = w.cell? ⟨xb, i, none⟩ := fun i => hB.cell (p := ⟨xb, i, none⟩) hlt
  unfold AccountAt at *
  rw [e, e, e, e, e, e, e]; exact H

def accountP (o : Option (List UInt8)) (ba : Int) (fo : Int) (no : Int) (bo : Int) (le : Int) (fr : Int) (ja : Bool) : Option (List UInt8) := oApp (pNums o [ba, fo, no, bo, le, fr]) (flagB ja)



end Go.Proofs.YtigbfbniicfpdaaGreat.W
