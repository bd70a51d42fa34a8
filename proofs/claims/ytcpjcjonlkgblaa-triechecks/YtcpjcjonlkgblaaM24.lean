/- A pass over two votes. -/
import Derived.Test.YtcpjcjonlkgblaaM22

namespace Go.Proofs.Ytcpjcjonlkgblaa.W
open Go.RowKit
set_option linter.unusedVariables false

theorem oApp_none (l : List UInt8) : oApp none l = none := rfl

theorem pNum_none (most n : Int) : pNum most none n = none := rfl

theorem oApp_len {o : Option (List UInt8)} {l r : List UInt8} (h : oApp o l = some r) : ∃ x, o = some x ∧ r.length = x.length + l.length := by
  cases o with
  | none => cases h
  | some x => simp only [oApp, Option.map_some, Option.some.injEq] at h; subst h; exact ⟨x, rfl, by simp⟩

theorem pNum_some {most n : Int} {o : Option (List UInt8)} {r : List UInt8} (h : pNum most o n = some r) : ∃ x, o = some x ∧ r.length ≤ x.length + 6 := by
  cases o with
  | none => cases h
  | some x => exact ⟨x, rfl, pNum_len h⟩

theorem voteP_none (h r s : Int) (has : Bool) (bl f : Int) : voteP none h r s has bl f = none := by
  unfold voteP; rw [pNums_none]; rfl

theorem voteP_len {out o : List UInt8} {h r s : Int} {has : Bool} {bl f : Int} (e : voteP (some out) h r s has bl f = some o) : o.length ≤ out.length + 40 := by
  unfold voteP at e
  obtain ⟨x, e1, l1⟩ := pNum_some e
  obtain ⟨y, e2, l2⟩ := oApp_len e1
  obtain ⟨z, e3, l3⟩ := oApp_len e2
  have l4 := pNums_len e3
  have l5 := be_len bl 8
  simp only [List.length_cons, List.length_nil, flagB] at *
  omega


end Go.Proofs.Ytcpjcjonlkgblaa.W

namespace Go.Proofs.Ytcpjcjonlkgblaa.W
open Go.RowKit
set_option linter.unusedVariables false

/-- It lies in memory. -/
def SeatAt (w : World) (xb off : Nat) (a : Int) (c : Int) : Prop :=
  w.cell? ⟨xb, off, none⟩ = some (.int .i64 a) ∧ w.cell? ⟨xb, off + 1, none⟩ = some (.int .i64 c)

theorem SeatAt.kp {w w' : World} {base b xb off : Nat} {a : Int} {c : Int} (H : SeatAt w xb off a c) (hs : Safe w b xb) (hK : Kp base b w w') : SeatAt w' xb off a c := by
  have e : ∀ i, w'.cell? ⟨xb, i, none⟩ = w.cell? ⟨xb, i, none⟩ := fun i => Safe.cell (a := ⟨xb, i, none⟩) hs hK
  unfold SeatAt at *
  rw [e, e]; exact H

theorem SeatAt.below {w w' : World} {xb off : Nat} {a : Int} {c : Int} (H : SeatAt w xb off a c) (hlt : xb < w.heap.size) (hB : Below w.heap.size w w') : SeatAt w' xb off a c := by
  have e : ∀ i, w'.cell? ⟨xb, i, none⟩ = w.cell? ⟨xb, i, none⟩ := fun i => hB.cell (p := ⟨xb, i, none⟩) hlt
  unfold SeatAt at *
  rw [e, e]; exact H

def seatP (o : Option (List UInt8)) (a : Int) (c : Int) : Option (List UInt8) := pNums o [a, c]



/-- A list of them in memory. -/
def Seats (w : World) (b : Nat) (la : Option Addr) (ps : List (Int × Int)) : Prop :=
  ps = [] ∨ ∃ rb ro, la = some ⟨rb, ro, none⟩ ∧ Safe w b rb ∧ ∀ i p, ps[i]? = some p → SeatAt w rb (ro + i * 2) p.1 p.2

theorem Seats.kp {w w' : World} {base b : Nat} {la : Option Addr} {ps : List (Int × Int)} (h : Seats w b la ps) (hK : Kp base b w w') : Seats w' b la ps := by
  rcases h with h | ⟨rb, ro, e, hs, hc⟩
  · exact .inl h
  · exact .inr ⟨rb, ro, e, hs.kp hK, fun i p hp => (hc i p hp).kp hs hK⟩

def seats (o : Option (List UInt8)) (ps : List (Int × Int)) : Option (List UInt8) := ps.foldl (fun o p => seatP o p.1 p.2) o

theorem seatP_none (a c : Int) : seatP none a c = none := pNums_none _

theorem seats_none (ps : List (Int × Int)) : seats none ps = none := by
  induction ps with
  | nil => rfl
  | cons p r ih => exact ih

theorem seatP_len {out o : List UInt8} {a c : Int} (h : seatP (some out) a c = some o) : o.length ≤ out.length + 12 := by
  have := pNums_len h
  simpa using this

theorem seats_take (o : Option (List UInt8)) (ps : List (Int × Int)) (k : Nat) (p : Int × Int) (h : ps[k]? = some p) : seats o (ps.take (k + 1)) = seatP (seats o (ps.take k)) p.1 p.2 := by
  have e : ps.take (k + 1) = ps.take k ++ [p] := by
    rw [List.take_add_one, h]; rfl
  rw [e]
  unfold seats
  rw [List.foldl_append]; rfl

theorem seats_drop (o : Option (List UInt8)) (ps : List (Int × Int)) (k : Nat) : seats o ps = seats (seats o (ps.take k)) (ps.drop k) := by
  unfold seats
  rw [← List.foldl_append, List.take_append_drop]

def seatL (most : Int) (o : Option (List UInt8)) (ps : List (Int × Int)) : Option (List UInt8) := seats (pNum most o (ps.length : Int)) ps



/-- It lies in memory. -/
def NoteAt (w : World) (xb off : Nat) (a : Int) (c : Int) : Prop :=
  w.cell? ⟨xb, off, none⟩ = some (.int .i64 a) ∧ w.cell? ⟨xb, off + 1, none⟩ = some (.int .i64 c)

theorem NoteAt.kp {w w' : World} {base b xb off : Nat} {a : Int} {c : Int} (H : NoteAt w xb off a c) (hs : Safe w b xb) (hK : Kp base b w w') : NoteAt w' xb off a c := by
  have e : ∀ i, w'.cell? ⟨xb, i, none⟩ = w.cell? ⟨xb, i, none⟩ := fun i => Safe.cell (a := ⟨xb, i, none⟩) hs hK
  unfold NoteAt at *
  rw [e, e]; exact H

theorem NoteAt.below {w w' : World} {xb off : Nat} {a : Int} {c : Int} (H : NoteAt w xb off a c) (hlt : xb < w.heap.size) (hB : Below w.heap.size w w') : NoteAt w' xb off a c := by
  have e : ∀ i, w'.cell? ⟨xb, i, none⟩ = w.cell? ⟨xb, i, none⟩ := fun i => hB.cell (p := ⟨xb, i, none⟩) hlt
  unfold NoteAt at *
  rw [e, e]; exact H

def noteP (o : Option (List UInt8)) (a : Int) (c : Int) : Option (List UInt8) := pNums o [a, c]



/-- A list of them in memory. -/
def Notes (w : World) (b : Nat) (la : Option Addr) (ps : List (Int × Int)) : Prop :=
  ps = [] ∨ ∃ rb ro, la = some ⟨rb, ro, none⟩ ∧ Safe w b rb ∧ ∀ i p, ps[i]? = some p → NoteAt w rb (ro + i * 2) p.1 p.2

theorem Notes.kp {w w' : World} {base b : Nat} {la : Option Addr} {ps : List (Int × Int)} (h : Notes w b la ps) (hK : Kp base b w w') : Notes w' b la ps := by
  rcases h with h | ⟨rb, ro, e, hs, hc⟩
  · exact .inl h
  · exact .inr ⟨rb, ro, e, hs.kp hK, fun i p hp => (hc i p hp).kp hs hK⟩

def notes (o : Option (List UInt8)) (ps : List (Int × Int)) : Option (List UInt8) := ps.foldl (fun o p => noteP o p.1 p.2) o

theorem noteP_none (a c : Int) : noteP none a c = none := pNums_none _

theorem notes_none (ps : List (Int × Int)) : notes none ps = none := by
  induction ps with
  | nil => rfl
  | cons p r ih => exact ih

theorem noteP_len {out o : List UInt8} {a c : Int} (h : noteP (some out) a c = some o) : o.length ≤ out.length + 12 := by
  have := pNums_len h
  simpa using this

theorem notes_take (o : Option (List UInt8)) (ps : List (Int × Int)) (k : Nat) (p : Int × Int) (h : ps[k]? = some p) : notes o (ps.take (k + 1)) = noteP (notes o (ps.take k)) p.1 p.2 := by
  have e : ps.take (k + 1) = ps.take k ++ [p] := by
    rw [List.take_add_one, h]; rfl
  rw [e]
  unfold notes
  rw [List.foldl_append]; rfl

theorem notes_drop (o : Option (List UInt8)) (ps : List (Int × Int)) (k : Nat) : notes o ps = notes (notes o (ps.take k)) (ps.drop k) := by
  unfold notes
  rw [← List.foldl_append, List.take_append_drop]

def noteL (most : Int) (o : Option (List UInt8)) (ps : List (Int × Int)) : Option (List UInt8) := notes (pNum most o (ps.length : Int)) ps



end Go.Proofs.Ytcpjcjonlkgblaa.W
