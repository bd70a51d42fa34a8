import Derived.Test.YtemjajljpoaioaaDoorCMem
namespace Go.Proofs.YtemjajljpoaioaaDoor
open Go.RowKit
set_option linter.unusedVariables false
set_option linter.unusedSimpArgs false
set_option maxRecDepth 20000
set_option maxHeartbeats 8000000
structure Ins where
 op : Int
 a : Int
 b : Int
def Ins.flds (i : Ins) : List Fld := [.i i.op, .i i.a, .i i.b]
theorem Ins.len (i : Ins) : i.flds.length = 3 := rfl
structure Pc where
 nm : List UInt8
 open_ : Bool
 pa : Int
 lo : Int
 bd : Lst Ins
def Pc.flds (p : Pc) : List Fld := [.s p.nm, .b p.open_, .i p.pa, .i p.lo, p.bd.fld Ins.flds]
theorem Pc.len (p : Pc) : p.flds.length = 5 := rfl
def nameFlds (s : List UInt8) : List Fld := [.s s]
theorem nameFlds_len (s : List UInt8) : (nameFlds s).length = 1 := rfl
structure Cd where
 ps : Lst Pc
 ns : Lst (List UInt8)
def Cd.flds (c : Cd) : List Fld := [c.ps.fld Pc.flds, c.ns.fld nameFlds]
instance : Inhabited Ins := ⟨⟨0, 0, 0⟩⟩
instance : Inhabited Pc := ⟨⟨[], false, 0, 0, ⟨none, 0, []⟩⟩⟩
def shp : List (Int × Int × Int) := [(0, 0, 0), (0, 1, 1), (1, 0, 0), (0, 1, 2), (1, 0, 2), (2, 1, 0), (2, 1, 0), (2, 1, 0), (2, 1, 0), (2, 1, 0), (2, 1, 0), (2, 1, 0), (2, 1, 0), (1, 1, 0), (0, 0, 3), (1, 0, 3), (0, 1, 4), (1, 0, 0), (0, 1, 5), (1, 0, 5), (1, 1, 5), (2, 0, 5), (0, 1, 0), (0, 1, 0), (0, 1, 0), (0, 1, 0), (1, 1, 0), (2, 0, 0), (1, 0, 0), (1, 0, 0), (3, 2, 6)]
def tkC (n : Nat) : Int := (shp.getD n (0, 0, 0)).1
def lv (n : Nat) : Int := (shp.getD n (0, 0, 0)).2.1
def ka (n : Nat) : Int := (shp.getD n (0, 0, 0)).2.2
def endA (np nb : Nat) (lo k : Int) : Int := if k = 1 then 1099511627776 else if k = 2 then lo else if k = 3 then nb else if k = 4 then np else if k = 5 then 32 else if k = 6 then 9 else 1
def endB (nn : Nat) (k : Int) : Int := if k = 6 then nn else 1
def isI (op : Int) : Bool := decide (1 ≤ op) && decide (op ≤ 30)
def fiB (np nn nb : Nat) (lo : Int) (i : Ins) : Bool := isI i.op && (decide (0 ≤ i.a) && decide (i.a < endA np nb lo (ka i.op.toNat)) && decide (0 ≤ i.b) && decide (i.b < endB nn (ka i.op.toNat)))
def paramsAt (ps : List Pc) (a : Int) : Int := (ps.getD a.toNat default).pa
def takesP (ps : List Pc) (i : Ins) : Int := if ka i.op.toNat = 4 then tkC i.op.toNat + paramsAt ps i.a else if ka i.op.toNat = 6 then tkC i.op.toNat + i.a else tkC i.op.toNat
def leavesP (i : Ins) : Int := lv i.op.toNat
def tooPc (p : Pc) : Bool := decide (2048 < (p.bd.xs.length : Int)) || decide (32 < p.lo) || decide (8 < p.pa)
def tooB (c : Cd) : Bool := decide (32 < (c.ps.xs.length : Int)) || c.ps.xs.any tooPc
def formPc (c : Cd) (p : Pc) : Bool := !(decide (p.pa < 0) || decide (p.lo < p.pa)) && p.bd.xs.all (fiB c.ps.xs.length c.ns.xs.length p.bd.xs.length p.lo)
def formB (c : Cd) : Bool := c.ps.xs.all (formPc c)
def goOn (k : Nat) (i : Ins) : List Nat := if i.op = 17 then [] else if i.op = 14 then [i.a.toNat] else if i.op = 15 then [k + 1, i.a.toNat] else [k + 1]
inductive Rch (ps : List Pc) (xs : List Ins) : Nat → Int → Prop where
 | start : Rch ps xs 0 0
 | step {k : Nat} {h : Int} {i : Ins} {t : Nat} : Rch ps xs k h → xs[k]? = some i → t ∈ goOn k i → Rch ps xs t (h - takesP ps i + leavesP i)
def Good (ps : List Pc) (xs : List Ins) : Prop := ∀ k h, Rch ps xs k h → k < xs.length ∧ h ≤ 64 ∧ (∀ h', Rch ps xs k h' → h' = h) ∧ ∀ i, xs[k]? = some i → takesP ps i ≤ h ∧ (i.op = 17 → h = 1)
open Classical in
noncomputable def goodB (ps : List Pc) (xs : List Ins) : Bool := decide (Good ps xs)
theorem goodB_true {ps : List Pc} {xs : List Ins} (h : Good ps xs) : goodB ps xs = true := by unfold goodB; simp [h]
theorem goodB_false {ps : List Pc} {xs : List Ins} (h : ¬ Good ps xs) : goodB ps xs = false := by unfold goodB; simp [h]
noncomputable def flowB (c : Cd) : Bool := c.ps.xs.all fun p => goodB c.ps.xs p.bd.xs
noncomputable def checkP (c : Cd) : Int := if tooB c = true then 3 else if formB c = true then (if flowB c = true then 0 else 13) else 13
def Done (ps : List Pc) (xs : List Ins) (hs : List Int) (k : Nat) (h : Int) : Prop :=
 h ≤ 64 ∧ ∀ i, xs[k]? = some i → takesP ps i ≤ h ∧ (i.op = 17 → h = 1) ∧ ∀ t ∈ goOn k i, hs[t]? = some (h - takesP ps i + leavesP i) ∧ 0 ≤ h - takesP ps i + leavesP i
theorem good_of_done {ps : List Pc} {xs : List Ins} {hs : List Int} (hl : hs.length = xs.length) (h0 : hs[0]? = some 0) (hd : ∀ (k : Nat) (h : Int), hs[k]? = some h → 0 ≤ h → Done ps xs hs k h) : Good ps xs := by
 have key : ∀ k h, Rch ps xs k h → hs[k]? = some h ∧ 0 ≤ h := by
  intro k h r
  induction r with
  | start => exact ⟨h0, by omega⟩
  | step r hi ht ih =>
   obtain ⟨h1, h2⟩ := ih
   exact (((hd _ _ h1 h2).2 _ hi).2.2 _ ht)
 intro k h r
 obtain ⟨h1, h2⟩ := key k h r
 refine ⟨?_, (hd k h h1 h2).1, fun h' r' => ?_, fun i hi => ?_⟩
 ·rw [← hl]; exact (List.getElem?_eq_some_iff.1 h1).1
 ·have := (key k h' r').1
  rw [h1] at this
  exact (Option.some.inj this).symm
 ·have := (hd k h h1 h2).2 i hi
  exact ⟨this.1, this.2.1⟩
theorem not_good_far {ps : List Pc} {xs : List Ins} {k : Nat} {h : Int} (r : Rch ps xs k h) (hk : xs.length ≤ k) : ¬ Good ps xs := fun g => by have := (g k h r).1; omega
theorem not_good_high {ps : List Pc} {xs : List Ins} {k : Nat} {h : Int} (r : Rch ps xs k h) (hk : 64 < h) : ¬ Good ps xs := fun g => by have := (g k h r).2.1; omega
theorem not_good_two {ps : List Pc} {xs : List Ins} {k : Nat} {h h' : Int} (r : Rch ps xs k h) (r' : Rch ps xs k h') (hk : h' ≠ h) : ¬ Good ps xs := fun g => hk ((g k h r).2.2.1 h' r')
theorem not_good_low {ps : List Pc} {xs : List Ins} {k : Nat} {h : Int} {i : Ins} (r : Rch ps xs k h) (hi : xs[k]? = some i) (hk : h < takesP ps i) : ¬ Good ps xs := fun g => by have := ((g k h r).2.2.2 i hi).1; omega
theorem not_good_back {ps : List Pc} {xs : List Ins} {k : Nat} {h : Int} {i : Ins} (r : Rch ps xs k h) (hi : xs[k]? = some i) (ho : i.op = 17) (hk : h ≠ 1) : ¬ Good ps xs := fun g => hk (((g k h r).2.2.2 i hi).2 ho)
structure Walk (ps : List Pc) (xs : List Ins) (hs : List Int) (os : List Nat) : Prop where
 len : hs.length = xs.length
 low : ∀ (k : Nat) (h : Int), hs[k]? = some h → -1 ≤ h
 rch : ∀ (k : Nat) (h : Int), hs[k]? = some h → 0 ≤ h → Rch ps xs k h ∧ h ≤ 64
 seen : ∀ k ∈ os, ∃ h, hs[k]? = some h ∧ 0 ≤ h
 done : ∀ (k : Nat) (h : Int), hs[k]? = some h → 0 ≤ h → k ∈ os ∨ Done ps xs hs k h
 zero : hs[0]? = some 0
structure Half (ps : List Pc) (xs : List Ins) (hs : List Int) (os : List Nat) : Prop where
 len : hs.length = xs.length
 low : ∀ (k : Nat) (h : Int), hs[k]? = some h → -1 ≤ h
 rch : ∀ (k : Nat) (h : Int), hs[k]? = some h → 0 ≤ h → Rch ps xs k h ∧ h ≤ 64
 seen : ∀ k ∈ os, ∃ h, hs[k]? = some h ∧ 0 ≤ h
def comeP (n : Nat) (hs : List Int) (os : List Nat) (t : Nat) (h : Int) : Option (List Int × List Nat) :=
 if n ≤ t ∨ 64 < h then none else if hs[t]? = some (-1) then some (hs.set t h, os ++ [t]) else if hs[t]? = some h then some (hs, os) else none
def leaveP (ps : List Pc) (xs : List Ins) (hs : List Int) (os : List Nat) (k : Nat) (h : Int) (i : Ins) : Option (List Int × List Nat) :=
 if h < takesP ps i then none else if i.op = 17 then (if h = 1 then some (hs, os) else none)
 else if i.op = 14 then comeP xs.length hs os i.a.toNat (h - takesP ps i + leavesP i)
 else if i.op = 15 then (comeP xs.length hs os (k + 1) (h - takesP ps i + leavesP i)).bind fun s => comeP xs.length s.1 s.2 i.a.toNat (h - takesP ps i + leavesP i)
 else comeP xs.length hs os (k + 1) (h - takesP ps i + leavesP i)
def Later (hs hs' : List Int) : Prop := hs'.length = hs.length ∧ ∀ (k : Nat) (h : Int), hs[k]? = some h → 0 ≤ h → hs'[k]? = some h
theorem Later.refl (hs : List Int) : Later hs hs := ⟨rfl, fun _ _ h _ => h⟩
theorem Later.trans {a b c : List Int} (h : Later a b) (k : Later b c) : Later a c := ⟨k.1.trans h.1, fun i x hi hx => k.2 i x (h.2 i x hi hx) hx⟩
theorem Done.later {ps : List Pc} {xs : List Ins} {hs hs' : List Int} {k : Nat} {h : Int} (d : Done ps xs hs k h) (l : Later hs hs') : Done ps xs hs' k h :=
 ⟨d.1, fun i hi => ⟨(d.2 i hi).1, (d.2 i hi).2.1, fun t ht => ⟨l.2 t _ ((d.2 i hi).2.2 t ht).1 ((d.2 i hi).2.2 t ht).2, ((d.2 i hi).2.2 t ht).2⟩⟩⟩
def unseenN (hs : List Int) : Nat := hs.countP (fun h => decide (h < 0))
theorem unseen_set (hs : List Int) (t : Nat) (h : Int) (ht : hs[t]? = some (-1)) (h0 : 0 ≤ h) : unseenN (hs.set t h) + 1 = unseenN hs := by
 unfold unseenN
 have hl := (List.getElem?_eq_some_iff.1 ht).1
 have e : hs[t] = -1 := by have := (List.getElem?_eq_some_iff.1 ht).2; exact this
 have e1 : hs = hs.take t ++ (-1) :: hs.drop (t + 1) := by
  have := List.take_append_drop t hs
  rw [List.drop_eq_getElem_cons hl, e] at this
  exact this.symm
 have e2 : hs.set t h = hs.take t ++ h :: hs.drop (t + 1) := by
  rw [List.set_eq_take_append_cons_drop, if_pos hl]
 rw [e2]
 conv => rhs; rw [e1]
 simp only [List.countP_append, List.countP_cons]
 have : ¬ h < 0 := by omega
 simp [this]
 omega
theorem come_some {ps : List Pc} {xs : List Ins} {hs hs' : List Int} {os os' : List Nat} {t : Nat} {h : Int} (W : Half ps xs hs os) (r : Rch ps xs t h) (h0 : 0 ≤ h) (e : comeP xs.length hs os t h = some (hs', os')) :
  Half ps xs hs' os' ∧ Later hs hs' ∧ hs'[t]? = some h ∧ (∀ k, k ∈ os → k ∈ os') ∧ (∀ (k : Nat) (x : Int), hs'[k]? = some x → 0 ≤ x → (k ∈ os' ∨ hs[k]? = some x)) ∧ 2 * unseenN hs' + os'.length ≤ 2 * unseenN hs + os.length := by
 unfold comeP at e
 split at e
 ·simp at e
 ·rename_i h1
  split at e
  ·rename_i h2
   simp only [Option.some.injEq, Prod.mk.injEq] at e
   obtain ⟨rfl, rfl⟩ := e
   have hl := (List.getElem?_eq_some_iff.1 h2).1
   have hset : ∀ (k : Nat) (x : Int), (hs.set t h)[k]? = some x → (k = t ∧ x = h) ∨ (k ≠ t ∧ hs[k]? = some x) := by
    intro k x hk
    rw [List.getElem?_set] at hk
    by_cases e : t = k
    ·subst e
     simp [hl] at hk
     exact .inl ⟨rfl, hk.symm⟩
    ·simp [e] at hk
     exact .inr ⟨fun e2 => e e2.symm, hk⟩
   refine ⟨⟨by simp [W.len], ?_, ?_, ?_⟩, ⟨by simp, ?_⟩, ?_, fun k hk => List.mem_append_left _ hk, ?_, ?_⟩
   ·intro k x hk
    rcases hset k x hk with ⟨_, rfl⟩ | ⟨_, hk⟩
    ·omega
    ·exact W.low k x hk
   ·intro k x hk hx
    rcases hset k x hk with ⟨rfl, rfl⟩ | ⟨_, hk⟩
    ·exact ⟨r, by omega⟩
    ·exact W.rch k x hk hx
   ·intro k hk
    rcases List.mem_append.1 hk with hk | hk
    ·obtain ⟨x, hx, hx0⟩ := W.seen k hk
     have : t ≠ k := by
      intro e2
      subst e2
      rw [h2] at hx
      have := Option.some.inj hx
      omega
     exact ⟨x, by rw [List.getElem?_set]; simp [this, hx], hx0⟩
    ·have hk : k = t := by simpa using hk
     subst hk
     exact ⟨h, by simp [hl], h0⟩
   ·intro k x hk hx
    have : t ≠ k := by
     intro e2
     subst e2
     rw [h2] at hk
     have := Option.some.inj hk
     omega
    rw [List.getElem?_set]; simp [this, hk]
   ·simp [hl]
   ·intro k x hk hx
    rcases hset k x hk with ⟨rfl, rfl⟩ | ⟨_, hk⟩
    ·exact .inl (by simp)
    ·exact .inr hk
   ·have := unseen_set hs t h h2 h0
    simp
    omega
  ·split at e
   ·rename_i h3
    simp only [Option.some.injEq, Prod.mk.injEq] at e
    obtain ⟨rfl, rfl⟩ := e
    exact ⟨W, Later.refl _, h3, fun _ h => h, fun k x hk _ => .inr hk, Nat.le_refl _⟩
   ·simp at e
theorem come_none {ps : List Pc} {xs : List Ins} {hs : List Int} {os : List Nat} {t : Nat} {h : Int} (W : Half ps xs hs os) (r : Rch ps xs t h) (e : comeP xs.length hs os t h = none) : ¬ Good ps xs := by
 unfold comeP at e
 split at e
 ·rename_i h1
  rcases h1 with h1 | h1
  ·exact not_good_far r h1
  ·exact not_good_high r h1
 ·rename_i h1
  split at e
  ·simp at e
  ·rename_i h2
   split at e
   ·simp at e
   ·rename_i h3
    have hl : t < hs.length := by rw [W.len]; omega
    have hx := List.getElem?_eq_getElem hl
    have h4 := W.low t _ hx
    by_cases h5 : hs[t] = -1
    ·exact absurd (by rw [hx, h5]) h2
    ·have r2 := (W.rch t _ hx (by omega)).1
     exact not_good_two r r2 (fun e2 => h3 (by rw [hx, e2]))
theorem leave_some {ps : List Pc} {xs : List Ins} {hs hs' : List Int} {os os' : List Nat} {k : Nat} {h : Int} {i : Ins} (W : Half ps xs hs os) (hk : hs[k]? = some h) (h0 : 0 ≤ h) (hi : xs[k]? = some i) (hlv : 0 ≤ leavesP i) (e : leaveP ps xs hs os k h i = some (hs', os')) :
  Half ps xs hs' os' ∧ Later hs hs' ∧ Done ps xs hs' k h ∧ (∀ j, j ∈ os → j ∈ os') ∧ (∀ (j : Nat) (x : Int), hs'[j]? = some x → 0 ≤ x → (j ∈ os' ∨ hs[j]? = some x)) ∧ 2 * unseenN hs' + os'.length ≤ 2 * unseenN hs + os.length := by
 obtain ⟨r, h64⟩ := W.rch k h hk h0
 unfold leaveP at e
 split at e
 ·simp at e
 ·rename_i h1
  have hn0 : 0 ≤ h - takesP ps i + leavesP i := by omega
  split at e
  ·rename_i h2
   split at e
   ·rename_i h3
    simp only [Option.some.injEq, Prod.mk.injEq] at e
    obtain ⟨rfl, rfl⟩ := e
    refine ⟨W, Later.refl _, ⟨h64, fun i' hi' => ?_⟩, fun _ h => h, fun j x hj _ => .inr hj, Nat.le_refl _⟩
    obtain rfl : i = i' := Option.some.inj (hi.symm.trans hi')
    exact ⟨by omega, fun _ => h3, fun t ht => by simp [goOn, h2] at ht⟩
   ·simp at e
  ·rename_i h2
   split at e
   ·rename_i h3
    have r2 : Rch ps xs i.a.toNat (h - takesP ps i + leavesP i) := .step r hi (by simp [goOn, h2, h3])
    obtain ⟨c1, c2, c3, c4, c5, c6⟩ := come_some W r2 hn0 e
    refine ⟨c1, c2, ⟨h64, fun i' hi' => ?_⟩, c4, c5, c6⟩
    obtain rfl : i = i' := Option.some.inj (hi.symm.trans hi')
    refine ⟨by omega, fun h => absurd h h2, fun t ht => ?_⟩
    obtain rfl : t = i.a.toNat := by simpa [goOn, h2, h3] using ht
    exact ⟨c3, hn0⟩
   ·rename_i h3
    split at e
    ·rename_i h4
     cases e1 : comeP xs.length hs os (k + 1) (h - takesP ps i + leavesP i) with
     | none => rw [e1] at e; simp at e
     | some s =>
      rw [e1] at e
      obtain ⟨hs1, os1⟩ := s
      have r2 : Rch ps xs (k + 1) (h - takesP ps i + leavesP i) := .step r hi (by simp [goOn, h2, h3, h4])
      have r3 : Rch ps xs i.a.toNat (h - takesP ps i + leavesP i) := .step r hi (by simp [goOn, h2, h3, h4])
      obtain ⟨c1, c2, c3, c4, c5, c6⟩ := come_some W r2 hn0 e1
      obtain ⟨d1, d2, d3, d4, d5, d6⟩ := come_some c1 r3 hn0 (by simpa using e)
      refine ⟨d1, c2.trans d2, ⟨h64, fun i' hi' => ?_⟩, fun j hj => d4 j (c4 j hj), fun j x hj hx => ?_, by omega⟩
      ·obtain rfl : i = i' := Option.some.inj (hi.symm.trans hi')
       refine ⟨by omega, fun h => absurd h h2, fun t ht => ?_⟩
       have ht : t = k + 1 ∨ t = i.a.toNat := by simpa [goOn, h2, h3, h4] using ht
       rcases ht with rfl | rfl
       ·exact ⟨d2.2 _ _ c3 hn0, hn0⟩
       ·exact ⟨d3, hn0⟩
      ·rcases d5 j x hj hx with h | h
       ·exact .inl h
       ·rcases c5 j x h hx with h | h
        ·exact .inl (d4 j h)
        ·exact .inr h
    ·rename_i h4
     have r2 : Rch ps xs (k + 1) (h - takesP ps i + leavesP i) := .step r hi (by simp [goOn, h2, h3, h4])
     obtain ⟨c1, c2, c3, c4, c5, c6⟩ := come_some W r2 hn0 e
     refine ⟨c1, c2, ⟨h64, fun i' hi' => ?_⟩, c4, c5, c6⟩
     obtain rfl : i = i' := Option.some.inj (hi.symm.trans hi')
     refine ⟨by omega, fun h => absurd h h2, fun t ht => ?_⟩
     obtain rfl : t = k + 1 := by simpa [goOn, h2, h3, h4] using ht
     exact ⟨c3, hn0⟩
theorem leave_none {ps : List Pc} {xs : List Ins} {hs : List Int} {os : List Nat} {k : Nat} {h : Int} {i : Ins} (W : Half ps xs hs os) (hk : hs[k]? = some h) (h0 : 0 ≤ h) (hi : xs[k]? = some i) (hlv : 0 ≤ leavesP i) (e : leaveP ps xs hs os k h i = none) : ¬ Good ps xs := by
 obtain ⟨r, h64⟩ := W.rch k h hk h0
 unfold leaveP at e
 split at e
 ·rename_i h1
  exact not_good_low r hi h1
 ·rename_i h1
  have hn0 : 0 ≤ h - takesP ps i + leavesP i := by omega
  split at e
  ·rename_i h2
   split at e
   ·simp at e
   ·rename_i h3
    exact not_good_back r hi h2 h3
  ·rename_i h2
   split at e
   ·rename_i h3
    exact come_none W (.step r hi (by simp [goOn, h2, h3])) e
   ·rename_i h3
    split at e
    ·rename_i h4
     have r2 : Rch ps xs (k + 1) (h - takesP ps i + leavesP i) := .step r hi (by simp [goOn, h2, h3, h4])
     have r3 : Rch ps xs i.a.toNat (h - takesP ps i + leavesP i) := .step r hi (by simp [goOn, h2, h3, h4])
     cases e1 : comeP xs.length hs os (k + 1) (h - takesP ps i + leavesP i) with
     | none => exact come_none W r2 e1
     | some s =>
      rw [e1] at e
      obtain ⟨hs1, os1⟩ := s
      obtain ⟨c1, _⟩ := come_some W r2 hn0 e1
      exact come_none c1 r3 (by simpa using e)
    ·rename_i h4
     exact come_none W (.step r hi (by simp [goOn, h2, h3, h4])) e
theorem Walk.step {ps : List Pc} {xs : List Ins} {hs hs' : List Int} {os os' : List Nat} {k : Nat} {h : Int} {i : Ins} (W : Walk ps xs hs (os ++ [k])) (hk : hs[k]? = some h) (hi : xs[k]? = some i) (hlv : 0 ≤ leavesP i) (e : leaveP ps xs hs os k h i = some (hs', os')) :
  Walk ps xs hs' os' ∧ 2 * unseenN hs' + os'.length ≤ 2 * unseenN hs + os.length := by
 have H : Half ps xs hs os := ⟨W.len, W.low, W.rch, fun j hj => W.seen j (List.mem_append_left _ hj)⟩
 obtain ⟨x, hx, hx0⟩ := W.seen k (by simp)
 obtain rfl : x = h := Option.some.inj (hx.symm.trans hk)
 obtain ⟨c1, c2, c3, c4, c5, c6⟩ := leave_some H hk hx0 hi hlv e
 refine ⟨⟨c1.len, c1.low, c1.rch, c1.seen, fun j y hj hy => ?_, c2.2 _ _ W.zero (by omega)⟩, c6⟩
 rcases c5 j y hj hy with h | h
 ·exact .inl h
 ·rcases W.done j y h hy with h2 | h2
  ·rcases List.mem_append.1 h2 with h2 | h2
   ·exact .inl (c4 j h2)
   ·obtain rfl : j = k := by simpa using h2
    obtain rfl : x = y := Option.some.inj (hk.symm.trans h)
    exact .inr c3
  ·exact .inr (h2.later c2)
theorem Walk.not_good {ps : List Pc} {xs : List Ins} {hs : List Int} {os : List Nat} {k : Nat} {h : Int} {i : Ins} (W : Walk ps xs hs (os ++ [k])) (hk : hs[k]? = some h) (hi : xs[k]? = some i) (hlv : 0 ≤ leavesP i) (e : leaveP ps xs hs os k h i = none) : ¬ Good ps xs := by
 have H : Half ps xs hs os := ⟨W.len, W.low, W.rch, fun j hj => W.seen j (List.mem_append_left _ hj)⟩
 obtain ⟨x, hx, hx0⟩ := W.seen k (by simp)
 obtain rfl : x = h := Option.some.inj (hx.symm.trans hk)
 exact leave_none H hk hx0 hi hlv e
theorem Walk.good {ps : List Pc} {xs : List Ins} {hs : List Int} (W : Walk ps xs hs []) : Good ps xs :=
 good_of_done W.len W.zero fun k h hk h0 => (W.done k h hk h0).elim (fun hh => by simp at hh) id
theorem lv_nonneg (n : Nat) : 0 ≤ lv n := by
 unfold lv
 by_cases h : n < 31
 ·have : ∀ m : Fin 31, 0 ≤ (shp.getD m.val (0, 0, 0)).2.1 := by decide
  exact this ⟨n, h⟩
 ·have : shp[n]? = none := List.getElem?_eq_none (by simp [shp]; omega)
  rw [List.getD_eq_getElem?_getD, this]
  decide
theorem leaves_nonneg (i : Ins) : 0 ≤ leavesP i := lv_nonneg _
end Go.Proofs.YtemjajljpoaioaaDoor
