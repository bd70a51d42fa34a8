import Derived.Test.YtemjajljpoaioaaDoorYA
namespace Go.Proofs.YtemjajljpoaioaaDoor
open Go.RowKit
set_option linter.unusedVariables false
set_option linter.unusedSimpArgs false
set_option maxRecDepth 20000
set_option maxHeartbeats 8000000
theorem isJ_iff {i : Ins} : isJ i = true ↔ i.op = 14 ∨ i.op = 15 := by simp [isJ]
theorem ka3 : ∀ o, o < 31 → o ≠ 14 → o ≠ 15 → ka o ≠ 3 := by decide
theorem isI_nat {op : Int} (h : isI op = true) : 0 ≤ op ∧ op.toNat < 31 := by
 have : 1 ≤ op ∧ op ≤ 30 := by simpa [isI] using h
 omega
theorem fi_other {np nn nb nb' : Nat} {lo : Int} {i : Ins} (h : ¬ isJ i = true) : fiB np nn nb lo i = fiB np nn nb' lo i := by
 unfold fiB
 cases hI : isI i.op with
 | false => rfl
 | true =>
  obtain ⟨h1, h2⟩ := isI_nat hI
  have h3 : ka i.op.toNat ≠ 3 := ka3 _ h2 (fun e => h (isJ_iff.2 (.inl (by omega)))) (fun e => h (isJ_iff.2 (.inr (by omega))))
  have e : endA np nb lo (ka i.op.toNat) = endA np nb' lo (ka i.op.toNat) := by
   unfold endA
   simp only [h3, if_false]
  rw [e]
theorem fi_jump {np nn nb : Nat} {lo : Int} {i : Ins} (h : isJ i = true) : fiB np nn nb lo i = true ↔ (0 ≤ i.a ∧ i.a < nb) ∧ 0 ≤ i.b ∧ i.b < 1 := by
 obtain ⟨op, a, b⟩ := i
 rcases isJ_iff.1 h with h | h <;> (simp only at h; subst h) <;> simp [fiB, isI, show (14 : Int).toNat = 14 from rfl, show (15 : Int).toNat = 15 from rfl, show ka 14 = 3 from rfl, show ka 15 = 3 from rfl, endA, endB] <;> omega
theorem takes_J {ps : List Pc} {i : Ins} (h : isJ i = true) : takesP ps i = if i.op = 14 then 0 else 1 := by
 obtain ⟨op, a, b⟩ := i
 rcases isJ_iff.1 h with h | h <;> (simp only at h; subst h) <;> rfl
theorem leaves_J {i : Ins} (h : isJ i = true) : leavesP i = 0 := by
 obtain ⟨op, a, b⟩ := i
 rcases isJ_iff.1 h with h | h <;> (simp only at h; subst h) <;> rfl
theorem goOn_14 {k : Nat} {i : Ins} (h : i.op = 14) : goOn k i = [i.a.toNat] := by unfold goOn; rw [h]; rfl
theorem goOn_15 {k : Nat} {i : Ins} (h : i.op = 15) : goOn k i = [k + 1, i.a.toNat] := by unfold goOn; rw [h]; rfl
theorem goOn_17 {k : Nat} {i : Ins} (h : i.op = 17) : goOn k i = [] := by unfold goOn; rw [h]; rfl
theorem goOn_else {k : Nat} {i : Ins} (h : ¬ isJ i = true) (h17 : i.op ≠ 17) : goOn k i = [k + 1] := by
 unfold goOn
 rw [if_neg h17, if_neg (fun e => h (isJ_iff.2 (.inl e))), if_neg (fun e => h (isJ_iff.2 (.inr e)))]
structure Fb (np nn : Nat) (lo : Int) (ps : List Pc) (b : List Ins) : Prop where
 fm : ∀ i ∈ b, fiB np nn b.length lo i = true
 gd : Good ps b
theorem Fb.lds {np nn : Nat} {lo : Int} {ps : List Pc} {b : List Ins} (F : Fb np nn lo ps b) : Lds b := fun i hi hj => by
 have := (fi_jump hj).1 (F.fm i hi)
 omega
theorem Ends.rch {ps : List Pc} {b : List Ins} {h : Int} : ∀ {m k t : Nat}, Ends b k m t → Rch ps b k h → Rch ps b t h
 | 0, _, _, ⟨rfl, _⟩, r => r
 | m + 1, k, t, ⟨i, hi, h14, _, e⟩, r => e.rch (by
  have hj : isJ i = true := isJ_iff.2 (.inl h14)
  have := Rch.step (t := i.a.toNat) r hi (by rw [goOn_14 h14]; simp)
  rw [takes_J hj, leaves_J hj, if_pos h14, show h - 0 + 0 = h by omega] at this
  exact this)
theorem strt_rch {ps : List Pc} {b : List Ins} {k : Nat} {h : Int} (r : Rch ps (strt b) k h) : Rch ps b k h := by
 induction r with
 | start => exact .start
 | @step k h i' t r hi ht ih =>
  rw [strt_get] at hi
  cases hb : b[k]? with
  | none => rw [hb] at hi; cases hi
  | some i =>
   rw [hb] at hi
   obtain rfl : strI b k i = i' := Option.some.inj hi
   by_cases hj : isJ i = true
   ·have hj' : isJ (strI b k i) = true := by rw [isJ_op (strI_op b k i)]; exact hj
    rw [takes_J hj', leaves_J hj', strI_op]
    have st : ∀ u, u ∈ goOn k i → Rch ps b u (h - (if i.op = 14 then 0 else 1) + 0) := fun u hu => by
     have := Rch.step ih hb hu
     rwa [takes_J hj, leaves_J hj] at this
    cases he : endOf b b.length i.a.toNat with
    | some u =>
     rw [strI_to hj he] at ht
     obtain ⟨m, hm⟩ := endOf_some.1 he
     rcases isJ_iff.1 hj with h14 | h15
     ·rw [goOn_14 (i := ⟨i.op, u, i.b⟩) h14] at ht
      obtain rfl : t = u := by simpa using ht
      exact hm.rch (st _ (by rw [goOn_14 h14]; simp))
     ·rw [goOn_15 (i := ⟨i.op, u, i.b⟩) h15] at ht
      rcases (show t = k + 1 ∨ t = u by simpa using ht) with rfl | rfl
      ·exact st _ (by rw [goOn_15 h15]; simp)
      ·exact hm.rch (st _ (by rw [goOn_15 h15]; simp))
    | none =>
     by_cases h14 : i.op = 14
     ·rw [strI_self hj he h14, goOn_14 (i := ⟨i.op, k, i.b⟩) h14] at ht
      obtain rfl : t = k := by simpa using ht
      rw [if_pos h14, show h - 0 + 0 = h by omega]
      exact ih
     ·rw [strI_stay hj he h14] at ht
      exact st _ ht
   ·rw [strI_no hj] at ht ⊢
    exact .step ih hb ht
theorem strt_fb {np nn : Nat} {lo : Int} {ps : List Pc} {b : List Ins} (F : Fb np nn lo ps b) : Fb np nn lo ps (strt b) := by
 refine ⟨fun i' hi => ?_, fun k h r => ?_⟩
 ·obtain ⟨k, hk⟩ := List.mem_iff_getElem?.1 hi
  rw [strt_get] at hk
  cases hb : b[k]? with
  | none => rw [hb] at hk; cases hk
  | some i =>
   rw [hb] at hk
   obtain rfl : strI b k i = i' := Option.some.inj hk
   have hf := F.fm i (List.mem_of_getElem? hb)
   rw [strt_len]
   by_cases hj : isJ i = true
   ·have hj' : isJ (strI b k i) = true := by rw [isJ_op (strI_op b k i)]; exact hj
    have q := (fi_jump hj).1 hf
    refine (fi_jump hj').2 ⟨?_, by rw [strI_b]; exact q.2⟩
    cases he : endOf b b.length i.a.toNat with
    | some u =>
     rw [strI_to hj he]
     obtain ⟨m, hm⟩ := endOf_some.1 he
     obtain ⟨x, hx, _⟩ := hm.at_
     have := (List.getElem?_eq_some_iff.1 hx).1
     show 0 ≤ (u : Int) ∧ (u : Int) < b.length
     omega
    | none =>
     by_cases h14 : i.op = 14
     ·rw [strI_self hj he h14]
      have := (List.getElem?_eq_some_iff.1 hb).1
      show 0 ≤ (k : Int) ∧ (k : Int) < b.length
      omega
     ·rw [strI_stay hj he h14]
      exact q.1
   ·rw [strI_no hj]
    exact hf
 ·have r0 := strt_rch r
  obtain ⟨g1, g2, g3, g4⟩ := F.gd k h r0
  refine ⟨by rw [strt_len]; exact g1, g2, fun h' r' => g3 h' (strt_rch r'), fun i' hi => ?_⟩
  rw [strt_get] at hi
  cases hb : b[k]? with
  | none => rw [hb] at hi; cases hi
  | some i =>
   rw [hb] at hi
   obtain rfl : strI b k i = i' := Option.some.inj hi
   have q := g4 i hb
   refine ⟨?_, by rw [strI_op]; exact q.2⟩
   by_cases hj : isJ i = true
   ·have hj' : isJ (strI b k i) = true := by rw [isJ_op (strI_op b k i)]; exact hj
    rw [takes_J hj', strI_op, ← takes_J (ps := ps) hj]
    exact q.1
   ·rw [strI_no hj]
    exact q.1
inductive Way (b : List Ins) : Nat → Prop where
 | start : Way b 0
 | step {k : Nat} {i : Ins} {t : Nat} : Way b k → b[k]? = some i → t ∈ goOn k i → Way b t
theorem Way.rch {ps : List Pc} {b : List Ins} {k : Nat} (w : Way b k) : ∃ h, Rch ps b k h := by
 induction w with
 | start => exact ⟨_, .start⟩
 | step _ hi ht ih => obtain ⟨h, r⟩ := ih; exact ⟨_, .step r hi ht⟩
theorem Rch.way {ps : List Pc} {b : List Ins} {k : Nat} {h : Int} (r : Rch ps b k h) : Way b k := by
 induction r with
 | start => exact .start
 | step _ hi ht ih => exact .step ih hi ht
def nx (k : Nat) (i : Ins) : List Nat := (if isJ i = true then [i.a.toNat] else []) ++ (if i.op ≠ 14 ∧ i.op ≠ 17 then [k + 1] else [])
theorem nx_mem {k : Nat} {i : Ins} {t : Nat} : t ∈ nx k i ↔ t ∈ goOn k i := by
 by_cases hj : isJ i = true
 ·rcases isJ_iff.1 hj with h | h
  ·rw [goOn_14 h]; simp [nx, hj, h]
  ·rw [goOn_15 h]; simp [nx, hj, h]; exact or_comm
 ·by_cases h17 : i.op = 17
  ·rw [goOn_17 h17]; simp [nx, hj, h17]
  ·rw [goOn_else hj h17]
   have : i.op ≠ 14 := fun e => hj (isJ_iff.2 (.inl e))
   simp [nx, hj, h17, this]
theorem nx_len (k : Nat) (i : Ins) : (nx k i).length ≤ 2 := by
 unfold nx
 split <;> split <;> simp
def dfs (b : List Ins) : Nat → List Nat → List Bool → List Bool
 | 0, _, ld => ld
 | n + 1, os, ld => match os.getLast? with
  | none => ld
  | some k => if ld.getD k true = true then dfs b n os.dropLast ld else match b[k]? with
   | none => ld
   | some i => dfs b n (os.dropLast ++ nx k i) (ld.set k true)
def unl : List Bool → Nat
 | [] => 0
 | true :: r => unl r
 | false :: r => unl r + 1
theorem unl_set : ∀ {ld : List Bool} {k : Nat}, ld[k]? = some false → unl (ld.set k true) + 1 = unl ld
 | [], _, h => by simp at h
 | x :: r, 0, h => by
  obtain rfl : x = false := by simpa using h
  rfl
 | x :: r, k + 1, h => by
  have := unl_set (ld := r) (k := k) (by simpa using h)
  cases x with
  | true => exact this
  | false => show unl (r.set k true) + 1 + 1 = unl r + 1; omega
theorem unl_rep (n : Nat) : unl (List.replicate n false) = n := by
 induction n with
 | zero => rfl
 | succ n ih => rw [List.replicate_succ]; show unl _ + 1 = _; rw [ih]
structure DI (b : List Ins) (os : List Nat) (ld : List Bool) : Prop where
 len : ld.length = b.length
 way : ∀ k : Nat, ld[k]? = some true → Way b k
 opn : ∀ k ∈ os, Way b k
 cls : ∀ (k : Nat) (i : Ins), ld[k]? = some true → b[k]? = some i → ∀ t ∈ nx k i, ld[t]? = some true ∨ t ∈ os
 zro : ld[0]? = some true ∨ 0 ∈ os
theorem last_cases {α : Type} (l : List α) : l = [] ∨ ∃ m x, l = m ++ [x] := by
 cases h : l.getLast? with
 | none => exact .inl (by simpa using h)
 | some x => exact .inr ⟨l.dropLast, x, by
   obtain ⟨m, hm⟩ := List.getLast?_eq_some_iff.1 h
   rw [hm]; simp⟩
theorem DI.skip {b : List Ins} {os : List Nat} {k : Nat} {ld : List Bool} (D : DI b (os ++ [k]) ld) (h : ld[k]? = some true) : DI b os ld := by
 refine ⟨D.len, D.way, fun j hj => D.opn j (List.mem_append_left _ hj), fun j i h1 h2 t ht => ?_, ?_⟩
 ·rcases D.cls j i h1 h2 t ht with q | q
  ·exact .inl q
  ·rcases List.mem_append.1 q with q | q
   ·exact .inr q
   ·obtain rfl : t = k := by simpa using q
    exact .inl h
 ·rcases D.zro with q | q
  ·exact .inl q
  ·rcases List.mem_append.1 q with q | q
   ·exact .inr q
   ·obtain rfl : 0 = k := by simpa using q
    exact .inl h
theorem DI.go {b : List Ins} {os : List Nat} {k : Nat} {i : Ins} {ld : List Bool} (D : DI b (os ++ [k]) ld) (h : ld[k]? = some false) (hi : b[k]? = some i) : DI b (os ++ nx k i) (ld.set k true) := by
 have hl : k < ld.length := (List.getElem?_eq_some_iff.1 h).1
 have hs : ∀ {j : Nat}, (ld.set k true)[j]? = some true ↔ j = k ∨ ld[j]? = some true := fun {j} => by
  by_cases e : k = j
  ·subst e
   rw [List.getElem?_set_self hl]; simp
  ·rw [List.getElem?_set_ne e]
   exact ⟨.inr, fun q => q.resolve_left fun x => e x.symm⟩
 have w := D.opn k (by simp)
 refine ⟨by rw [List.length_set]; exact D.len, fun j hj => ?_, fun j hj => ?_, fun j x h1 h2 t ht => ?_, ?_⟩
 ·rcases hs.1 hj with rfl | q
  ·exact w
  ·exact D.way j q
 ·rcases List.mem_append.1 hj with q | q
  ·exact D.opn j (List.mem_append_left _ q)
  ·exact .step w hi (nx_mem.1 q)
 ·rcases hs.1 h1 with rfl | q
  ·rw [hi] at h2
   cases h2
   exact .inr (List.mem_append_right _ ht)
  ·rcases D.cls j x q h2 t ht with q | q
   ·exact .inl (hs.2 (.inr q))
   ·rcases List.mem_append.1 q with q | q
    ·exact .inr (List.mem_append_left _ q)
    ·obtain rfl : t = k := by simpa using q
     exact .inl (hs.2 (.inl rfl))
 ·rcases D.zro with q | q
  ·exact .inl (hs.2 (.inr q))
  ·rcases List.mem_append.1 q with q | q
   ·exact .inr (List.mem_append_left _ q)
   ·obtain rfl : 0 = k := by simpa using q
    exact .inl (hs.2 (.inl rfl))
theorem DI.done {b : List Ins} {ld : List Bool} (D : DI b [] ld) (k : Nat) : ld[k]? = some true ↔ Way b k := by
 refine ⟨D.way k, fun w => ?_⟩
 induction w with
 | start => exact D.zro.resolve_right (by simp)
 | step _ hi ht ih => exact (D.cls _ _ ih hi _ (nx_mem.2 ht)).resolve_right (by simp)
theorem dfs_way {b : List Ins} (hw : ∀ k, Way b k → k < b.length) : ∀ (n : Nat) (os : List Nat) (ld : List Bool), DI b os ld → 2 * unl ld + os.length ≤ n → (dfs b n os ld).length = b.length ∧ ∀ k, (dfs b n os ld)[k]? = some true ↔ Way b k
 | 0, os, ld, D, h => by
  obtain rfl : os = [] := by cases os with | nil => rfl | cons x r => simp at h
  exact ⟨D.len, D.done⟩
 | n + 1, os, ld, D, h => by
  unfold dfs
  rcases last_cases os with rfl | ⟨os, k, rfl⟩
  ·exact ⟨D.len, D.done⟩
  ·simp only [List.getLast?_append, List.getLast?_singleton, Option.some_or, List.dropLast_concat]
   have hk := hw k (D.opn k (by simp))
   rw [List.length_append] at h
   simp only [List.length_cons, List.length_nil] at h
   obtain ⟨x, hx⟩ : ∃ x, ld[k]? = some x := ⟨_, List.getElem?_eq_getElem (by rw [D.len]; exact hk)⟩
   have hg : ld.getD k true = x := by rw [List.getD_eq_getElem?_getD, hx]; rfl
   rw [hg]
   cases x with
   | true =>
    rw [if_pos rfl]
    exact dfs_way hw n os ld (D.skip hx) (by omega)
   | false =>
    obtain ⟨i, hi⟩ : ∃ i, b[k]? = some i := ⟨_, List.getElem?_eq_getElem hk⟩
    rw [if_neg (by decide), hi]
    have := unl_set hx
    have := nx_len k i
    exact dfs_way hw n _ _ (D.go hx hi) (by rw [List.length_append]; omega)
def ledOf (b : List Ins) : List Bool := dfs b (2 * b.length + 1) [0] (List.replicate b.length false)
theorem ledOf_way {b : List Ins} (hw : ∀ k, Way b k → k < b.length) : (ledOf b).length = b.length ∧ ∀ k, (ledOf b)[k]? = some true ↔ Way b k := by
 have no : ∀ k : Nat, (List.replicate b.length false)[k]? ≠ some true := fun k h => by
  rw [List.getElem?_replicate] at h
  split at h <;> cases h
 refine dfs_way hw _ _ _ ⟨by simp, fun k h => absurd h (no k), fun k hk => ?_, fun k i h => absurd h (no k), .inr (by simp)⟩ (by rw [unl_rep]; simp)
 obtain rfl : k = 0 := by simpa using hk
 exact .start
def plc : List Bool → Nat → Nat
 | _, 0 => 0
 | [], _ + 1 => 0
 | true :: r, k + 1 => plc r k + 1
 | false :: r, k + 1 => plc r k
theorem plc0 : ∀ ld : List Bool, plc ld 0 = 0
 | [] => rfl
 | true :: _ => rfl
 | false :: _ => rfl
def kept : List Bool → List Ins → List Ins
 | true :: l, i :: b => i :: kept l b
 | false :: l, i :: b => kept l b
 | [], _ => []
 | _, [] => []
theorem kept_get : ∀ {ld : List Bool} {b : List Ins} {k : Nat} {i : Ins}, ld[k]? = some true → b[k]? = some i → (kept ld b)[plc ld k]? = some i
 | [], _, _, _, h, _ => by simp at h
 | _ :: _, [], _, _, _, h => by simp at h
 | true :: l, x :: b, 0, i, _, h => by simpa [kept, plc] using h
 | false :: l, x :: b, 0, i, h, _ => by simp at h
 | true :: l, x :: b, k + 1, i, h, h' => by
  have := kept_get (ld := l) (b := b) (k := k) (i := i) (by simpa using h) (by simpa using h')
  simpa [kept, plc] using this
 | false :: l, x :: b, k + 1, i, h, h' => by
  have := kept_get (ld := l) (b := b) (k := k) (i := i) (by simpa using h) (by simpa using h')
  simpa [kept, plc] using this
theorem kept_inv : ∀ {ld : List Bool} {b : List Ins} {j : Nat} {i : Ins}, (kept ld b)[j]? = some i → ∃ k : Nat, ld[k]? = some true ∧ b[k]? = some i ∧ plc ld k = j
 | [], _, _, _, h => by simp [kept] at h
 | true :: _, [], _, _, h => by simp [kept] at h
 | false :: _, [], _, _, h => by simp [kept] at h
 | true :: l, x :: b, 0, i, h => ⟨0, rfl, by simpa [kept] using h, rfl⟩
 | true :: l, x :: b, j + 1, i, h => by
  obtain ⟨k, h1, h2, h3⟩ := kept_inv (ld := l) (b := b) (j := j) (i := i) (by simpa [kept] using h)
  exact ⟨k + 1, by simpa using h1, by simpa using h2, by show plc l k + 1 = j + 1; rw [h3]⟩
 | false :: l, x :: b, j, i, h => by
  obtain ⟨k, h1, h2, h3⟩ := kept_inv (ld := l) (b := b) (j := j) (i := i) (by simpa [kept] using h)
  exact ⟨k + 1, by simpa using h1, by simpa using h2, h3⟩
theorem plc_succ : ∀ {ld : List Bool} {k : Nat}, ld[k]? = some true → plc ld (k + 1) = plc ld k + 1
 | [], _, h => by simp at h
 | true :: l, 0, h => by cases l <;> rfl
 | false :: l, 0, h => by simp at h
 | true :: l, k + 1, h => by show plc l (k + 1) + 1 = plc l k + 1 + 1; rw [plc_succ (by simpa using h)]
 | false :: l, k + 1, h => by show plc l (k + 1) = plc l k + 1; rw [plc_succ (by simpa using h)]
theorem plc_fail : ∀ {ld : List Bool} {k : Nat}, ld[k]? = some false → plc ld (k + 1) = plc ld k
 | [], _, h => by simp at h
 | true :: l, 0, h => by simp at h
 | false :: l, 0, h => by cases l <;> rfl
 | true :: l, k + 1, h => by show plc l (k + 1) + 1 = plc l k + 1; rw [plc_fail (by simpa using h)]
 | false :: l, k + 1, h => by show plc l (k + 1) = plc l k; rw [plc_fail (by simpa using h)]
theorem plc_mono {ld : List Bool} {j k : Nat} (h : j ≤ k) (hk : k ≤ ld.length) : plc ld j ≤ plc ld k := by
 induction k with
 | zero =>
  obtain rfl : j = 0 := by omega
  exact Nat.le_refl _
 | succ k ih =>
  by_cases e : j = k + 1
  ·subst e; exact Nat.le_refl _
  ·have := ih (by omega) (by omega)
   obtain ⟨x, hx⟩ : ∃ x, ld[k]? = some x := ⟨_, List.getElem?_eq_getElem (by omega)⟩
   cases x with
   | true => rw [plc_succ hx]; omega
   | false => rw [plc_fail hx]; omega
theorem plc_inj {ld : List Bool} {j k : Nat} (hj : ld[j]? = some true) (hk : ld[k]? = some true) (e : plc ld j = plc ld k) : j = k := by
 have lj := (List.getElem?_eq_some_iff.1 hj).1
 have lk := (List.getElem?_eq_some_iff.1 hk).1
 rcases Nat.lt_trichotomy j k with h | h | h
 ·have := plc_mono (ld := ld) (show j + 1 ≤ k by omega) (by omega)
  rw [plc_succ hj] at this
  omega
 ·exact h
 ·have := plc_mono (ld := ld) (show k + 1 ≤ j by omega) (by omega)
  rw [plc_succ hk] at this
  omega
theorem kept_len : ∀ {ld : List Bool} {b : List Ins}, ld.length = b.length → (kept ld b).length = plc ld ld.length
 | [], [], _ => rfl
 | true :: l, x :: b, h => by show (kept l b).length + 1 = plc l l.length + 1; rw [kept_len (by simpa using h)]
 | false :: l, x :: b, h => by show (kept l b).length = plc l l.length; rw [kept_len (by simpa using h)]
def mv (f : Nat → Nat) (i : Ins) : Ins := if isJ i = true then ⟨i.op, f i.a.toNat, i.b⟩ else i
theorem mv_op (f : Nat → Nat) (i : Ins) : (mv f i).op = i.op := by unfold mv; split <;> rfl
theorem mv_b (f : Nat → Nat) (i : Ins) : (mv f i).b = i.b := by unfold mv; split <;> rfl
theorem mv_J {f : Nat → Nat} {i : Ins} (h : isJ i = true) : mv f i = ⟨i.op, f i.a.toNat, i.b⟩ := by unfold mv; rw [if_pos h]
theorem mv_no {f : Nat → Nat} {i : Ins} (h : ¬ isJ i = true) : mv f i = i := by unfold mv; rw [if_neg h]
theorem mv_takes (ps : List Pc) (f : Nat → Nat) (i : Ins) : takesP ps (mv f i) = takesP ps i := by
 by_cases h : isJ i = true
 ·rw [takes_J (i := mv f i) (by rw [isJ_op (mv_op f i)]; exact h), mv_op, takes_J h]
 ·rw [mv_no h]
theorem mv_leaves (f : Nat → Nat) (i : Ins) : leavesP (mv f i) = leavesP i := by unfold leavesP; rw [mv_op]
def rchd (b : List Ins) : List Ins := (kept (ledOf b) b).map (mv (plc (ledOf b)))
theorem rchd_rch {ps : List Pc} {b : List Ins} {ld : List Bool} (hw : ∀ k, ld[k]? = some true ↔ Way b k) {k : Nat} {h : Int} (r : Rch ps ((kept ld b).map (mv (plc ld))) k h) : ∃ j, ld[j]? = some true ∧ plc ld j = k ∧ Rch ps b j h := by
 induction r with
 | start => exact ⟨0, (hw 0).2 .start, plc0 ld, .start⟩
 | @step k h i' t r hi ht ih =>
  obtain ⟨j, hj, hjk, rj⟩ := ih
  rw [List.getElem?_map] at hi
  cases hb : (kept ld b)[k]? with
  | none => rw [hb] at hi; cases hi
  | some i =>
   rw [hb] at hi
   obtain rfl : mv (plc ld) i = i' := Option.some.inj hi
   obtain ⟨j', h1, h2, h3⟩ := kept_inv hb
   obtain rfl : j = j' := plc_inj hj h1 (hjk.trans h3.symm)
   rw [mv_takes, mv_leaves]
   have st : ∀ u, u ∈ goOn j i → plc ld u = t → ∃ j, ld[j]? = some true ∧ plc ld j = t ∧ Rch ps b j (h - takesP ps i + leavesP i) := fun u hu e =>
    ⟨u, (hw u).2 (.step ((hw j).1 hj) h2 hu), e, .step rj h2 hu⟩
   by_cases hJ : isJ i = true
   ·rw [mv_J hJ] at ht
    rcases isJ_iff.1 hJ with h14 | h15
    ·rw [goOn_14 (i := ⟨i.op, (plc ld i.a.toNat : Nat), i.b⟩) h14] at ht
     exact st i.a.toNat (by rw [goOn_14 h14]; simp) (show t = plc ld i.a.toNat by simpa using ht).symm
    ·rw [goOn_15 (i := ⟨i.op, (plc ld i.a.toNat : Nat), i.b⟩) h15] at ht
     rcases (show t = k + 1 ∨ t = plc ld i.a.toNat by simpa using ht) with rfl | rfl
     ·exact st (j + 1) (by rw [goOn_15 h15]; simp) (by rw [plc_succ hj, hjk])
     ·exact st i.a.toNat (by rw [goOn_15 h15]; simp) rfl
   ·rw [mv_no hJ] at ht
    by_cases h17 : i.op = 17
    ·rw [goOn_17 h17] at ht; simp at ht
    ·rw [goOn_else hJ h17] at ht
     obtain rfl : t = k + 1 := by simpa using ht
     exact st (j + 1) (by rw [goOn_else hJ h17]; simp) (by rw [plc_succ hj, hjk])
theorem Fb.ways {np nn : Nat} {lo : Int} {ps : List Pc} {b : List Ins} (F : Fb np nn lo ps b) (k : Nat) (w : Way b k) : k < b.length := by
 obtain ⟨h, r⟩ := w.rch (ps := ps)
 exact (F.gd k h r).1
theorem rchd_all {b : List Ins} {ld : List Bool} (hl : ld.length = b.length) (hw : ∀ k, ld[k]? = some true ↔ Way b k) (k : Nat) (w : Way b k) : Way ((kept ld b).map (mv (plc ld))) (plc ld k) := by
 induction w with
 | start => rw [plc0]; exact .start
 | @step k i t w hi ht ih =>
  have hk := (hw k).2 w
  have hg : ((kept ld b).map (mv (plc ld)))[plc ld k]? = some (mv (plc ld) i) := by rw [List.getElem?_map, kept_get hk hi]; rfl
  refine .step ih hg ?_
  by_cases hJ : isJ i = true
  ·rw [mv_J hJ]
   rcases isJ_iff.1 hJ with h14 | h15
   ·rw [goOn_14 h14] at ht
    rw [goOn_14 (i := ⟨i.op, (plc ld i.a.toNat : Nat), i.b⟩) h14]
    obtain rfl : t = i.a.toNat := by simpa using ht
    simp
   ·rw [goOn_15 h15] at ht
    rw [goOn_15 (i := ⟨i.op, (plc ld i.a.toNat : Nat), i.b⟩) h15]
    rcases (show t = k + 1 ∨ t = i.a.toNat by simpa using ht) with rfl | rfl
    ·rw [plc_succ hk]; simp
    ·simp
  ·rw [mv_no hJ]
   by_cases h17 : i.op = 17
   ·rw [goOn_17 h17] at ht; simp at ht
   ·rw [goOn_else hJ h17] at ht ⊢
    obtain rfl : t = k + 1 := by simpa using ht
    rw [plc_succ hk]; simp
theorem rchd_fb {np nn : Nat} {lo : Int} {ps : List Pc} {b : List Ins} (F : Fb np nn lo ps b) : Fb np nn lo ps (rchd b) ∧ ∀ k, k < (rchd b).length → Way (rchd b) k := by
 obtain ⟨hl, hw⟩ := ledOf_way F.ways
 have cl : (rchd b).length = (kept (ledOf b) b).length := by simp [rchd]
 have wl : ∀ k, Way b k → plc (ledOf b) k < (kept (ledOf b) b).length := fun k w => by
  obtain ⟨i, hi⟩ : ∃ i, b[k]? = some i := ⟨_, List.getElem?_eq_getElem (F.ways k w)⟩
  exact (List.getElem?_eq_some_iff.1 (kept_get ((hw k).2 w) hi)).1
 refine ⟨⟨fun i' hi => ?_, fun k h r => ?_⟩, fun k hk => ?_⟩
 ·obtain ⟨i, hi2, rfl⟩ := List.mem_map.1 hi
  obtain ⟨k, hk⟩ := List.mem_iff_getElem?.1 hi2
  obtain ⟨j, h1, h2, h3⟩ := kept_inv hk
  have hf := F.fm i (List.mem_of_getElem? h2)
  rw [cl]
  by_cases hJ : isJ i = true
  ·refine (fi_jump (by rw [isJ_op (mv_op _ i)]; exact hJ)).2 ⟨?_, by rw [mv_b]; exact ((fi_jump hJ).1 hf).2⟩
   rw [mv_J hJ]
   have w : Way b i.a.toNat := .step ((hw j).1 h1) h2 (by
    rcases isJ_iff.1 hJ with h | h
    ·rw [goOn_14 h]; simp
    ·rw [goOn_15 h]; simp)
   have := wl _ w
   show 0 ≤ ((plc (ledOf b) i.a.toNat : Nat) : Int) ∧ ((plc (ledOf b) i.a.toNat : Nat) : Int) < _
   omega
  ·rw [mv_no hJ, fi_other (nb' := b.length) hJ]
   exact hf
 ·obtain ⟨j, h1, rfl, rj⟩ := rchd_rch hw r
  obtain ⟨g1, g2, g3, g4⟩ := F.gd j h rj
  refine ⟨by rw [cl]; exact wl j ((hw j).1 h1), g2, fun h' r' => ?_, fun i' hi => ?_⟩
  ·obtain ⟨j', h1', e, rj'⟩ := rchd_rch hw r'
   obtain rfl := plc_inj h1' h1 e
   exact g3 h' rj'
  ·obtain ⟨i, hi'⟩ : ∃ i, b[j]? = some i := ⟨_, List.getElem?_eq_getElem g1⟩
   have : (rchd b)[plc (ledOf b) j]? = some (mv (plc (ledOf b)) i) := by rw [rchd, List.getElem?_map, kept_get h1 hi']; rfl
   rw [this] at hi
   obtain rfl := Option.some.inj hi
   rw [mv_takes, mv_op]
   exact g4 i hi'
 ·rw [cl] at hk
  obtain ⟨i, hi⟩ : ∃ i, (kept (ledOf b) b)[k]? = some i := ⟨_, List.getElem?_eq_getElem hk⟩
  obtain ⟨j, h1, h2, rfl⟩ := kept_inv hi
  exact rchd_all hl hw j ((hw j).1 h1)
theorem plc_le : ∀ (ld : List Bool) (k : Nat), plc ld k ≤ k
 | ld, 0 => Nat.le_of_eq (plc0 ld)
 | [], _ + 1 => Nat.zero_le _
 | true :: r, k + 1 => Nat.succ_le_succ (plc_le r k)
 | false :: r, k + 1 => Nat.le_succ_of_le (plc_le r k)
theorem all_true : ∀ {ld : List Bool}, plc ld ld.length = ld.length → ∀ k, k ≤ ld.length → plc ld k = k
 | ld, _, 0, _ => plc0 ld
 | [], _, k + 1, h => by simp at h
 | true :: r, h, k + 1, hk => by
  have := all_true (ld := r) (by have : plc r r.length + 1 = r.length + 1 := h; omega) k (by simpa using hk)
  show plc r k + 1 = k + 1
  rw [this]
 | false :: r, h, k + 1, hk => by
  have h : plc r r.length = r.length + 1 := h
  have := plc_le r r.length
  omega
theorem kept_all : ∀ {ld : List Bool} {b : List Ins}, ld.length = b.length → plc ld ld.length = ld.length → kept ld b = b
 | [], [], _, _ => rfl
 | true :: l, x :: b, h, h' => by
  show x :: kept l b = x :: b
  rw [kept_all (by simpa using h) (by have : plc l l.length + 1 = l.length + 1 := h'; omega)]
 | false :: l, x :: b, h, h' => by
  have h' : plc l l.length = l.length + 1 := h'
  have := plc_le l l.length
  omega
theorem rchd_len {np nn : Nat} {lo : Int} {ps : List Pc} {b : List Ins} (F : Fb np nn lo ps b) : (rchd b).length ≤ b.length := by
 obtain ⟨hl, hw⟩ := ledOf_way F.ways
 rw [rchd, List.length_map, kept_len hl]
 have := plc_le (ledOf b) (ledOf b).length
 omega
theorem rchd_same {np nn : Nat} {lo : Int} {ps : List Pc} {b : List Ins} (F : Fb np nn lo ps b) (h : (rchd b).length = b.length) : rchd b = b := by
 obtain ⟨hl, hw⟩ := ledOf_way F.ways
 rw [rchd, List.length_map, kept_len hl, ← hl] at h
 rw [rchd, kept_all hl h]
 refine (List.map_congr_left fun i hi => ?_).trans (List.map_id _)
 show mv _ i = i
 by_cases hJ : isJ i = true
 ·obtain ⟨a0, a1⟩ := F.lds i hi hJ
  rw [mv_J hJ, all_true h _ (by omega), Int.toNat_of_nonneg a0]
 ·rw [mv_no hJ]
end Go.Proofs.YtemjajljpoaioaaDoor
