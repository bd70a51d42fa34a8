import Derived.Test.YtemjajljpoaioaaDoorYB
namespace Go.Proofs.YtemjajljpoaioaaDoor
open Go.RowKit
set_option linter.unusedVariables false
set_option linter.unusedSimpArgs false
set_option maxRecDepth 20000
set_option maxHeartbeats 8000000
def mx : Int := 1099511627775
def numP (n : Int) : Option Int := if n < 0 ∨ mx < n then none else some n
def tr (b : Bool) : Int := if b then 1 else 0
def two (op a b : Int) : Option Int :=
 if op = 5 then numP (a + b) else if op = 6 then numP (a - b)
 else if op = 7 then (if a ≠ 0 ∧ mx.tdiv a < b then none else some (a * b))
 else if op = 10 then some (tr (decide (a = b))) else if op = 11 then some (tr (decide (a < b))) else if op = 12 then some (tr (decide (b < a)))
 else if op = 8 then (if b = 0 then none else some (a.tdiv b)) else if op = 9 then (if b = 0 then none else some (a.tmod b)) else none
theorem two_ops {op a b n : Int} (h : two op a b = some n) : 5 ≤ op ∧ op ≤ 12 := by
 by_cases c : 5 ≤ op ∧ op ≤ 12
 ·exact c
 ·unfold two at h
  rw [if_neg (by omega), if_neg (by omega), if_neg (by omega), if_neg (by omega), if_neg (by omega), if_neg (by omega), if_neg (by omega), if_neg (by omega)] at h
  cases h
theorem tr_in (b : Bool) : 0 ≤ tr b ∧ tr b ≤ mx := by cases b <;> decide
theorem two_in {op a b n : Int} (ha : 0 ≤ a ∧ a ≤ mx) (hb : 0 ≤ b ∧ b ≤ mx) (h : two op a b = some n) : 0 ≤ n ∧ n ≤ mx := by
 unfold two at h
 have nm : ∀ {m : Int}, numP m = some n → 0 ≤ n ∧ n ≤ mx := fun {m} h => by
  unfold numP at h
  split at h
  ·cases h
  ·cases h; omega
 split at h
 ·exact nm h
 split at h
 ·exact nm h
 split at h
 ·split at h
  ·cases h
  ·rename_i q
   cases h
   refine ⟨Int.mul_nonneg ha.1 hb.1, ?_⟩
   by_cases e : a = 0
   ·rw [e, Int.zero_mul]; decide
   ·have h1 : b ≤ mx.tdiv a := by
     have : ¬ mx.tdiv a < b := fun x => q ⟨e, x⟩
     omega
    have h2 : a * b ≤ a * mx.tdiv a := Int.mul_le_mul_of_nonneg_left h1 ha.1
    have h3 : a * mx.tdiv a ≤ mx := by
     have := Int.mul_tdiv_add_tmod mx a
     have := Int.tmod_nonneg a (show 0 ≤ mx by decide)
     omega
    omega
 split at h
 ·cases h; exact tr_in _
 split at h
 ·cases h; exact tr_in _
 split at h
 ·cases h; exact tr_in _
 split at h
 ·split at h
  ·cases h
  ·cases h
   refine ⟨Int.tdiv_nonneg ha.1 hb.1, Int.le_trans (Int.tdiv_le_self _ ha.1) ha.2⟩
 split at h
 ·split at h
  ·cases h
  ·cases h
   refine ⟨Int.tmod_nonneg _ ha.1, ?_⟩
   have h1 := Int.mul_tdiv_add_tmod a b
   have h2 : 0 ≤ b * a.tdiv b := Int.mul_nonneg hb.1 (Int.tdiv_nonneg ha.1 hb.1)
   omega
 ·cases h
def noI : Ins := ⟨0, 0, 0⟩
def idle (i : Ins) : Bool := decide (i.op = 1 ∨ i.op = 3 ∨ i.op = 22 ∨ i.op = 24)
def lastP (pb : List Ins) (ld : List Bool) (m : Nat) : Ins :=
 if pb.length < m then noI else if ((ld.drop (pb.length - m + 1)).take m).contains true = true then noI else pb.getD (pb.length - m) noI
def opP (pb : List Ins) (ld : List Bool) (i : Ins) : List Ins :=
 match two i.op (lastP pb ld 2).a (lastP pb ld 1).a with
 | some n => if (lastP pb ld 2).op = 1 ∧ (lastP pb ld 1).op = 1 then pb.take (pb.length - 2) ++ [⟨1, n, 0⟩] else pb ++ [i]
 | none => pb ++ [i]
def takeP (pb : List Ins) (ld : List Bool) (i : Ins) : List Ins :=
 if i.op = 2 ∧ idle (lastP pb ld 1) = true then pb.take (pb.length - 1)
 else if i.op = 13 ∧ (lastP pb ld 1).op = 1 then pb.take (pb.length - 1) ++ [⟨1, tr (decide ((lastP pb ld 1).a = 0)), 0⟩]
 else if i.op = 15 ∧ (lastP pb ld 1).op = 1 then (if (lastP pb ld 1).a = 0 then pb.take (pb.length - 1) ++ [⟨14, i.a, 0⟩] else pb.take (pb.length - 1))
 else opP pb ld i
def ldN (jt : List Bool) (k : Nat) (pb : List Ins) (ld : List Bool) : List Bool := if jt.getD k false = true then ld.set pb.length true else ld
def pbN (k : Nat) (pb : List Ins) (ld : List Bool) (i : Ins) : List Ins := if i.op = 14 ∧ i.a = k + 1 then pb else takeP pb ld i
def pGo (jt : List Bool) : List Ins → Nat → List Ins → List Bool → List Nat → List Ins × List Nat
 | [], _, pb, _, pl => (pb, pl)
 | i :: r, k, pb, ld, pl => pGo jt r (k + 1) (pbN k pb (ldN jt k pb ld) i) (ldN jt k pb ld) (pl ++ [pb.length])
def jSet (l : List Bool) (i : Ins) : List Bool := if isJ i = true then l.set i.a.toNat true else l
def jmpd (b : List Ins) : List Bool := b.foldl jSet (List.replicate b.length false)
def prsd (b : List Ins) : List Ins :=
 (pGo (jmpd b) b 0 [] (List.replicate (b.length + 1) false) []).1.map (mv fun k => (pGo (jmpd b) b 0 [] (List.replicate (b.length + 1) false) []).2.getD k 0)
theorem jSet_len (l : List Bool) (i : Ins) : (jSet l i).length = l.length := by unfold jSet; split <;> simp
theorem jFold_len : ∀ (b : List Ins) (l : List Bool), (b.foldl jSet l).length = l.length
 | [], _ => rfl
 | i :: b, l => by rw [List.foldl_cons, jFold_len b, jSet_len]
theorem jmpd_len (b : List Ins) : (jmpd b).length = b.length := by rw [jmpd, jFold_len]; simp
theorem jSet_get {l : List Bool} {i : Ins} {k : Nat} (hk : k < l.length) : (jSet l i)[k]? = some true ↔ l[k]? = some true ∨ (isJ i = true ∧ i.a.toNat = k) := by
 unfold jSet
 split
 ·rename_i h
  by_cases e : i.a.toNat = k
  ·rw [e, List.getElem?_set_self hk]; simp [h]
  ·rw [List.getElem?_set_ne e]; simp [e]
 ·rename_i h
  simp [h]
theorem jFold_get : ∀ (b : List Ins) (l : List Bool) {k : Nat}, k < l.length → ((b.foldl jSet l)[k]? = some true ↔ l[k]? = some true ∨ ∃ i ∈ b, isJ i = true ∧ i.a.toNat = k)
 | [], _, _, _ => by simp
 | i :: b, l, k, hk => by
  rw [List.foldl_cons, jFold_get b _ (by rw [jSet_len]; exact hk), jSet_get hk]
  constructor
  ·rintro ((h | h) | ⟨j, h1, h2⟩)
   ·exact .inl h
   ·exact .inr ⟨i, by simp, h⟩
   ·exact .inr ⟨j, by simp [h1], h2⟩
  ·rintro (h | ⟨j, h1, h2⟩)
   ·exact .inl (.inl h)
   ·rcases List.mem_cons.1 h1 with rfl | h1
    ·exact .inl (.inr h2)
    ·exact .inr ⟨j, h1, h2⟩
theorem jmpd_get {b : List Ins} {k : Nat} (hk : k < b.length) : (jmpd b)[k]? = some true ↔ ∃ i ∈ b, isJ i = true ∧ i.a.toNat = k := by
 rw [jmpd, jFold_get b _ (by simpa using hk)]
 constructor
 ·rintro (h | h)
  ·rw [List.getElem?_replicate] at h
   split at h <;> cases h
  ·exact h
 ·exact .inr
theorem lastP_one {pb : List Ins} {ld : List Bool} {o : Int} (h : (lastP pb ld 1).op = o) (ho : o ≠ 0) : ∃ p u, pb = p ++ [u] ∧ lastP pb ld 1 = u ∧ ld[pb.length]? ≠ some true := by
 unfold lastP at h ⊢
 split at h
 ·exact absurd h.symm ho
 ·rename_i h1
  split at h
  ·exact absurd h.symm ho
  ·rename_i h2
   rcases last_cases pb with rfl | ⟨p, u, rfl⟩
   ·simp at h1
   ·refine ⟨p, u, rfl, ?_, fun q => h2 ?_⟩
    ·rw [if_neg h1, if_neg h2, List.getD_eq_getElem?_getD, List.length_append]
     simp
    ·rw [List.length_append] at q ⊢
     have q : ld[p.length + 1]? = some true := q
     have hl := (List.getElem?_eq_some_iff.1 q).1
     rw [show p.length + [u].length - 1 + 1 = p.length + 1 by simp, List.drop_eq_getElem_cons hl]
     have := (List.getElem?_eq_some_iff.1 q).2
     simp [this]
theorem lastP_two {pb : List Ins} {ld : List Bool} {o : Int} (h : (lastP pb ld 2).op = o) (ho : o ≠ 0) : ∃ p l u, pb = p ++ [l, u] ∧ lastP pb ld 2 = l ∧ ld[p.length + 1]? ≠ some true ∧ ld[p.length + 2]? ≠ some true := by
 unfold lastP at h ⊢
 split at h
 ·exact absurd h.symm ho
 ·rename_i h1
  split at h
  ·exact absurd h.symm ho
  ·rename_i h2
   rcases last_cases pb with rfl | ⟨p, u, rfl⟩
   ·simp at h1
   ·rcases last_cases p with rfl | ⟨p, l, rfl⟩
    ·simp at h1
    ·have e : (p ++ [l] ++ [u]).length - 2 = p.length := by simp
     have no : ∀ j, j = 1 ∨ j = 2 → ld[p.length + j]? ≠ some true := fun j hj q => h2 (by
      rw [e]
      refine List.elem_iff.2 (List.mem_of_getElem? (i := j - 1) ?_)
      rw [List.getElem?_take_of_lt (by omega), List.getElem?_drop, show p.length + 1 + (j - 1) = p.length + j by omega]
      exact q)
     refine ⟨p, l, u, by simp, ?_, no 1 (.inl rfl), no 2 (.inr rfl)⟩
     rw [if_neg h1, if_neg h2, e, List.getD_eq_getElem?_getD]
     simp
structure PC (np nn nb : Nat) (lo : Int) (ps : List Pc) (jt : List Bool) (h : Nat → Int) (pb : List Ins) (ld : List Bool) (pl : List Nat) (H : List Int) : Prop where
 hl : H.length = pb.length + 1
 le : ∀ (j : Nat) v, H[j]? = some v → 0 ≤ v ∧ v ≤ 64
 zero : H[0]? = some 0
 fl : ∀ (j : Nat) i v, pb[j]? = some i → H[j]? = some v → takesP ps i ≤ v ∧ (i.op = 17 → v = 1) ∧ (i.op ≠ 14 → i.op ≠ 17 → H[j + 1]? = some (v - takesP ps i + leavesP i)) ∧ (isJ i = true → jt[i.a.toNat]? = some true ∧ h i.a.toNat = v - takesP ps i + leavesP i)
 pls : ∀ (j p : Nat), pl[j]? = some p → jt[j]? = some true → ld[p]? = some true ∧ H[p]? = some (h j) ∧ p ≤ pb.length
 fm : ∀ i ∈ pb, fiB np nn nb lo i = true
section
variable {np nn nb : Nat} {lo : Int} {ps : List Pc} {jt : List Bool} {h : Nat → Int} {ld : List Bool} {pl : List Nat}
theorem PC.drop {p : List Ins} {u : Ins} {H : List Int} {z : Int} (C : PC np nn nb lo ps jt h (p ++ [u]) ld pl H) (hz : H[(p ++ [u]).length]? = some z) (hn : ld[(p ++ [u]).length]? ≠ some true) : ∃ v, H[p.length]? = some v ∧ PC np nn nb lo ps jt h p ld pl (H.take (p.length + 1)) ∧ (H.take (p.length + 1))[p.length]? = some v ∧ (u.op ≠ 14 → u.op ≠ 17 → z = v - takesP ps u + leavesP u) := by
 have hl := C.hl
 rw [List.length_append] at hl hz hn
 simp only [List.length_cons, List.length_nil, Nat.zero_add] at hl hz hn
 obtain ⟨v, hv⟩ : ∃ v, H[p.length]? = some v := ⟨_, List.getElem?_eq_getElem (by omega)⟩
 have tk : ∀ {j : Nat}, j < p.length + 1 → (H.take (p.length + 1))[j]? = H[j]? := fun {j} hj => List.getElem?_take_of_lt hj
 have un : ∀ {j : Nat} {x}, (H.take (p.length + 1))[j]? = some x → H[j]? = some x ∧ j < p.length + 1 := fun {j x} q => by
  have : j < p.length + 1 := by
   have := (List.getElem?_eq_some_iff.1 q).1
   rw [List.length_take] at this
   omega
  rw [tk this] at q
  exact ⟨q, this⟩
 refine ⟨v, hv, ⟨by rw [List.length_take]; omega, fun j x q => C.le j x (un q).1, by rw [tk (by omega)]; exact C.zero, fun j i x q1 q2 => ?_, fun j q q1 q2 => ?_, fun i hi => C.fm i (List.mem_append_left _ hi)⟩, by rw [tk (by omega)]; exact hv, fun h14 h17 => ?_⟩
 ·have hj := (List.getElem?_eq_some_iff.1 q1).1
  obtain ⟨a1, a2, a3, a4⟩ := C.fl j i x (by rw [List.getElem?_append_left hj]; exact q1) (un q2).1
  exact ⟨a1, a2, fun c d => by rw [tk (by omega)]; exact a3 c d, a4⟩
 ·obtain ⟨a1, a2, a3⟩ := C.pls j q q1 q2
  rw [List.length_append] at a3
  simp only [List.length_cons, List.length_nil, Nat.zero_add] at a3
  have : q ≠ p.length + 1 := fun e => hn (by rw [← e]; exact a1)
  exact ⟨a1, by rw [tk (by omega)]; exact a2, by omega⟩
 ·have := (C.fl p.length u v (by simp) hv).2.2.1 h14 h17
  rw [hz] at this
  exact Option.some.inj this
theorem PC.put {pb : List Ins} {i : Ins} {H : List Int} {v v' : Int} (C : PC np nn nb lo ps jt h pb ld pl H) (hv : H[pb.length]? = some v) (hv' : 0 ≤ v' ∧ v' ≤ 64) (h1 : takesP ps i ≤ v) (h2 : i.op = 17 → v = 1) (h3 : i.op ≠ 14 → i.op ≠ 17 → v' = v - takesP ps i + leavesP i) (h4 : isJ i = true → jt[i.a.toNat]? = some true ∧ h i.a.toNat = v - takesP ps i + leavesP i) (hf : fiB np nn nb lo i = true) : PC np nn nb lo ps jt h (pb ++ [i]) ld pl (H ++ [v']) ∧ (H ++ [v'])[(pb ++ [i]).length]? = some v' := by
 have hl := C.hl
 have lt : ∀ {j : Nat}, j < pb.length + 1 → (H ++ [v'])[j]? = H[j]? := fun {j} hj => List.getElem?_append_left (by omega)
 have nw : (H ++ [v'])[pb.length + 1]? = some v' := by rw [List.getElem?_append_right (by omega), hl]; simp
 refine ⟨⟨by simp [hl], fun j x q => ?_, by rw [lt (by omega)]; exact C.zero, fun j x y q1 q2 => ?_, fun j q q1 q2 => ?_, fun x hx => ?_⟩, by rw [List.length_append]; exact nw⟩
 ·by_cases hj : j < pb.length + 1
  ·rw [lt hj] at q; exact C.le j x q
  ·have : j < (H ++ [v']).length := (List.getElem?_eq_some_iff.1 q).1
   rw [List.length_append, hl] at this
   simp only [List.length_cons, List.length_nil, Nat.zero_add] at this
   obtain rfl : j = pb.length + 1 := by omega
   rw [nw] at q
   cases q
   exact hv'
 ·by_cases hj : j < pb.length
  ·rw [List.getElem?_append_left hj] at q1
   rw [lt (by omega)] at q2
   obtain ⟨a1, a2, a3, a4⟩ := C.fl j x y q1 q2
   exact ⟨a1, a2, fun c d => by rw [lt (by omega)]; exact a3 c d, a4⟩
  ·have : j < (pb ++ [i]).length := (List.getElem?_eq_some_iff.1 q1).1
   rw [List.length_append] at this
   simp only [List.length_cons, List.length_nil, Nat.zero_add] at this
   obtain rfl : j = pb.length := by omega
   rw [List.getElem?_append_right (Nat.le_refl _), Nat.sub_self] at q1
   obtain rfl : i = x := Option.some.inj q1
   rw [lt (by omega), hv] at q2
   obtain rfl : v = y := Option.some.inj q2
   exact ⟨h1, h2, fun c d => by rw [nw, h3 c d], h4⟩
 ·obtain ⟨a1, a2, a3⟩ := C.pls j q q1 q2
  exact ⟨a1, by rw [lt (by omega)]; exact a2, by rw [List.length_append]; omega⟩
 ·rcases List.mem_append.1 hx with hx | hx
  ·exact C.fm x hx
  ·obtain rfl : x = i := by simpa using hx
   exact hf
end
end Go.Proofs.YtemjajljpoaioaaDoor
