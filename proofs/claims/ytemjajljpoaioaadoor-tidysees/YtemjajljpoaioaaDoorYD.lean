import Derived.Test.YtemjajljpoaioaaDoorYC
namespace Go.Proofs.YtemjajljpoaioaaDoor
open Go.RowKit
set_option linter.unusedVariables false
set_option linter.unusedSimpArgs false
set_option maxRecDepth 20000
set_option maxHeartbeats 8000000
theorem fi_push {np nn nb : Nat} {lo n : Int} : fiB np nn nb lo ⟨1, n, 0⟩ = true ↔ 0 ≤ n ∧ n ≤ mx := by
 simp [fiB, isI, show (1 : Int).toNat = 1 from rfl, show ka 1 = 1 from rfl, endA, endB, mx]
 omega
theorem fi_push' {np nn nb : Nat} {lo : Int} {i : Ins} (h1 : i.op = 1) (h : fiB np nn nb lo i = true) : 0 ≤ i.a ∧ i.a ≤ mx := by
 obtain ⟨op, a, b⟩ := i
 simp only at h1
 subst h1
 simp [fiB, isI, show (1 : Int).toNat = 1 from rfl, show ka 1 = 1 from rfl, endA, endB] at h
 unfold mx
 show 0 ≤ a ∧ a ≤ _
 omega
theorem tl_idle {ps : List Pc} {i : Ins} (h : idle i = true) : takesP ps i = 0 ∧ leavesP i = 1 ∧ i.op ≠ 14 ∧ i.op ≠ 17 := by
 obtain ⟨op, a, b⟩ := i
 have h : op = 1 ∨ op = 3 ∨ op = 22 ∨ op = 24 := by simpa [idle] using h
 rcases h with rfl | rfl | rfl | rfl <;> exact ⟨rfl, rfl, (by simp), (by simp)⟩
theorem tl_push {ps : List Pc} {i : Ins} (h : i.op = 1) : takesP ps i = 0 ∧ leavesP i = 1 ∧ i.op ≠ 14 ∧ i.op ≠ 17 := tl_idle (by simp [idle, h])
theorem tl_op {ps : List Pc} {i : Ins} (h : 5 ≤ i.op ∧ i.op ≤ 12) : takesP ps i = 2 ∧ leavesP i = 1 := by
 obtain ⟨op, a, b⟩ := i
 have h : op = 5 ∨ op = 6 ∨ op = 7 ∨ op = 8 ∨ op = 9 ∨ op = 10 ∨ op = 11 ∨ op = 12 := by simp only at h; omega
 rcases h with rfl | rfl | rfl | rfl | rfl | rfl | rfl | rfl <;> exact ⟨rfl, rfl⟩
theorem tl_2 {ps : List Pc} {i : Ins} (h : i.op = 2) : takesP ps i = 1 ∧ leavesP i = 0 := by
 obtain ⟨op, a, b⟩ := i; simp only at h; subst h; exact ⟨rfl, rfl⟩
theorem tl_13 {ps : List Pc} {i : Ins} (h : i.op = 13) : takesP ps i = 1 ∧ leavesP i = 1 := by
 obtain ⟨op, a, b⟩ := i; simp only at h; subst h; exact ⟨rfl, rfl⟩
theorem takes_low {np nn nb : Nat} {lo : Int} {ps : List Pc} {i : Ins} (hp : ∀ q ∈ ps, 0 ≤ q.pa) (h : fiB np nn nb lo i = true) : 0 ≤ takesP ps i := by
 have tk0 : ∀ n, n < 31 → 0 ≤ tkC n := by decide
 unfold fiB at h
 simp only [Bool.and_eq_true, decide_eq_true_eq] at h
 have h0 := tk0 _ (isI_nat h.1).2
 unfold takesP
 split
 ·have : 0 ≤ paramsAt ps i.a := by
   unfold paramsAt
   rw [List.getD_eq_getElem?_getD]
   cases e : ps[i.a.toNat]? with
   | none => exact Int.le_refl _
   | some q => exact hp q (List.mem_of_getElem? e)
  omega
 ·split <;> omega
structure PX (np nn : Nat) (lo : Int) (ps : List Pc) (x : List Ins) (h : Nat → Int) : Prop where
 fb : Fb np nn lo ps x
 hp : ∀ q ∈ ps, 0 ≤ q.pa
 hr : ∀ k, k < x.length → Rch ps x k (h k)
 ho : ∀ k, x.length ≤ k → h k = 0
theorem px_of {np nn : Nat} {lo : Int} {ps : List Pc} {x : List Ins} (F : Fb np nn lo ps x) (hp : ∀ q ∈ ps, 0 ≤ q.pa) (hw : ∀ k, k < x.length → Way x k) : ∃ h, PX np nn lo ps x h := by
 have key : ∀ k, ∃ v : Int, (k < x.length → Rch ps x k v) ∧ (x.length ≤ k → v = 0) := fun k => by
  by_cases q : k < x.length
  ·obtain ⟨v, r⟩ := (hw k q).rch (ps := ps)
   exact ⟨v, fun _ => r, fun _ => by omega⟩
  ·exact ⟨0, fun _ => absurd ‹_› q, fun _ => rfl⟩
 exact ⟨fun k => (key k).choose, F, hp, fun k => (key k).choose_spec.1, fun k => (key k).choose_spec.2⟩
section
variable {np nn : Nat} {lo : Int} {ps : List Pc} {x : List Ins} {h : Nat → Int}
theorem PX.low (X : PX np nn lo ps x h) (k : Nat) : 0 ≤ h k ∧ h k ≤ 64 := by
 by_cases q : k < x.length
 ·obtain ⟨_, g2, _, g4⟩ := X.fb.gd k _ (X.hr k q)
  obtain ⟨i, hi⟩ : ∃ i, x[k]? = some i := ⟨_, List.getElem?_eq_getElem q⟩
  have := takes_low X.hp (X.fb.fm i (List.mem_of_getElem? hi))
  have := (g4 i hi).1
  omega
 ·rw [X.ho k (by omega)]; decide
theorem PX.at_ (X : PX np nn lo ps x h) {k : Nat} {i : Ins} (hi : x[k]? = some i) : takesP ps i ≤ h k ∧ (i.op = 17 → h k = 1) :=
 (X.fb.gd k _ (X.hr k (List.getElem?_eq_some_iff.1 hi).1)).2.2.2 i hi
theorem PX.to (X : PX np nn lo ps x h) {k t : Nat} {i : Ins} (hi : x[k]? = some i) (ht : t ∈ goOn k i) : t < x.length ∧ h t = h k - takesP ps i + leavesP i := by
 have r := Rch.step (X.hr k (List.getElem?_eq_some_iff.1 hi).1) hi ht
 obtain ⟨g1, _, g3, _⟩ := X.fb.gd t _ r
 exact ⟨g1, g3 _ (X.hr t g1)⟩
theorem PX.on (X : PX np nn lo ps x h) {k : Nat} {i : Ins} (hi : x[k]? = some i) (h14 : i.op ≠ 14) (h17 : i.op ≠ 17) : k + 1 < x.length ∧ h (k + 1) = h k - takesP ps i + leavesP i := by
 refine X.to hi ?_
 unfold goOn
 rw [if_neg h17, if_neg h14]
 split <;> simp
theorem PX.jump (X : PX np nn lo ps x h) {k : Nat} {i : Ins} (hi : x[k]? = some i) (hj : isJ i = true) : (jmpd x)[i.a.toNat]? = some true ∧ h i.a.toNat = h k - takesP ps i + leavesP i := by
 have hl := (X.fb.lds i (List.mem_of_getElem? hi) hj).2
 refine ⟨(jmpd_get hl).2 ⟨i, List.mem_of_getElem? hi, hj, rfl⟩, (X.to hi ?_).2⟩
 rcases isJ_iff.1 hj with e | e
 ·rw [goOn_14 e]; simp
 ·rw [goOn_15 e]; simp
theorem getD_true {jt : List Bool} {k : Nat} : jt.getD k false = true ↔ jt[k]? = some true := by
 rw [List.getD_eq_getElem?_getD]
 cases jt[k]? with
 | none => simp
 | some v => simp
theorem ldN_len (jt : List Bool) (k : Nat) (pb : List Ins) (ld : List Bool) : (ldN jt k pb ld).length = ld.length := by unfold ldN; split <;> simp
theorem PC.mark {nb : Nat} {jt : List Bool} {pb : List Ins} {ld : List Bool} {pl : List Nat} {H : List Int} {k : Nat} (C : PC np nn nb lo ps jt h pb ld pl H) (hz : H[pb.length]? = some (h k)) (hpl : pl.length = k) (hld : pb.length < ld.length) : PC np nn nb lo ps jt h pb (ldN jt k pb ld) (pl ++ [pb.length]) H := by
 refine ⟨C.hl, C.le, C.zero, C.fl, fun j p q1 q2 => ?_, C.fm⟩
 by_cases hj : j < k
 ·rw [List.getElem?_append_left (by omega)] at q1
  obtain ⟨a1, a2, a3⟩ := C.pls j p q1 q2
  refine ⟨?_, a2, a3⟩
  unfold ldN
  split
  ·by_cases e : pb.length = p
   ·rw [e, List.getElem?_set_self (by omega)]
   ·rw [List.getElem?_set_ne e]; exact a1
  ·exact a1
 ·have hl := (List.getElem?_eq_some_iff.1 q1).1
  rw [List.length_append] at hl
  simp only [List.length_cons, List.length_nil, Nat.zero_add] at hl
  obtain rfl : j = k := by omega
  rw [List.getElem?_append_right (by omega), hpl, Nat.sub_self] at q1
  obtain rfl : pb.length = p := Option.some.inj q1
  refine ⟨?_, hz, Nat.le_refl _⟩
  unfold ldN
  rw [if_pos (getD_true.2 q2), List.getElem?_set_self hld]
theorem take_last (p : List Ins) (u : Ins) : (p ++ [u]).take ((p ++ [u]).length - 1) = p := by simp
theorem take_last2 (p : List Ins) (l u : Ins) : (p ++ [l, u]).take ((p ++ [l, u]).length - 2) = p := by simp
theorem opP_put {pb : List Ins} {ld : List Bool} {i : Ins} (ho : ¬ (5 ≤ i.op ∧ i.op ≤ 12)) : opP pb ld i = pb ++ [i] := by
 unfold opP
 cases e : two i.op (lastP pb ld 2).a (lastP pb ld 1).a with
 | none => rfl
 | some n => exact absurd (two_ops e) ho
theorem PC.take1 (X : PX np nn lo ps x h) {pb : List Ins} {ld : List Bool} {pl : List Nat} {H : List Int} {k : Nat} {i : Ins} (C : PC np nn x.length lo ps (jmpd x) h pb ld pl H) (hz : H[pb.length]? = some (h k)) (hi : x[k]? = some i) : ∃ H', PC np nn x.length lo ps (jmpd x) h (takeP pb ld i) ld pl H' ∧ H'[(takeP pb ld i).length]? = some (h (k + 1)) := by
 have low := X.low (k + 1)
 have put : ∃ H', PC np nn x.length lo ps (jmpd x) h (pb ++ [i]) ld pl H' ∧ H'[(pb ++ [i]).length]? = some (h (k + 1)) :=
  ⟨_, C.put hz low (X.at_ hi).1 (X.at_ hi).2 (fun a b => (X.on hi a b).2) (X.jump hi) (X.fb.fm i (List.mem_of_getElem? hi))⟩
 unfold takeP
 by_cases c1 : i.op = 2 ∧ idle (lastP pb ld 1) = true
 ·rw [if_pos c1]
  have ne : (lastP pb ld 1).op ≠ 0 := fun e => by
   have := c1.2
   unfold idle at this
   rw [e] at this
   simp at this
  obtain ⟨p, u, rfl, e, hn⟩ := lastP_one rfl ne
  have hu := c1.2
  rw [e] at hu
  obtain ⟨v, hv, C2, hv2, ez⟩ := C.drop hz hn
  obtain ⟨t1, t2, t3, t4⟩ := tl_idle (ps := ps) hu
  have ez := ez t3 t4
  have on := (X.on hi (by omega) (by omega)).2
  obtain ⟨s1, s2⟩ := tl_2 (ps := ps) c1.1
  rw [take_last]
  refine ⟨_, C2, ?_⟩
  rw [hv2, on]
  congr 1
  omega
 rw [if_neg c1]
 by_cases c2 : i.op = 13 ∧ (lastP pb ld 1).op = 1
 ·rw [if_pos c2]
  obtain ⟨p, u, rfl, e, hn⟩ := lastP_one c2.2 (by decide)
  have hu := c2.2
  rw [e] at hu ⊢
  obtain ⟨v, hv, C2, hv2, ez⟩ := C.drop hz hn
  obtain ⟨t1, t2, t3, t4⟩ := tl_push (ps := ps) hu
  have ez := ez t3 t4
  have on := (X.on hi (by omega) (by omega)).2
  obtain ⟨s1, s2⟩ := tl_13 (ps := ps) c2.1
  have vl := C2.le _ _ hv2
  rw [take_last]
  have q1 : takesP ps ⟨1, tr (decide (u.a = 0)), 0⟩ = 0 := (tl_push rfl).1
  have q2 : leavesP ⟨1, tr (decide (u.a = 0)), 0⟩ = 1 := (tl_push (ps := ps) rfl).2.1
  exact ⟨_, C2.put hv2 low (by omega) (fun a => absurd a (by show ¬ (1 : Int) = 17; decide)) (fun _ _ => by omega) (fun a => absurd a (by show ¬ false = true; decide)) (fi_push.2 (tr_in _))⟩
 rw [if_neg c2]
 by_cases c3 : i.op = 15 ∧ (lastP pb ld 1).op = 1
 ·rw [if_pos c3]
  obtain ⟨p, u, rfl, e, hn⟩ := lastP_one c3.2 (by decide)
  have hu := c3.2
  rw [e] at hu ⊢
  obtain ⟨v, hv, C2, hv2, ez⟩ := C.drop hz hn
  obtain ⟨t1, t2, t3, t4⟩ := tl_push (ps := ps) hu
  have ez := ez t3 t4
  have hJ : isJ i = true := isJ_iff.2 (.inr c3.1)
  have on := (X.on hi (by omega) (by omega)).2
  have vl := C2.le _ _ hv2
  have s1 : takesP ps i = 1 := by rw [takes_J hJ, if_neg (by omega)]
  have s2 := leaves_J hJ
  rw [take_last]
  by_cases ha : u.a = 0
  ·rw [if_pos ha]
   have hJ' : isJ ⟨14, i.a, 0⟩ = true := rfl
   have q1 : takesP ps ⟨14, i.a, 0⟩ = 0 := takes_J hJ'
   have q2 : leavesP ⟨14, i.a, 0⟩ = 0 := leaves_J hJ'
   have qf := (fi_jump hJ).1 (X.fb.fm i (List.mem_of_getElem? hi))
   obtain ⟨w1, w2⟩ := X.jump hi hJ
   exact ⟨_, C2.put hv2 low (by omega) (fun a => absurd a (by show ¬ (14 : Int) = 17; decide)) (fun a => absurd rfl a) (fun _ => ⟨w1, by show h i.a.toNat = _; omega⟩) ((fi_jump hJ').2 ⟨qf.1, by show (0 : Int) ≤ 0 ∧ (0 : Int) < 1; decide⟩)⟩
  ·rw [if_neg ha]
   refine ⟨_, C2, ?_⟩
   rw [hv2, on]
   congr 1
   omega
 rw [if_neg c3]
 by_cases c4 : ∃ n, two i.op (lastP pb ld 2).a (lastP pb ld 1).a = some n ∧ (lastP pb ld 2).op = 1 ∧ (lastP pb ld 1).op = 1
 ·obtain ⟨n, hn, o2, o1⟩ := c4
  have e : opP pb ld i = pb.take (pb.length - 2) ++ [⟨1, n, 0⟩] := by unfold opP; rw [hn]; simp only [o1, o2, and_self, if_true]
  rw [e]
  obtain ⟨p, l, u, rfl, e2, n1, n2⟩ := lastP_two o2 (by decide)
  obtain ⟨p', u', e3, e1, _⟩ := lastP_one o1 (by decide)
  obtain ⟨rfl, rfl⟩ : p' = p ++ [l] ∧ u = u' := by
   have : p ++ [l] ++ [u] = p' ++ [u'] := by simpa using e3
   have := List.append_inj' this rfl
   exact ⟨this.1.symm, by simpa using this.2⟩
  rw [e1] at o1 hn
  rw [e2] at o2 hn
  have ha1 := fi_push' o2 (C.fm l (by simp))
  have ha2 := fi_push' o1 (C.fm u (by simp))
  have ops := two_ops hn
  have hin := two_in ha1 ha2 hn
  have sp : p ++ [l, u] = p ++ [l] ++ [u] := by simp
  rw [sp] at C hz
  obtain ⟨v1, hv1, C2, hv2, ez⟩ := C.drop hz (by rw [List.length_append, List.length_append]; exact n2)
  obtain ⟨v0, hv0, C3, hv3, ez2⟩ := C2.drop hv2 (by rw [List.length_append]; exact n1)
  obtain ⟨t1, t2, t3, t4⟩ := tl_push (ps := ps) o1
  obtain ⟨r1, r2, r3, r4⟩ := tl_push (ps := ps) o2
  have ez := ez t3 t4
  have ez2 := ez2 r3 r4
  have on := (X.on hi (by omega) (by omega)).2
  obtain ⟨s1, s2⟩ := tl_op (ps := ps) ops
  have vl := C3.le _ _ hv3
  have q1 : takesP ps ⟨1, n, 0⟩ = 0 := (tl_push rfl).1
  have q2 : leavesP ⟨1, n, 0⟩ = 1 := (tl_push (ps := ps) rfl).2.1
  rw [take_last2]
  exact ⟨_, C3.put hv3 low (by omega) (fun a => absurd a (by show ¬ (1 : Int) = 17; decide)) (fun _ _ => by omega) (fun a => absurd a (by show ¬ false = true; decide)) (fi_push.2 hin)⟩
 ·have e : opP pb ld i = pb ++ [i] := by
   unfold opP
   cases hn : two i.op (lastP pb ld 2).a (lastP pb ld 1).a with
   | none => rfl
   | some n => exact if_neg fun q => c4 ⟨n, hn, q.1, q.2⟩
  rw [e]
  exact put
theorem PC.step (X : PX np nn lo ps x h) {pb : List Ins} {ld : List Bool} {pl : List Nat} {H : List Int} {k : Nat} {i : Ins} (C : PC np nn x.length lo ps (jmpd x) h pb ld pl H) (hz : H[pb.length]? = some (h k)) (hi : x[k]? = some i) : ∃ H', PC np nn x.length lo ps (jmpd x) h (pbN k pb ld i) ld pl H' ∧ H'[(pbN k pb ld i).length]? = some (h (k + 1)) := by
 unfold pbN
 by_cases c : i.op = 14 ∧ i.a = k + 1
 ·rw [if_pos c]
  have hJ : isJ i = true := isJ_iff.2 (.inl c.1)
  have w := (X.jump hi hJ).2
  rw [takes_J hJ, leaves_J hJ, if_pos c.1, show i.a.toNat = k + 1 by omega] at w
  exact ⟨H, C, by rw [hz, w]; congr 1; omega⟩
 ·rw [if_neg c]
  exact C.take1 X hz hi
theorem takeP_len (pb : List Ins) (ld : List Bool) (i : Ins) : (takeP pb ld i).length ≤ pb.length + 1 := by
 unfold takeP
 split
 ·rw [List.length_take]; omega
 split
 ·rw [List.length_append, List.length_take]; simp only [List.length_cons, List.length_nil]; omega
 split
 ·split
  ·rw [List.length_append, List.length_take]; simp only [List.length_cons, List.length_nil]; omega
  ·rw [List.length_take]; omega
 unfold opP
 split
 ·split
  ·rw [List.length_append, List.length_take]; simp only [List.length_cons, List.length_nil]; omega
  ·simp
 ·simp
theorem pbN_len (k : Nat) (pb : List Ins) (ld : List Bool) (i : Ins) : (pbN k pb ld i).length ≤ pb.length + 1 := by
 unfold pbN
 split
 ·omega
 ·exact takeP_len pb ld i
theorem pGo_len (jt : List Bool) : ∀ (r : List Ins) (k : Nat) (pb : List Ins) (ld : List Bool) (pl : List Nat), (pGo jt r k pb ld pl).1.length ≤ pb.length + r.length
 | [], _, _, _, _ => Nat.le_refl _
 | i :: r, k, pb, ld, pl => by
  have h1 := pGo_len jt r (k + 1) (pbN k pb (ldN jt k pb ld) i) (ldN jt k pb ld) (pl ++ [pb.length])
  have h2 := pbN_len k pb (ldN jt k pb ld) i
  show (pGo jt r (k + 1) _ _ _).1.length ≤ pb.length + (r.length + 1)
  omega
theorem prsd_len (x : List Ins) : (prsd x).length ≤ x.length := by
 rw [prsd, List.length_map]
 exact Nat.le_trans (pGo_len _ _ _ _ _ _) (by simp)
theorem PX.last (X : PX np nn lo ps x h) {k : Nat} {i : Ins} (hi : x[k]? = some i) (hk : k + 1 = x.length) : (i.op = 14 ∨ i.op = 17) ∧ ∀ pb ld, pbN k pb ld i = pb ++ [i] := by
 have ho : i.op = 14 ∨ i.op = 17 := Classical.byContradiction fun q => by
  have := (X.on hi (fun e => q (.inl e)) (fun e => q (.inr e))).1
  omega
 refine ⟨ho, fun pb ld => ?_⟩
 unfold pbN
 rw [if_neg fun c => by
  have := (X.fb.lds i (List.mem_of_getElem? hi) (isJ_iff.2 (.inl c.1))).2
  omega]
 unfold takeP
 rw [if_neg (by omega), if_neg (by omega), if_neg (by omega), opP_put (by omega)]
theorem pGo_pc (X : PX np nn lo ps x h) : ∀ (r : List Ins) (k : Nat) (pb : List Ins) (ld : List Bool) (pl : List Nat) (H : List Int), x.drop k = r → r ≠ [] → PC np nn x.length lo ps (jmpd x) h pb ld pl H → H[pb.length]? = some (h k) → pl.length = k → pb.length ≤ k → ld.length = x.length + 1 →
  ∃ H' ld', PC np nn x.length lo ps (jmpd x) h (pGo (jmpd x) r k pb ld pl).1 ld' (pGo (jmpd x) r k pb ld pl).2 H' ∧ (pGo (jmpd x) r k pb ld pl).2.length = x.length ∧ ∃ (p : List Ins) (i : Ins), (pGo (jmpd x) r k pb ld pl).1 = p ++ [i] ∧ (i.op = 14 ∨ i.op = 17) ∧ ∀ j q : Nat, (pGo (jmpd x) r k pb ld pl).2[j]? = some q → (jmpd x)[j]? = some true → q ≤ p.length
 | [], k, pb, ld, pl, H, hr, hne, C, hz, hpl, hpb, hld => absurd rfl hne
 | i :: r, k, pb, ld, pl, H, hr, hne, C, hz, hpl, hpb, hld => by
  have hk : k < x.length := by
   have := congrArg List.length hr
   rw [List.length_drop, List.length_cons] at this
   omega
  have hi : x[k]? = some i := by
   have := congrArg (fun l => l[0]?) hr
   simpa using this
  have hr' : x.drop (k + 1) = r := by
   have := congrArg (List.drop 1) hr
   simpa [Nat.add_comm] using this
  have C1 := C.mark hz hpl (by omega)
  obtain ⟨H', C2, hz2⟩ := C1.step X hz hi
  have hl := pbN_len k pb (ldN (jmpd x) k pb ld) i
  cases hrr : r with
  | cons j r' =>
   rw [hrr] at hr'
   exact pGo_pc X (j :: r') (k + 1) _ _ _ H' hr' (by simp) C2 hz2 (by rw [List.length_append, hpl]; rfl) (by omega) (by rw [ldN_len]; exact hld)
  | nil =>
   have hk1 : k + 1 = x.length := by
    rw [hrr] at hr'
    have := congrArg List.length hr'
    rw [List.length_drop] at this
    simp only [List.length_nil] at this
    omega
   obtain ⟨ho, hp⟩ := X.last hi hk1
   refine ⟨H', _, C2, ?_, pb, i, hp _ _, ho, fun j q a b => (C1.pls j q a b).2.2⟩
   show (pl ++ [pb.length]).length = _
   rw [List.length_append, hpl]
   exact hk1
theorem prsd_fb (X : PX np nn lo ps x h) : Fb np nn lo ps (prsd x) := by
 have h0 : 0 < x.length := (X.fb.gd 0 0 .start).1
 have hz0 : h 0 = 0 := (X.fb.gd 0 0 .start).2.2.1 _ (X.hr 0 h0)
 obtain ⟨H, ld, C, hpl, p, l, hp, hl, hq⟩ := pGo_pc X x 0 [] (List.replicate (x.length + 1) false) [] [0] rfl (fun e => by rw [e] at h0; simp at h0)
  ⟨rfl, fun j v q => by
   have : j = 0 := by have := (List.getElem?_eq_some_iff.1 q).1; simp at this; omega
   subst this
   cases q
   decide, rfl, fun j i v q => by simp at q, fun j p q => by simp at q, fun i hi => by simp at hi⟩ (by rw [hz0]; rfl) rfl (Nat.le_refl _) (by simp)
 have e : prsd x = (pGo (jmpd x) x 0 [] (List.replicate (x.length + 1) false) []).1.map (mv fun k => (pGo (jmpd x) x 0 [] (List.replicate (x.length + 1) false) []).2.getD k 0) := rfl
 generalize pGo (jmpd x) x 0 [] (List.replicate (x.length + 1) false) [] = R at *
 obtain ⟨pb, pl⟩ := R
 simp only at C hpl hp hq e
 have cl : (prsd x).length = pb.length := by rw [e]; simp
 have hpbl : pb.length = p.length + 1 := by rw [hp]; simp
 have tgt : ∀ i ∈ pb, isJ i = true → ∀ v, (jmpd x)[i.a.toNat]? = some true → h i.a.toNat = v → pl.getD i.a.toNat 0 < pb.length ∧ H[pl.getD i.a.toNat 0]? = some v := fun i hi hJ v q1 q2 => by
  have hl := (List.getElem?_eq_some_iff.1 q1).1
  rw [jmpd_len] at hl
  obtain ⟨q, hq'⟩ : ∃ q, pl[i.a.toNat]? = some q := ⟨_, List.getElem?_eq_getElem (by omega)⟩
  rw [List.getD_eq_getElem?_getD, hq', Option.getD_some]
  have := hq _ _ hq' q1
  exact ⟨by omega, by rw [(C.pls _ _ hq' q1).2.1, q2]⟩
 have get : ∀ {k : Nat} {i' : Ins}, (prsd x)[k]? = some i' → ∃ i, pb[k]? = some i ∧ i' = mv (fun k => pl.getD k 0) i := fun {k i'} q => by
  rw [e, List.getElem?_map] at q
  cases hb : pb[k]? with
  | none => rw [hb] at q; cases q
  | some i => rw [hb] at q; exact ⟨i, rfl, (Option.some.inj q).symm⟩
 have hH := C.hl
 refine ⟨fun i' hi' => ?_, good_of_done (hs := H.take pb.length) (by rw [List.length_take, cl]; omega) ?_ ?_⟩
 ·obtain ⟨k, hk⟩ := List.mem_iff_getElem?.1 hi'
  obtain ⟨i, hi, rfl⟩ := get hk
  have hm := List.mem_of_getElem? hi
  have hf := C.fm i hm
  rw [cl]
  by_cases hJ : isJ i = true
  ·refine (fi_jump (by rw [isJ_op (mv_op _ i)]; exact hJ)).2 ⟨?_, by rw [mv_b]; exact ((fi_jump hJ).1 hf).2⟩
   obtain ⟨v, hv⟩ : ∃ v, H[k]? = some v := ⟨_, List.getElem?_eq_getElem (by have := (List.getElem?_eq_some_iff.1 hi).1; omega)⟩
   obtain ⟨w1, w2⟩ := (C.fl k i v hi hv).2.2.2 hJ
   have := (tgt i hm hJ _ w1 w2).1
   rw [mv_J hJ]
   show 0 ≤ ((pl.getD i.a.toNat 0 : Nat) : Int) ∧ ((pl.getD i.a.toNat 0 : Nat) : Int) < _
   omega
  ·rw [mv_no hJ, fi_other (nb' := x.length) hJ]
   exact hf
 ·rw [List.getElem?_take_of_lt (by omega)]; exact C.zero
 ·intro k v hv h0v
  have hk : k < pb.length := by
   have := (List.getElem?_eq_some_iff.1 hv).1
   rw [List.length_take] at this
   omega
  rw [List.getElem?_take_of_lt hk] at hv
  refine ⟨(C.le k v hv).2, fun i' hi' => ?_⟩
  obtain ⟨i, hi, rfl⟩ := get hi'
  obtain ⟨a1, a2, a3, a4⟩ := C.fl k i v hi hv
  rw [mv_takes, mv_leaves, mv_op]
  refine ⟨a1, a2, fun t ht => ?_⟩
  have ok : ∀ {u : Nat}, u < pb.length → H[u]? = some (v - takesP ps i + leavesP i) → (H.take pb.length)[u]? = some (v - takesP ps i + leavesP i) ∧ 0 ≤ v - takesP ps i + leavesP i := fun {u} hu q => ⟨by rw [List.getElem?_take_of_lt hu]; exact q, (C.le _ _ q).1⟩
  have nxt : i.op ≠ 14 → i.op ≠ 17 → (H.take pb.length)[k + 1]? = some (v - takesP ps i + leavesP i) ∧ 0 ≤ v - takesP ps i + leavesP i := fun c d => by
   refine ok (u := k + 1) ?_ (a3 c d)
   by_cases q : k + 1 < pb.length
   ·exact q
   ·have : k = p.length := by omega
    rw [hp, this] at hi
    obtain rfl : l = i := by simpa using hi
    rcases hl with hl | hl
    ·exact absurd hl c
    ·exact absurd hl d
  by_cases hJ : isJ i = true
  ·obtain ⟨w1, w2⟩ := a4 hJ
   obtain ⟨z1, z2⟩ := tgt i (List.mem_of_getElem? hi) hJ _ w1 w2
   rw [mv_J hJ] at ht
   rcases isJ_iff.1 hJ with h14 | h15
   ·rw [goOn_14 (i := ⟨i.op, (pl.getD i.a.toNat 0 : Nat), i.b⟩) h14] at ht
    obtain rfl : t = pl.getD i.a.toNat 0 := by simpa using ht
    exact ok z1 z2
   ·rw [goOn_15 (i := ⟨i.op, (pl.getD i.a.toNat 0 : Nat), i.b⟩) h15] at ht
    rcases (show t = k + 1 ∨ t = pl.getD i.a.toNat 0 by simpa using ht) with rfl | rfl
    ·exact nxt (by omega) (by omega)
    ·exact ok z1 z2
  ·rw [mv_no hJ] at ht
   by_cases h17 : i.op = 17
   ·rw [goOn_17 h17] at ht; simp at ht
   ·rw [goOn_else hJ h17] at ht
    obtain rfl : t = k + 1 := by simpa using ht
    exact nxt (fun q => hJ (isJ_iff.2 (.inl q))) h17
end
end Go.Proofs.YtemjajljpoaioaaDoor
