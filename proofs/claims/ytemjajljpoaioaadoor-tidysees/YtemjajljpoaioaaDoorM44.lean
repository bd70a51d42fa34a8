import Derived.Test.YtemjajljpoaioaaDoorCPiece
import Derived.Test.YtemjajljpoaioaaDoorCForm
namespace Go.Proofs.YtemjajljpoaioaaDoor
open Go.RowKit
set_option linter.unusedVariables false
set_option linter.unusedSimpArgs false
set_option maxRecDepth 20000
set_option maxHeartbeats 8000000
theorem PsAt.pc {base : Nat} {w : World} {c : Cd} (h : PsAt base w c) (k : Nat) (p : Pc) (hk : c.ps.xs[k]? = some p) : ∃ rb ro, c.ps.la = some ⟨rb, ro, none⟩ ∧ rb < base ∧ rb < w.heap.size ∧ w.cell? ⟨rb, ro + k * 5, none⟩ = some (.string ⟨p.nm.toArray⟩) ∧ w.cell? ⟨rb, ro + k * 5 + 1, none⟩ = some (.bool p.open_) ∧ w.cell? ⟨rb, ro + k * 5 + 2, none⟩ = some (.int .i64 p.pa) ∧ w.cell? ⟨rb, ro + k * 5 + 3, none⟩ = some (.int .i64 p.lo) ∧ w.cell? ⟨rb, ro + k * 5 + 4, none⟩ = some (.slice p.bd.la p.bd.xs.length p.bd.lc) ∧ p.bd.Held Ins.flds 3 base w := by
 obtain ⟨_, _, h0 | ⟨rb, ro, e, hb, hz, hr⟩⟩ := h
 ·rw [h0] at hk; simp at hk
 have := hr k p hk
 refine ⟨rb, ro, e, hb, hz, this.get0 rfl, this.get 1 rfl, this.get 2 rfl, this.get 3 rfl, ?_, Lst.held Ins.len (this.goods.get 4 rfl)⟩
 have h4 := this.get 4 rfl
 rw [Lst.val] at h4
 exact h4
theorem all_take {α : Type} (f : α → Bool) (xs : List α) (k : Nat) (x : α) (h : xs[k]? = some x) : (xs.take (k + 1)).all f = ((xs.take k).all f && f x) := by
 have e : xs.take (k + 1) = xs.take k ++ [x] := by rw [List.take_add_one, h]; rfl
 rw [e]; simp
theorem any_take {α : Type} (f : α → Bool) (xs : List α) (k : Nat) (x : α) (h : xs[k]? = some x) : (xs.take (k + 1)).any f = ((xs.take k).any f || f x) := by
 have e : xs.take (k + 1) = xs.take k ++ [x] := by rw [List.take_add_one, h]; rfl
 rw [e]; simp
theorem all_false {α : Type} (f : α → Bool) (xs : List α) (k : Nat) (x : α) (h : xs[k]? = some x) (hf : f x = false) : xs.all f = false := by
 rw [List.all_eq_false]
 exact ⟨x, List.mem_of_getElem? h, by simp [hf]⟩
theorem any_true {α : Type} (f : α → Bool) (xs : List α) (k : Nat) (x : α) (h : xs[k]? = some x) (hf : f x = true) : xs.any f = true := by
 rw [List.any_eq_true]
 exact ⟨x, List.mem_of_getElem? h, hf⟩
set_option maxHeartbeats 3200000 in
theorem tooMuch_any (base : Nat) (c : Cd) (w : World) (hB : base ≤ w.heap.size) (P : PsAt base w c) :
  Calls Tryd.prog 18 #[.agg #[.slice c.ps.la c.ps.xs.length c.ps.lc, .slice c.ns.la c.ns.xs.length c.ns.lc]] w fun e w' => e = .returned (.bool (tooB c)) ∧ Below w.heap.size w w' := by
 have bA : Below w.heap.size w (w.alloc (.cells #[.slice c.ps.la c.ps.xs.length c.ps.lc, .slice c.ns.la c.ns.xs.length c.ns.lc] 25)) := (Below.refl _ _).alloc (Nat.le_refl _) _
 go_enter Tryd.func18, Tryd.ntmps18
 by_cases hbig : 32 < (c.ps.xs.length : Int)
 ·have HT : Hid (tooB c = true) := by show _ = _; simp only [tooB, decide_eq_true hbig, Bool.true_or]
  go_wp2
  go_ret
  exact ⟨by rw [HT.out]; rfl, bA⟩
 have hT : tooB c = c.ps.xs.any tooPc := by simp only [tooB, decide_eq_false hbig, Bool.false_or]
 have HT := show Hid (_ = _) from hT
 clear hT
 go_wp2_with fail
 go_loopw [4, 12] (fun pv iv wv => ∃ (k : Nat), k ≤ c.ps.xs.length ∧ iv = .int .i64 k ∧ Hid ((c.ps.xs.take k).any tooPc = false) ∧ Below w.heap.size w wv) (fun _ iv _ => c.ps.xs.length - (intOf iv).toNat)
 case atStart => exact ⟨0, Nat.zero_le _, rfl, by show _ = _; simp, bA⟩
 case round =>
  obtain ⟨k, hk, rfl, Hk, bk⟩ := hrel
  by_cases hkn : k < c.ps.xs.length
  ·have hki : (k : Int) < (c.ps.xs.length : Int) := by omega
   obtain ⟨p, hp⟩ : ∃ p, c.ps.xs[k]? = some p := ⟨_, List.getElem?_eq_getElem hkn⟩
   obtain ⟨rb, ro, e, hb, hz, c0, c1, c2, c3, c4, _⟩ := PsAt.pc (Lst.Held.below P (bk.mono hB)) k p hp
   have b1 := bk.alloc bk.size (.cells #[.string ⟨p.nm.toArray⟩, .bool p.open_, .int .i64 p.pa, .int .i64 p.lo, .slice p.bd.la p.bd.xs.length p.bd.lc] 34)
   rw [e]
   have HP := show Hid (_ = _) from hp
   clear hp P bA
   cases ht : tooPc p
   ·have hs : decide (2048 < (p.bd.xs.length : Int)) = false ∧ decide (32 < p.lo) = false ∧ decide (8 < p.pa) = false := by
     simp only [tooPc, Bool.or_eq_false_iff] at ht
     exact ⟨ht.1.1, ht.1.2, ht.2⟩
    obtain ⟨s1, s2, s3⟩ := hs
    have HN : Hid ((c.ps.xs.take (k + 1)).any tooPc = false) := by show _ = _; rw [any_take _ _ k p HP.out, Hk.out, ht]; rfl
    clear ht
    go_wp2
    exact ⟨⟨k + 1, by omega, by go_num, HN, b1⟩, by simp [intOf]; omega⟩
   ·have HN : Hid (tooB c = true) := by show _ = _; rw [HT.out]; exact any_true _ _ k p HP.out ht
    by_cases s1 : 2048 < (p.bd.xs.length : Int)
    ·have d1 := decide_eq_true s1
     clear ht
     go_wp2
     go_ret
     exact ⟨by rw [HN.out]; rfl, b1⟩
    have d1 := decide_eq_false s1
    by_cases s2 : 32 < p.lo
    ·have d2 := decide_eq_true s2
     clear ht
     go_wp2
     go_ret
     exact ⟨by rw [HN.out]; rfl, b1⟩
    have d2 := decide_eq_false s2
    have d3 : decide (8 < p.pa) = true := by simpa only [tooPc, d1, d2, Bool.false_or] using ht
    clear ht
    go_wp2
    go_ret
    exact ⟨by rw [HN.out]; rfl, b1⟩
  have hki : ¬ (k : Int) < (c.ps.xs.length : Int) := by omega
  have HN : Hid (tooB c = false) := by
   show _ = _
   have := Hk.out
   rw [List.take_of_length_le (by omega)] at this
   rw [HT.out, this]
  clear Hk
  go_wp2
  go_ret
  exact ⟨by rw [HN.out]; rfl, bk⟩
set_option maxHeartbeats 3200000 in
theorem cflows_any (base : Nat) (c : Cd) (w : World) (T : Tab w) (h0 : 0 < base) (hB : base ≤ w.heap.size) (P : PsAt base w c) (hT : tooB c = false) (hF : formB c = true) :
  Calls Tryd.prog 20 #[.agg #[.slice c.ps.la c.ps.xs.length c.ps.lc, .slice c.ns.la c.ns.xs.length c.ns.lc]] w fun e w' => e = .returned (.bool (flowB c)) ∧ Below w.heap.size w w' := by
 have bA : Below w.heap.size w (w.alloc (.cells #[.slice c.ps.la c.ps.xs.length c.ps.lc, .slice c.ns.la c.ns.xs.length c.ns.lc] 25)) := (Below.refl _ _).alloc (Nat.le_refl _) _
 have kA := Blk.new w #[.slice c.ps.la c.ps.xs.length c.ps.lc, .slice c.ns.la c.ns.xs.length c.ns.lc] 25
 have hall : ∀ p ∈ c.ps.xs, (0 ≤ p.pa ∧ p.pa ≤ 8) ∧ p.bd.xs.length ≤ 2048 ∧ ∀ i ∈ p.bd.xs, fiB c.ps.xs.length c.ns.xs.length p.bd.xs.length p.lo i = true := by
  intro p hp
  have h1 : tooPc p = false := by
   simp only [tooB, Bool.or_eq_false_iff] at hT
   have := List.any_eq_false.1 hT.2 p hp
   simpa using this
  have h2 := List.all_eq_true.1 hF p hp
  simp only [formPc, Bool.and_eq_true, Bool.not_eq_true', Bool.or_eq_false_iff, decide_eq_false_iff_not] at h2
  simp only [tooPc, Bool.or_eq_false_iff, decide_eq_false_iff_not] at h1
  exact ⟨⟨by omega, by omega⟩, by omega, fun i hi => List.all_eq_true.1 h2.2 i hi⟩
 have key : ∀ (y : World) (p : Pc), p ∈ c.ps.xs → Below w.heap.size w y → p.bd.Held Ins.flds 3 base y → Calls Tryd.prog 27 #[.agg #[.slice c.ps.la c.ps.xs.length c.ps.lc, .slice c.ns.la c.ns.xs.length c.ns.lc], .agg #[.string ⟨p.nm.toArray⟩, .bool p.open_, .int .i64 p.pa, .int .i64 p.lo, .slice p.bd.la p.bd.xs.length p.bd.lc]] y fun e w' => e = .returned (.bool (goodB c.ps.xs p.bd.xs)) ∧ Below y.heap.size y w' := fun y p hp hy hH =>
  pieceFlows_any base c p y ⟨T.below hy T.1, h0, Nat.le_trans hB hy.size, Lst.Held.below P (hy.mono hB), hH⟩ (hall p hp).2.2 (fun q hq => (hall q hq).1) (hall p hp).2.1
 have HY := show Hid (∀ (y : World) (p : Pc), _) from key
 have hn32 : (c.ps.xs.length : Int) ≤ 32 := by
  simp only [tooB, Bool.or_eq_false_iff, decide_eq_false_iff_not] at hT
  omega
 clear key hall hT hF T
 go_enter Tryd.func20, Tryd.ntmps20
 go_wp2_with fail
 go_loopw [4, 8] (fun pv iv wv => ∃ (k : Nat), k ≤ c.ps.xs.length ∧ iv = .int .i64 k ∧ Hid ((c.ps.xs.take k).all (fun p => goodB c.ps.xs p.bd.xs) = true) ∧ Below w.heap.size w wv ∧ Blk wv w.heap.size #[.slice c.ps.la c.ps.xs.length c.ps.lc, .slice c.ns.la c.ns.xs.length c.ns.lc] 25) (fun _ iv _ => c.ps.xs.length - (intOf iv).toNat)
 case atStart => exact ⟨0, Nat.zero_le _, rfl, by show _ = _; simp, bA, kA⟩
 case round =>
  obtain ⟨k, hk, rfl, Hk, bk, kk⟩ := hrel
  clear bA kA
  by_cases hkn : k < c.ps.xs.length
  ·have hki : (k : Int) < (c.ps.xs.length : Int) := by omega
   obtain ⟨p, hp⟩ : ∃ p, c.ps.xs[k]? = some p := ⟨_, List.getElem?_eq_getElem hkn⟩
   obtain ⟨rb, ro, e, hb, hz, c0, c1, c2, c3, c4, hH⟩ := PsAt.pc (Lst.Held.below P (bk.mono hB)) k p hp
   have a1 : Below wr.heap.size wr (wr.alloc (.cells #[.string ⟨p.nm.toArray⟩, .bool p.open_, .int .i64 p.pa, .int .i64 p.lo, .slice p.bd.la p.bd.xs.length p.bd.lc] 34)) := (Below.refl _ _).alloc (Nat.le_refl _) _
   have b1 := bk.trans (a1.mono bk.size)
   have k1 := kk.below a1 kk.lt
   have hH1 := hH.below (a1.mono (Nat.le_trans hB bk.size))
   have ck := HY.out _ p (List.mem_of_getElem? hp) b1 hH1
   have q0 := k1.cell 0
   have q1 := k1.cell 1
   simp only [List.getElem?_toArray, List.getElem?_cons_succ, List.getElem?_cons_zero] at q0 q1
   have hzc := kk.lt
   rw [e] at ck q0 ⊢
   have HP := show Hid (_ = _) from hp
   clear hp P hH hH1 HY
   go_wp2_with fail
   refine ck.mono ?_
   rintro e2 w1 ⟨rfl, b2⟩
   have B2 := b1.trans (b2.mono b1.size)
   have k2 := k1.below b2 k1.lt
   rw [e] at k2
   clear ck q0 q1
   cases hg : goodB c.ps.xs p.bd.xs
   ·have HN : Hid (flowB c = false) := by show _ = _; exact all_false (fun p : Pc => goodB c.ps.xs p.bd.xs) _ k p HP.out hg
    clear hg
    go_wp2
    go_ret
    exact ⟨by rw [HN.out]; rfl, B2⟩
   ·have HN : Hid ((c.ps.xs.take (k + 1)).all (fun p => goodB c.ps.xs p.bd.xs) = true) := by show _ = _; rw [all_take (fun p : Pc => goodB c.ps.xs p.bd.xs) _ k p HP.out, Hk.out, hg]; rfl
    clear hg
    go_wp2
    exact ⟨⟨k + 1, by omega, by go_num, HN, B2, k2⟩, by simp [intOf]; omega⟩
  have hki : ¬ (k : Int) < (c.ps.xs.length : Int) := by omega
  have HN : Hid (flowB c = true) := by
   show _ = _
   have := Hk.out
   rw [List.take_of_length_le (by omega)] at this
   exact this
  clear Hk HY P
  go_wp2
  go_ret
  exact ⟨by rw [HN.out]; rfl, bk⟩
theorem too_small {c : Cd} (hT : tooB c = false) : (c.ps.xs.length : Int) ≤ 32 ∧ ∀ p ∈ c.ps.xs, (p.bd.xs.length : Int) ≤ 2048 ∧ p.lo ≤ 32 ∧ p.pa ≤ 8 := by
 simp only [tooB, Bool.or_eq_false_iff, decide_eq_false_iff_not] at hT
 refine ⟨by omega, fun p hp => ?_⟩
 have h1 : tooPc p = false := by
  have := List.any_eq_false.1 hT.2 p hp
  simpa using this
 simp only [tooPc, Bool.or_eq_false_iff, decide_eq_false_iff_not] at h1
 omega
theorem ins_at {base : Nat} {w : World} {bd : Lst Ins} (h : bd.Held Ins.flds 3 base w) (k : Nat) (i : Ins) (hi : bd.xs[k]? = some i) : ∃ rb ro, bd.la = some ⟨rb, ro, none⟩ ∧ rb < base ∧ rb < w.heap.size ∧ w.cell? ⟨rb, ro + k * 3, none⟩ = some (.int .i64 i.op) ∧ w.cell? ⟨rb, ro + k * 3 + 1, none⟩ = some (.int .i64 i.a) ∧ w.cell? ⟨rb, ro + k * 3 + 2, none⟩ = some (.int .i64 i.b) := by
 obtain ⟨_, _, h0 | ⟨rb, ro, e, hb, hz, hr⟩⟩ := h
 ·rw [h0] at hi; simp at hi
 have := hr k i hi
 exact ⟨rb, ro, e, hb, hz, this.get0 rfl, this.get 1 rfl, this.get 2 rfl⟩
set_option maxRecDepth 2000 in
set_option maxHeartbeats 6400000 in
theorem formed_any (base : Nat) (c : Cd) (w : World) (T : Tab w) (h0 : 0 < base) (hB : base ≤ w.heap.size) (P : PsAt base w c) (hT : tooB c = false) :
  Calls Tryd.prog 19 #[.agg #[.slice c.ps.la c.ps.xs.length c.ps.lc, .slice c.ns.la c.ns.xs.length c.ns.lc]] w fun e w' => e = .returned (.bool (formB c)) ∧ Below w.heap.size w w' := by
 have bA : Below w.heap.size w (w.alloc (.cells #[.slice c.ps.la c.ps.xs.length c.ps.lc, .slice c.ns.la c.ns.xs.length c.ns.lc] 25)) := (Below.refl _ _).alloc (Nat.le_refl _) _
 have kA := Blk.new w #[.slice c.ps.la c.ps.xs.length c.ps.lc, .slice c.ns.la c.ns.xs.length c.ns.lc] 25
 obtain ⟨hn32, hsm⟩ := too_small hT
 have HY : Hid (∀ (y : World) (p : Pc) (i : Ins), Below w.heap.size w y → Calls Tryd.prog 26 #[.agg #[.slice c.ps.la c.ps.xs.length c.ps.lc, .slice c.ns.la c.ns.xs.length c.ns.lc], .agg #[.string ⟨p.nm.toArray⟩, .bool p.open_, .int .i64 p.pa, .int .i64 p.lo, .slice p.bd.la p.bd.xs.length p.bd.lc], .agg #[.int .i64 i.op, .int .i64 i.a, .int .i64 i.b]] y fun e w' => e = .returned (.bool (fiB c.ps.xs.length c.ns.xs.length p.bd.xs.length p.lo i)) ∧ Below y.heap.size y w') := fun y p i hy =>
  formedInstr_any c.ps.la c.ns.la p.bd.la c.ps.xs.length c.ps.lc c.ns.xs.length c.ns.lc p.bd.xs.length p.bd.lc ⟨p.nm.toArray⟩ p.open_ p.pa p.lo i.op i.a i.b y (T.below hy T.1)
 have HSM := show Hid (∀ p ∈ c.ps.xs, _) from hsm
 clear hT hsm T
 go_enter Tryd.func19, Tryd.ntmps19
 go_wp2_with fail
 go_loopw [4, 10] (fun pv iv wv => ∃ (k : Nat), k ≤ c.ps.xs.length ∧ iv = .int .i64 k ∧ Hid ((c.ps.xs.take k).all (formPc c) = true) ∧ Below w.heap.size w wv ∧ Blk wv w.heap.size #[.slice c.ps.la c.ps.xs.length c.ps.lc, .slice c.ns.la c.ns.xs.length c.ns.lc] 25) (fun _ iv _ => c.ps.xs.length - (intOf iv).toNat)
 case atStart => exact ⟨0, Nat.zero_le _, rfl, by show _ = _; simp, bA, kA⟩
 case round =>
  obtain ⟨k, hk, rfl, Hk, bk, kk⟩ := hrel
  clear bA kA
  by_cases hkn : k < c.ps.xs.length
  ·have hki : (k : Int) < (c.ps.xs.length : Int) := by omega
   obtain ⟨p, hp⟩ : ∃ p, c.ps.xs[k]? = some p := ⟨_, List.getElem?_eq_getElem hkn⟩
   obtain ⟨rb, ro, e, hb, hz, c0, c1, c2, c3, c4, hH⟩ := PsAt.pc (Lst.Held.below P (bk.mono hB)) k p hp
   have a1 : Below wr.heap.size wr (wr.alloc (.cells #[.string ⟨p.nm.toArray⟩, .bool p.open_, .int .i64 p.pa, .int .i64 p.lo, .slice p.bd.la p.bd.xs.length p.bd.lc] 34)) := (Below.refl _ _).alloc (Nat.le_refl _) _
   have kP1 := Blk.new wr #[.string ⟨p.nm.toArray⟩, .bool p.open_, .int .i64 p.pa, .int .i64 p.lo, .slice p.bd.la p.bd.xs.length p.bd.lc] 34
   have b1 := bk.trans (a1.mono bk.size)
   have k1 := kk.below a1 kk.lt
   have hH1 := hH.below (a1.mono (Nat.le_trans hB bk.size))
   obtain ⟨hs1, hs2, hs3⟩ := HSM.out p (List.mem_of_getElem? hp)
   have HP := show Hid (_ = _) from hp
   rw [e]
   clear hp hH
   by_cases p1 : p.pa < 0
   ·have d1 := decide_eq_true p1
    have HN : Hid (formB c = false) := by show _ = _; exact all_false (formPc c) _ k p HP.out (by simp [formPc, p1])
    clear HY HSM P hH1
    go_wp2
    go_ret
    exact ⟨by rw [HN.out]; rfl, b1⟩
   have d1 := decide_eq_false p1
   by_cases p2 : p.lo < p.pa
   ·have d2 := decide_eq_true p2
    have HN : Hid (formB c = false) := by show _ = _; exact all_false (formPc c) _ k p HP.out (by simp [formPc, p2])
    clear HY HSM P hH1
    go_wp2
    go_ret
    exact ⟨by rw [HN.out]; rfl, b1⟩
   have d2 := decide_eq_false p2
   have HF : Hid (formPc c p = p.bd.xs.all (fiB c.ps.xs.length c.ns.xs.length p.bd.xs.length p.lo)) := by show _ = _; simp only [formPc, d1, d2]; simp
   go_wp2_with fail
   generalize wr = wq at *
   go_loopw [6, 27] (fun jv iv wv => ∃ (j : Nat), j ≤ p.bd.xs.length ∧ iv = .int .i64 j ∧ Hid ((p.bd.xs.take j).all (fiB c.ps.xs.length c.ns.xs.length p.bd.xs.length p.lo) = true) ∧ Below w.heap.size w wv ∧ Blk wv w.heap.size #[.slice c.ps.la c.ps.xs.length c.ps.lc, .slice c.ns.la c.ns.xs.length c.ns.lc] 25 ∧ Blk wv wq.heap.size #[.string ⟨p.nm.toArray⟩, .bool p.open_, .int .i64 p.pa, .int .i64 p.lo, .slice p.bd.la p.bd.xs.length p.bd.lc] 34 ∧ p.bd.Held Ins.flds 3 base wv) (fun _ iv _ => p.bd.xs.length - (intOf iv).toNat)
   case atStart => exact ⟨0, Nat.zero_le _, rfl, by show _ = _; simp, b1, k1, kP1, hH1⟩
   case round =>
    obtain ⟨j, hj, rfl, Hj, bj, kj, kPj, hHj⟩ := hrel
    clear b1 k1 kP1 hH1 c0 c1 c2 c3 c4 a1 kk
    by_cases hjn : j < p.bd.xs.length
    ·have hji : (j : Int) < (p.bd.xs.length : Int) := by omega
     obtain ⟨i, hi⟩ : ∃ i, p.bd.xs[j]? = some i := ⟨_, List.getElem?_eq_getElem hjn⟩
     obtain ⟨sb, so, e2, hb2, hz2, i0, i1, i2⟩ := ins_at hHj j i hi
     have a2 : Below wr.heap.size wr (wr.alloc (.cells #[.int .i64 i.op, .int .i64 i.a, .int .i64 i.b] 31)) := (Below.refl _ _).alloc (Nat.le_refl _) _
     have b2 := bj.trans (a2.mono bj.size)
     have k2 := kj.below a2 kj.lt
     have kP2 := kPj.below a2 kPj.lt
     have hH2 := hHj.below (a2.mono (Nat.le_trans hB bj.size))
     have ck := HY.out _ p i b2
     have q0 := k2.cell 0
     have q1 := k2.cell 1
     have r0 := kP2.cell 0
     have r1 := kP2.cell 1
     have r2 := kP2.cell 2
     have r3 := kP2.cell 3
     have r4 := kP2.cell 4
     simp only [List.getElem?_toArray, List.getElem?_cons_succ, List.getElem?_cons_zero] at q0 q1 r0 r1 r2 r3 r4
     have hzc := kj.lt
     have hzp := kPj.lt
     have HI := show Hid (_ = _) from hi
     have HL := show Hid (_ = _) from e2
     have HE := show Hid (_ = _) from e
     rw [e2] at r4 ck ⊢
     rw [e] at q0 ck
     clear hi kj kPj hHj e2 e
     go_wp2_with fail
     refine ck.mono ?_
     rintro e3 w1 ⟨rfl, b3⟩
     have B3 := b2.trans (b3.mono b2.size)
     have k3 := k2.below b3 k2.lt
     have kP3 := kP2.below b3 kP2.lt
     have hH3 := hH2.below (b3.mono (Nat.le_trans hB b2.size))
     clear ck q0 q1 r0 r1 r2 r3 r4 k2 kP2 hH2 i0 i1 i2
     cases hg : fiB c.ps.xs.length c.ns.xs.length p.bd.xs.length p.lo i
     ·have HN : Hid (formB c = false) := by show _ = _; exact all_false (formPc c) _ k p HP.out (by rw [HF.out]; exact all_false _ _ j i HI.out hg)
      clear hg
      go_wp2
      go_ret
      exact ⟨by rw [HN.out]; rfl, B3⟩
     ·have HN : Hid ((p.bd.xs.take (j + 1)).all (fiB c.ps.xs.length c.ns.xs.length p.bd.xs.length p.lo) = true) := by show _ = _; rw [all_take _ _ j i HI.out, Hj.out, hg]; rfl
      clear hg
      rw [HL.out] at kP3
      go_wp2
      exact ⟨⟨j + 1, by omega, by go_num, HN, B3, k3, kP3, hH3⟩, by simp [intOf]; omega⟩
    have hji : ¬ (j : Int) < (p.bd.xs.length : Int) := by omega
    have HN : Hid ((c.ps.xs.take (k + 1)).all (formPc c) = true) := by
     show _ = _
     have := Hj.out
     rw [List.take_of_length_le (by omega)] at this
     rw [all_take (formPc c) _ k p HP.out, Hk.out, HF.out, this]; rfl
    clear Hj hHj kPj HY HSM P
    rw [e] at kj
    go_wp2
    exact ⟨⟨k + 1, by omega, by go_num, HN, bj, kj⟩, by simp [intOf]; omega⟩
  have hki : ¬ (k : Int) < (c.ps.xs.length : Int) := by omega
  have HN : Hid (formB c = true) := by
   show _ = _
   have := Hk.out
   rw [List.take_of_length_le (by omega)] at this
   exact this
  clear Hk HY HSM P
  go_wp2
  go_ret
  exact ⟨by rw [HN.out]; rfl, bk⟩
set_option maxHeartbeats 3200000 in
theorem check_any (base : Nat) (c : Cd) (w : World) (T : Tab w) (h0 : 0 < base) (hB : base ≤ w.heap.size) (P : PsAt base w c) :
  Calls Tryd.prog 10 #[.agg #[.slice c.ps.la c.ps.xs.length c.ps.lc, .slice c.ns.la c.ns.xs.length c.ns.lc]] w fun e w' => e = .returned (.int .i64 (checkP c)) ∧ Below w.heap.size w w' := by
 have bA : Below w.heap.size w (w.alloc (.cells #[.slice c.ps.la c.ps.xs.length c.ps.lc, .slice c.ns.la c.ns.xs.length c.ns.lc] 25)) := (Below.refl _ _).alloc (Nat.le_refl _) _
 have kA := Blk.new w #[.slice c.ps.la c.ps.xs.length c.ps.lc, .slice c.ns.la c.ns.xs.length c.ns.lc] 25
 have PA := Lst.Held.below P (bA.mono hB)
 have TA := T.below bA T.1
 have key1 := tooMuch_any base c _ (Nat.le_trans hB bA.size) PA
 go_enter Tryd.func10, Tryd.ntmps10
 go_wp2_with fail
 refine key1.mono ?_
 rintro e w1 ⟨rfl, b1⟩
 have B1 := bA.trans (b1.mono bA.size)
 have k1 := kA.below b1 kA.lt
 clear key1 PA TA kA bA
 cases hT : tooB c
 rotate_left
 ·have HC : Hid (checkP c = 3) := by show _ = _; simp [checkP, hT]
  clear hT P T
  go_wp2
  go_ret
  exact ⟨by rw [HC.out]; rfl, B1⟩
 have q0 := k1.cell 0
 have q1 := k1.cell 1
 simp only [List.getElem?_toArray, List.getElem?_cons_succ, List.getElem?_cons_zero] at q0 q1
 have hz1 := k1.lt
 have key2 := formed_any base c w1 (T.below B1 T.1) h0 (Nat.le_trans hB B1.size) (Lst.Held.below P (B1.mono hB)) hT
 have HT := show Hid (_ = _) from hT
 clear hT
 go_wp2_with fail
 refine key2.mono ?_
 rintro e w2 ⟨rfl, b2⟩
 have B2 := B1.trans (b2.mono B1.size)
 have k2 := k1.below b2 k1.lt
 clear key2 q0 q1 hz1
 cases hF : formB c
 ·have HC : Hid (checkP c = 13) := by show _ = _; simp [checkP, HT.out, hF]
  clear hF P T
  go_wp2
  go_ret
  exact ⟨by rw [HC.out]; rfl, B2⟩
 have q0 := k2.cell 0
 have q1 := k2.cell 1
 simp only [List.getElem?_toArray, List.getElem?_cons_succ, List.getElem?_cons_zero] at q0 q1
 have hz2 := k2.lt
 have key3 := cflows_any base c w2 (T.below B2 T.1) h0 (Nat.le_trans hB B2.size) (Lst.Held.below P (B2.mono hB)) HT.out hF
 have HF := show Hid (_ = _) from hF
 clear hF
 go_wp2_with fail
 refine key3.mono ?_
 rintro e w3 ⟨rfl, b3⟩
 have B3 := B2.trans (b3.mono B2.size)
 clear key3 q0 q1 hz2
 cases hG : flowB c
 ·have HC : Hid (checkP c = 13) := by show _ = _; simp [checkP, HT.out, HF.out, hG]
  clear hG P T
  go_wp2
  go_ret
  exact ⟨by rw [HC.out]; rfl, B3⟩
 ·have HC : Hid (checkP c = 0) := by show _ = _; simp [checkP, HT.out, HF.out, hG]
  clear hG P T
  go_wp2
  go_ret
  exact ⟨by rw [HC.out]; rfl, B3⟩
end Go.Proofs.YtemjajljpoaioaaDoor
