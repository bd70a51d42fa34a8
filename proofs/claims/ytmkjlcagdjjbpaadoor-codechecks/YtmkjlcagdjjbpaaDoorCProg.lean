/- The program's check, whole. -/
import Derived.Test.YtmkjlcagdjjbpaaDoorCPiece
import Derived.Test.YtmkjlcagdjjbpaaDoorCForm
namespace Go.Proofs.YtmkjlcagdjjbpaaDoor
open Go.RowKit
set_option linter.unusedVariables false
set_option linter.unusedSimpArgs false

theorem PsAt.pc {base : Nat} {w : World} {c : Cd} (h : PsAt base w c) (k : Nat) (p : Pc) (hk : c.ps.xs[k]? = some p) : ∃ rb ro, c.ps.la = some ⟨rb, ro, none⟩ ∧ rb < base ∧ rb < w.heap.size ∧ w.cell? ⟨rb, ro + k * 5, none⟩ = some (.string ⟨p.nm.toArray⟩) ∧ w.cell? ⟨rb, ro + k * 5 + 1, none⟩ = some (.bool p.open_) ∧ w.cell? ⟨rb, ro + k * 5 + 2, none⟩ = some (.int .i64 p.pa) ∧ w.cell? ⟨rb, ro + k * 5 + 3, none⟩ = some (.int .i64 p.lo) ∧ w.cell? ⟨rb, ro + k * 5 + 4, none⟩ = some (.slice p.bd.la p.bd.xs.length p.bd.lc) ∧ p.bd.Held Ins.flds 3 base w := by
  obtain ⟨_, _, h0 | ⟨rb, ro, e, hb, hz, hr⟩⟩ := h
  · rw [h0] at hk; simp at hk
  have := hr k p hk
  refine ⟨rb, ro, e, hb, hz, this.get0 rfl, this.get 1 rfl, this.get 2 rfl, this.get 3 rfl, ?_, Lst.held Ins.len (this.goods.get 4 rfl)⟩
  have h4 := this.get 4 rfl
  rw [Lst.val] at h4
  exact h4
theorem all_take {α : Type} (f : α → Bool) (xs : List α) (k : Nat) (x : α) (h : xs[k]? = some x) : (xs.take (k + 1)).all f = ((xs.take k).all f && f x) := by
  have e : xs.take (k + 1) = xs.take k ++ [x] := by rw [List.take_add_one, h]; rfl
  rw [e]; simp
theorem any_take {α : Type} (f : α → Bool) (xs : List α) (k : Nat) (x : α) (h : xs[k]? = some x) : (xs.take (k + 1)).any f = ((xs.take k).any f || f x) := by
  have e : xs.take (k + 1) = xs.take k ++ [x] := by rw [List.take_add_one, h]; rfl
  rw [e]; simp
theorem all_false {α : Type} (f : α → Bool) (xs : List α) (k : Nat) (x : α) (h : xs[k]? = some x) (hf : f x = false) : xs.all f = false := by
  rw [List.all_eq_false]
  exact ⟨x, List.mem_of_getElem? h, by simp [hf]⟩
theorem any_true {α : Type} (f : α → Bool) (xs : List α) (k : Nat) (x : α) (h : xs[k]? = some x) (hf : f x = true) : xs.any f = true := by
  rw [List.any_eq_true]
  exact ⟨x, List.mem_of_getElem? h, hf⟩

set_option maxHeartbeats 3200000 in
theorem tooMuch_any (base : Nat) (c : Cd) (w : World) (hB : base ≤ w.heap.size) (P : PsAt base w c) :
    Calls Tryd.prog 9 #[.agg #[.slice c.ps.la c.ps.xs.length c.ps.lc, .slice c.ns.la c.ns.xs.length c.ns.lc]] w fun e w' => e = .returned (.bool (tooB c)) ∧ Below w.heap.size w w' := by
  have bA : Below w.heap.size w (w.alloc (.cells #[.slice c.ps.la c.ps.xs.length c.ps.lc, .slice c.ns.la c.ns.xs.length c.ns.lc] 25)) := (Below.refl _ _).alloc (Nat.le_refl _) _
  go_enter Tryd.func9, Tryd.ntmps9
  by_cases hbig : 32 < (c.ps.xs.length : Int)
  · have HT : Hid (tooB c = true) := by show _ = _; simp only [tooB, decide_eq_true hbig, Bool.true_or]
    go_wp2
    go_ret
    exact ⟨by rw [HT.out]; rfl, bA⟩
  have hT : tooB c = c.ps.xs.any tooPc := by simp only [tooB, decide_eq_false hbig, Bool.false_or]
  have HT := show Hid (_ = _) from hT
  clear hT
  go_wp2_with fail
  go_loopw [4, 12] (fun pv iv wv => ∃ (k : Nat), k ≤ c.ps.xs.length ∧ iv = .int .i64 k ∧ Hid ((c.ps.xs.take k).any tooPc = false) ∧ Below w.heap.size w wv) (fun _ iv _ => c.ps.xs.length - (intOf iv).toNat)
  case atStart => exact ⟨0, Nat.zero_le _, rfl, by show _ = _; simp, bA⟩
  case round =>
    obtain ⟨k, hk, rfl, Hk, bk⟩ := hrel
    by_cases hkn : k < c.ps.xs.length
    · have hki : (k : Int) < (c.ps.xs.length : Int) := by omega
      obtain ⟨p, hp⟩ : ∃ p, c.ps.xs[k]? = some p := ⟨_, List.getElem?_eq_getElem hkn⟩
      obtain ⟨rb, ro, e, hb, hz, c0, c1, c2, c3, c4, _⟩ := PsAt.pc (Lst.Held.below P (bk.mono hB)) k p hp
      have b1 := bk.alloc bk.size (.cells #[.string ⟨p.nm.toArray⟩, .bool p.open_, .int .i64 p.pa, .int .i64 p.lo, .slice p.bd.la p.bd.xs.length p.bd.lc] 33)
      rw [e]
      have HP := show Hid (_ = _) from hp
      clear hp P bA
      cases ht : tooPc p
      · have hs : decide (2048 < (p.bd.xs.length : Int)) = false ∧ decide (32 < p.lo) = false ∧ decide (8 < p.pa) = false := by
          simp only [tooPc, Bool.or_eq_false_iff] at ht
          exact ⟨ht.1.1, ht.1.2, ht.2⟩
        obtain ⟨s1, s2, s3⟩ := hs
        have HN : Hid ((c.ps.xs.take (k + 1)).any tooPc = false) := by show _ = _; rw [any_take _ _ k p HP.out, Hk.out, ht]; rfl
        clear ht
        go_wp2
        exact ⟨⟨k + 1, by omega, by go_num, HN, b1⟩, by simp [intOf]; omega⟩
      · have HN : Hid (tooB c = true) := by show _ = _; rw [HT.out]; exact any_true _ _ k p HP.out ht
        by_cases s1 : 2048 < (p.bd.xs.length : Int)
        · have d1 := decide_eq_true s1
          clear ht
          go_wp2
          go_ret
          exact ⟨by rw [HN.out]; rfl, b1⟩
        have d1 := decide_eq_false s1
        by_cases s2 : 32 < p.lo
        · have d2 := decide_eq_true s2
          clear ht
          go_wp2
          go_ret
          exact ⟨by rw [HN.out]; rfl, b1⟩
        have d2 := decide_eq_false s2
        have d3 : decide (8 < p.pa) = true := by simpa only [tooPc, d1, d2, Bool.false_or] using ht
        clear ht
        go_wp2
        go_ret
        exact ⟨by rw [HN.out]; rfl, b1⟩
    have hki : ¬ (k : Int) < (c.ps.xs.length : Int) := by omega
    have HN : Hid (tooB c = false) := by
      show _ = _
      have := Hk.out
      rw [List.take_of_length_le (by omega)] at this
      rw [HT.out, this]
    clear Hk
    go_wp2
    go_ret
    exact ⟨by rw [HN.out]; rfl, bk⟩

set_option maxHeartbeats 3200000 in
theorem cflows_any (base : Nat) (c : Cd) (w : World) (T : Tab w) (h0 : 0 < base) (hB : base ≤ w.heap.size) (P : PsAt base w c) (hT : tooB c = false) (hF : formB c = true) :
    Calls Tryd.prog 11 #[.agg #[.slice c.ps.la c.ps.xs.length c.ps.lc, .slice c.ns.la c.ns.xs.length c.ns.lc]] w fun e w' => e = .returned (.bool (flowB c)) ∧ Below w.heap.size w w' := by
  have bA : Below w.heap.size w (w.alloc (.cells #[.slice c.ps.la c.ps.xs.length c.ps.lc, .slice c.ns.la c.ns.xs.length c.ns.lc] 25)) := (Below.refl _ _).alloc (Nat.le_refl _) _
  have kA := Blk.new w #[.slice c.ps.la c.ps.xs.length c.ps.lc, .slice c.ns.la c.ns.xs.length c.ns.lc] 25
  have hall : ∀ p ∈ c.ps.xs, (0 ≤ p.pa ∧ p.pa ≤ 8) ∧ p.bd.xs.length ≤ 2048 ∧ ∀ i ∈ p.bd.xs, fiB c.ps.xs.length c.ns.xs.length p.bd.xs.length p.lo i = true := by
    intro p hp
    have h1 : tooPc p = false := by
      simp only [tooB, Bool.or_eq_false_iff] at hT
      have := List.any_eq_false.1 hT.2 p hp
      simpa using this
    have h2 := List.all_eq_true.1 hF p hp
    simp only [formPc, Bool.and_eq_true, Bool.not_eq_true', Bool.or_eq_false_iff, decide_eq_false_iff_not] at h2
    simp only [tooPc, Bool.or_eq_false_iff, decide_eq_false_iff_not] at h1
    exact ⟨⟨by omega, by omega⟩, by omega, fun i hi => List.all_eq_true.1 h2.2 i hi⟩
  have key : ∀ (y : World) (p : Pc), p ∈ c.ps.xs → Below w.heap.size w y → p.bd.Held Ins.flds 3 base y → Calls Tryd.prog 16 #[.agg #[.slice c.ps.la c.ps.xs.length c.ps.lc, .slice c.ns.la c.ns.xs.length c.ns.lc], .agg #[.string ⟨p.nm.toArray⟩, .bool p.open_, .int .i64 p.pa, .int .i64 p.lo, .slice p.bd.la p.bd.xs.length p.bd.lc]] y fun e w' => e = .returned (.bool (goodB c.ps.xs p.bd.xs)) ∧ Below y.heap.size y w' := fun y p hp hy hH =>
    pieceFlows_any base c p y ⟨T.below hy T.1, h0, Nat.le_trans hB hy.size, Lst.Held.below P (hy.mono hB), hH⟩ (hall p hp).2.2 (fun q hq => (hall q hq).1) (hall p hp).2.1
  have HY := show Hid (∀ (y : World) (p : Pc), _) from key
  have hn32 : (c.ps.xs.length : Int) ≤ 32 := by
    simp only [tooB, Bool.or_eq_false_iff, decide_eq_false_iff_not] at hT
    omega
  clear key hall hT hF T
  go_enter Tryd.func11, Tryd.ntmps11
  go_wp2_with fail
  go_loopw [4, 8] (fun pv iv wv => ∃ (k : Nat), k ≤ c.ps.xs.length ∧ iv = .int .i64 k ∧ Hid ((c.ps.xs.take k).all (fun p => goodB c.ps.xs p.bd.xs) = true) ∧ Below w.heap.size w wv ∧ Blk wv w.heap.size #[.slice c.ps.la c.ps.xs.length c.ps.lc, .slice c.ns.la c.ns.xs.length c.ns.lc] 25) (fun _ iv _ => c.ps.xs.length - (intOf iv).toNat)
  case atStart => exact ⟨0, Nat.zero_le _, rfl, by show _ = _; simp, bA, kA⟩
  case round =>
    obtain ⟨k, hk, rfl, Hk, bk, kk⟩ := hrel
    clear bA kA
    by_cases hkn : k < c.ps.xs.length
    · have hki : (k : Int) < (c.ps.xs.length : Int) := by omega
      obtain ⟨p, hp⟩ : ∃ p, c.ps.xs[k]? = some p := ⟨_, List.getElem?_eq_getElem hkn⟩
      obtain ⟨rb, ro, e, hb, hz, c0, c1, c2, c3, c4, hH⟩ := PsAt.pc (Lst.Held.below P (bk.mono hB)) k p hp
      have a1 : Below wr.heap.size wr (wr.alloc (.cells #[.string ⟨p.nm.toArray⟩, .bool p.open_, .int .i64 p.pa, .int .i64 p.lo, .slice p.bd.la p.bd.xs.length p.bd.lc] 33)) := (Below.refl _ _).alloc (Nat.le_refl _) _
      have b1 := bk.trans (a1.mono bk.size)
      have k1 := kk.below a1 kk.lt
      have hH1 := hH.below (a1.mono (Nat.le_trans hB bk.size))
      have ck := HY.out _ p (List.mem_of_getElem? hp) b1 hH1
      have q0 := k1.cell 0
      have q1 := k1.cell 1
      simp only [List.getElem?_toArray, List.getElem?_cons_succ, List.getElem?_cons_zero] at q0 q1
      have hzc := kk.lt
      rw [e] at ck q0 ⊢
      have HP := show Hid (_ = _) from hp
      clear hp P hH hH1 HY
      go_wp2_with fail
      refine ck.mono ?_
      rintro e2 w1 ⟨rfl, b2⟩
      have B2 := b1.trans (b2.mono b1.size)
      have k2 := k1.below b2 k1.lt
      rw [e] at k2
      clear ck q0 q1
      cases hg : goodB c.ps.xs p.bd.xs
      · have HN : Hid (flowB c = false) := by show _ = _; exact all_false (fun p : Pc => goodB c.ps.xs p.bd.xs) _ k p HP.out hg
        clear hg
        go_wp2
        go_ret
        exact ⟨by rw [HN.out]; rfl, B2⟩
      · have HN : Hid ((c.ps.xs.take (k + 1)).all (fun p => goodB c.ps.xs p.bd.xs) = true) := by show _ = _; rw [all_take (fun p : Pc => goodB c.ps.xs p.bd.xs) _ k p HP.out, Hk.out, hg]; rfl
        clear hg
        go_wp2
        exact ⟨⟨k + 1, by omega, by go_num, HN, B2, k2⟩, by simp [intOf]; omega⟩
    have hki : ¬ (k : Int) < (c.ps.xs.length : Int) := by omega
    have HN : Hid (flowB c = true) := by
      show _ = _
      have := Hk.out
      rw [List.take_of_length_le (by omega)] at this
      exact this
    clear Hk HY P
    go_wp2
    go_ret
    exact ⟨by rw [HN.out]; rfl, bk⟩
end Go.Proofs.YtmkjlcagdjjbpaaDoor
