import Derived.Test.YtemjajljpoaioaaDoorCReach
import Derived.Test.YtemjajljpoaioaaDoorM44
namespace Go.Proofs.YtemjajljpoaioaaDoor
open Go.RowKit
set_option linter.unusedVariables false
set_option linter.unusedSimpArgs false
set_option maxRecDepth 20000
set_option maxHeartbeats 8000000
theorem most_iff {np nb : Nat} {lo : Int} {o : Nat} {a : Int} (h : 0 ≤ a) : a ≤ mostP np nb lo o a ↔ a < endA np nb lo (ka o) := by
  unfold mostP
  by_cases h4 : ka o = 4
  · rw [if_pos h4, h4]
    simp only [endA]
    split <;> simp <;> omega
  · rw [if_neg h4]; omega
theorem ka_six {o : Nat} (h : o < 31) (h1 : ka o = 6) : o = 30 := by
  have : ∀ m : Fin 31, (shp.getD m.val (0, 0, 0)).2.2 = 6 → m.val = 30 := by decide
  exact this ⟨o, h⟩ h1
set_option maxRecDepth 4000 in
set_option maxHeartbeats 12800000 in
theorem rcheck_any (base : Nat) (c : Cd) (w : World) (T : Tab w) (h0 : 0 < base) (hB : base ≤ w.heap.size) (P : PsAt base w c) (hnn : c.ns.xs.length ≤ 9223372036854775807) :
    Calls Tryd.prog 6 #[.agg #[.slice c.ps.la c.ps.xs.length c.ps.lc, .slice c.ns.la c.ns.xs.length c.ns.lc]] w fun e w' => e = .returned (.int .i64 (checkP c)) ∧ Below w.heap.size w w' := by
  have bA : Below w.heap.size w (w.alloc (.cells #[.slice c.ps.la c.ps.xs.length c.ps.lc, .slice c.ns.la c.ns.xs.length c.ns.lc] 25)) := (Below.refl _ _).alloc (Nat.le_refl _) _
  have kA := Blk.new w #[.slice c.ps.la c.ps.xs.length c.ps.lc, .slice c.ns.la c.ns.xs.length c.ns.lc] 25
  have HTb : Hid (Tab w) := T
  have HPs : Hid (PsAt base w c) := P
  clear T P
  go_enter Tryd.func6, Tryd.ntmps6
  by_cases hbig : 32 < (c.ps.xs.length : Int)
  · have HC : Hid (checkP c = 3) := by show _ = _; simp only [checkP, tooB, decide_eq_true hbig, Bool.true_or, if_true]
    go_wp2
    go_ret
    exact ⟨by rw [HC.out]; rfl, bA⟩
  have HTT : Hid (tooB c = c.ps.xs.any tooPc) := by show _ = _; simp only [tooB, decide_eq_false hbig, Bool.false_or]
  go_wp2_with fail
  go_loopw [3, 4] (fun iv pv wv => ∃ (k : Nat), k ≤ c.ps.xs.length ∧ iv = .int .i64 k ∧ Hid ((c.ps.xs.take k).any tooPc = false) ∧ Below w.heap.size w wv ∧ Blk wv w.heap.size #[.slice c.ps.la c.ps.xs.length c.ps.lc, .slice c.ns.la c.ns.xs.length c.ns.lc] 25) (fun iv _ _ => c.ps.xs.length - (intOf iv).toNat)
  case atStart => exact ⟨0, Nat.zero_le _, rfl, by show _ = _; simp, bA, kA⟩
  case round =>
    obtain ⟨k, hk, rfl, Hk, bk, kk⟩ := hrel
    clear bA kA
    have q0 := kk.cell 0
    simp only [List.getElem?_toArray, List.getElem?_cons_succ, List.getElem?_cons_zero] at q0
    have hzc := kk.lt
    by_cases hkn : k < c.ps.xs.length
    · have hki : (k : Int) < (c.ps.xs.length : Int) := by omega
      obtain ⟨p, hp⟩ : ∃ p, c.ps.xs[k]? = some p := ⟨_, List.getElem?_eq_getElem hkn⟩
      obtain ⟨rb, ro, e, hb, hz, c0, c1, c2, c3, c4, _⟩ := PsAt.pc (Lst.Held.below HPs.out (bk.mono hB)) k p hp
      have a1 : Below wr.heap.size wr (wr.alloc (.cells #[.string ⟨p.nm.toArray⟩, .bool p.open_, .int .i64 p.pa, .int .i64 p.lo, .slice p.bd.la p.bd.xs.length p.bd.lc] 34)) := (Below.refl _ _).alloc (Nat.le_refl _) _
      have b1 := bk.trans (a1.mono bk.size)
      have k1 := kk.below a1 kk.lt
      have HP := show Hid (_ = _) from hp
      rw [e] at q0 k1 ⊢
      clear hp HPs HTb kk
      cases ht : tooPc p
      · obtain ⟨s1, s2, s3⟩ : decide (2048 < (p.bd.xs.length : Int)) = false ∧ decide (32 < p.lo) = false ∧ decide (8 < p.pa) = false := by
          simp only [tooPc, Bool.or_eq_false_iff] at ht
          exact ⟨ht.1.1, ht.1.2, ht.2⟩
        have HN : Hid ((c.ps.xs.take (k + 1)).any tooPc = false) := by show _ = _; rw [any_take _ _ k p HP.out, Hk.out, ht]; rfl
        clear ht
        go_wp2
        exact ⟨⟨k + 1, by omega, by go_num, HN, b1, k1⟩, by simp [intOf]; omega⟩
      · have HN : Hid (tooB c = true) := by show _ = _; rw [HTT.out]; exact any_true _ _ k p HP.out ht
        have HC : Hid (checkP c = 3) := by show _ = _; simp [checkP, HN.out]
        by_cases s1 : 2048 < (p.bd.xs.length : Int)
        · have d1 := decide_eq_true s1
          clear ht
          go_wp2
          go_ret
          exact ⟨by rw [HC.out]; rfl, b1⟩
        have d1 := decide_eq_false s1
        by_cases s2 : 32 < p.lo
        · have d2 := decide_eq_true s2
          clear ht
          go_wp2
          go_ret
          exact ⟨by rw [HC.out]; rfl, b1⟩
        have d2 := decide_eq_false s2
        have d3 : decide (8 < p.pa) = true := by simpa only [tooPc, d1, d2, Bool.false_or] using ht
        clear ht
        go_wp2
        go_ret
        exact ⟨by rw [HC.out]; rfl, b1⟩
    have hki : ¬ (k : Int) < (c.ps.xs.length : Int) := by omega
    have HT : Hid (tooB c = false) := by
      show _ = _
      have := Hk.out
      rw [List.take_of_length_le (by omega)] at this
      rw [HTT.out, this]
    have bS := bk
    have kS := kk
    clear Hk bk kk
    go_wp2_with fail
    clear hki hkn q0 hzc hk
    generalize wr = wq at *
    go_loopw [5, 6] (fun iv pv wv => ∃ (k : Nat), k ≤ c.ps.xs.length ∧ iv = .int .i64 k ∧ Hid ((c.ps.xs.take k).all (formPc c) = true) ∧ Below w.heap.size w wv ∧ Blk wv w.heap.size #[.slice c.ps.la c.ps.xs.length c.ps.lc, .slice c.ns.la c.ns.xs.length c.ns.lc] 25) (fun iv _ _ => c.ps.xs.length - (intOf iv).toNat)
    case atStart => exact ⟨0, Nat.zero_le _, rfl, by show _ = _; simp, bS, kS⟩
    case round =>
      obtain ⟨k, hk, rfl, Hk, bk, kk⟩ := hrel
      clear bS kS
      have q0 := kk.cell 0
      simp only [List.getElem?_toArray, List.getElem?_cons_succ, List.getElem?_cons_zero] at q0
      have hzc := kk.lt
      by_cases hkn : k < c.ps.xs.length
      · have hki : (k : Int) < (c.ps.xs.length : Int) := by omega
        obtain ⟨p, hp⟩ : ∃ p, c.ps.xs[k]? = some p := ⟨_, List.getElem?_eq_getElem hkn⟩
        obtain ⟨rb, ro, e, hb, hz, c0, c1, c2, c3, c4, hH⟩ := PsAt.pc (Lst.Held.below HPs.out (bk.mono hB)) k p hp
        have a1 : Below wr.heap.size wr (wr.alloc (.cells #[.string ⟨p.nm.toArray⟩, .bool p.open_, .int .i64 p.pa, .int .i64 p.lo, .slice p.bd.la p.bd.xs.length p.bd.lc] 34)) := (Below.refl _ _).alloc (Nat.le_refl _) _
        have kP1 := Blk.new wr #[.string ⟨p.nm.toArray⟩, .bool p.open_, .int .i64 p.pa, .int .i64 p.lo, .slice p.bd.la p.bd.xs.length p.bd.lc] 34
        have b1 := bk.trans (a1.mono bk.size)
        have k1 := kk.below a1 kk.lt
        have hH1 := hH.below (a1.mono (Nat.le_trans hB bk.size))
        obtain ⟨hs1, hs2, hs3⟩ := (too_small HT.out).2 p (List.mem_of_getElem? hp)
        have HP := show Hid (_ = _) from hp
        have HE0 := show Hid (_ = _) from e
        rw [e] at q0 ⊢
        clear hp hH kk
        by_cases p1 : p.pa < 0
        · have d1 := decide_eq_true p1
          have HN : Hid (formB c = false) := by show _ = _; exact all_false (formPc c) _ k p HP.out (by simp [formPc, p1])
          have HC : Hid (checkP c = 13) := by show _ = _; simp [checkP, HT.out, HN.out]
          clear HPs HTb hH1
          go_wp2
          go_ret
          exact ⟨by rw [HC.out]; rfl, b1⟩
        have d1 := decide_eq_false p1
        by_cases p2 : p.lo < p.pa
        · have d2 := decide_eq_true p2
          have HN : Hid (formB c = false) := by show _ = _; exact all_false (formPc c) _ k p HP.out (by simp [formPc, p2])
          have HC : Hid (checkP c = 13) := by show _ = _; simp [checkP, HT.out, HN.out]
          clear HPs HTb hH1
          go_wp2
          go_ret
          exact ⟨by rw [HC.out]; rfl, b1⟩
        have d2 := decide_eq_false p2
        have HF : Hid (formPc c p = p.bd.xs.all (fiB c.ps.xs.length c.ns.xs.length p.bd.xs.length p.lo)) := by show _ = _; simp only [formPc, d1, d2]; simp
        have r4 := kP1.cell 4
        simp only [List.getElem?_toArray, List.getElem?_cons_succ, List.getElem?_cons_zero] at r4
        go_wp2_with fail
        clear c0 c1 c2 c3 c4 r4 q0 hzc a1
        generalize wr = wx at *
        go_loopw [7, 8] (fun iv jv wv => ∃ (j : Nat), j ≤ p.bd.xs.length ∧ iv = .int .i64 j ∧ Hid ((p.bd.xs.take j).all (fiB c.ps.xs.length c.ns.xs.length p.bd.xs.length p.lo) = true) ∧ Below w.heap.size w wv ∧ Blk wv w.heap.size #[.slice c.ps.la c.ps.xs.length c.ps.lc, .slice c.ns.la c.ns.xs.length c.ns.lc] 25 ∧ Blk wv wx.heap.size #[.string ⟨p.nm.toArray⟩, .bool p.open_, .int .i64 p.pa, .int .i64 p.lo, .slice p.bd.la p.bd.xs.length p.bd.lc] 34 ∧ p.bd.Held Ins.flds 3 base wv) (fun iv _ _ => p.bd.xs.length - (intOf iv).toNat)
        case atStart => exact ⟨0, Nat.zero_le _, rfl, by show _ = _; simp, b1, k1, kP1, hH1⟩
        case round =>
          obtain ⟨j, hj, rfl, Hj, bj, kj, kPj, hHj⟩ := hrel
          clear b1 k1 kP1 hH1
          have v4 := kPj.cell 4
          simp only [List.getElem?_toArray, List.getElem?_cons_succ, List.getElem?_cons_zero] at v4
          have hzp := kPj.lt
          have hzc := kj.lt
          by_cases hjn : j < p.bd.xs.length
          rotate_left
          · have hji : ¬ (j : Int) < (p.bd.xs.length : Int) := by omega
            have HN : Hid ((c.ps.xs.take (k + 1)).all (formPc c) = true) := by
              show _ = _
              have := Hj.out
              rw [List.take_of_length_le (by omega)] at this
              rw [all_take (formPc c) _ k p HP.out, Hk.out, HF.out, this]; rfl
            clear Hj hHj kPj HPs HTb
            rw [HE0.out] at kj
            go_wp2
            exact ⟨⟨k + 1, by omega, by go_num, HN, bj, kj⟩, by simp [intOf]; omega⟩
          have hji : (j : Int) < (p.bd.xs.length : Int) := by omega
          obtain ⟨⟨op, a, b⟩, hi⟩ : ∃ i, p.bd.xs[j]? = some i := ⟨_, List.getElem?_eq_getElem hjn⟩
          obtain ⟨sb, so, e2, hb2, hz2, i0, i1, i2⟩ := ins_at hHj j _ hi
          simp only at i0 i1 i2
          have a2 : Below wr.heap.size wr (wr.alloc (.cells #[.int .i64 op, .int .i64 a, .int .i64 b] 31)) := (Below.refl _ _).alloc (Nat.le_refl _) _
          have kI := Blk.new wr #[.int .i64 op, .int .i64 a, .int .i64 b] 31
          have b2 := bj.trans (a2.mono bj.size)
          have k2 := kj.below a2 kj.lt
          have kP2 := kPj.below a2 kPj.lt
          have hH2 := hHj.below (a2.mono (Nat.le_trans hB bj.size))
          have HI := show Hid (_ = _) from hi
          have HLA := show Hid (_ = _) from e2
          have q0 := k2.cell 0
          have q1 := k2.cell 1
          have r0 := kP2.cell 0
          have r1 := kP2.cell 1
          have r2 := kP2.cell 2
          have r3 := kP2.cell 3
          have r4 := kP2.cell 4
          simp only [List.getElem?_toArray, List.getElem?_cons_succ, List.getElem?_cons_zero] at q0 q1 r0 r1 r2 r3 r4
          by_cases ho1 : op < 1
          · have dd := decide_eq_true ho1
            have HN : Hid (formB c = false) := by show _ = _; exact all_false (formPc c) _ k p HP.out (by rw [HF.out]; exact all_false _ _ j _ HI.out (by simp [fiB, isI, show ¬ 1 ≤ op by omega]))
            have HC : Hid (checkP c = 13) := by show _ = _; simp [checkP, HT.out, HN.out]
            rw [e2] at v4 ⊢
            clear HPs HTb hi e2 kj kPj hHj hH2
            go_wp2
            go_ret
            exact ⟨by rw [HC.out]; rfl, b2⟩
          have dd := decide_eq_false ho1
          by_cases ho2 : 30 < op
          · have de := decide_eq_true ho2
            have HN : Hid (formB c = false) := by show _ = _; exact all_false (formPc c) _ k p HP.out (by rw [HF.out]; exact all_false _ _ j _ HI.out (by simp [fiB, isI, show ¬ op ≤ 30 by omega]))
            have HC : Hid (checkP c = 13) := by show _ = _; simp [checkP, HT.out, HN.out]
            rw [e2] at v4 ⊢
            clear HPs HTb hi e2 kj kPj hHj hH2
            go_wp2
            go_ret
            exact ⟨by rw [HC.out]; rfl, b2⟩
          have de := decide_eq_false ho2
          obtain ⟨o, rfl⟩ : ∃ o : Nat, op = o := ⟨op.toNat, by omega⟩
          have ck := table_any base c o p.bd.la p.bd.xs.length p.bd.lc ⟨p.nm.toArray⟩ p.open_ p.pa p.lo a b _ (by omega) (by omega) ⟨by omega, hs2⟩ (by omega) (by omega) (Nat.le_trans hB b2.size) (Lst.Held.below HPs.out (b2.mono hB))
          have HM0 : Hid (0 ≤ a → (a ≤ mostP c.ps.xs.length p.bd.xs.length p.lo o a ↔ a < endA c.ps.xs.length p.bd.xs.length p.lo (ka o))) := fun h => most_iff h
          have HB : Hid ((¬ (0 ≤ a ∧ a < endA c.ps.xs.length p.bd.xs.length p.lo (ka o) ∧ 0 ≤ b ∧ b < endB c.ns.xs.length (ka o))) ∧ 1 = 1 → fiB c.ps.xs.length c.ns.xs.length p.bd.xs.length p.lo ⟨o, a, b⟩ = false) := fun h => by
            have h := h.1
            simp only [fiB, Int.toNat_natCast, Bool.and_eq_false_iff, decide_eq_false_iff_not]
            by_cases x1 : 0 ≤ a
            · by_cases x2 : a < endA c.ps.xs.length p.bd.xs.length p.lo (ka o)
              · by_cases x3 : 0 ≤ b
                · exact .inr (.inr fun x4 => h ⟨x1, x2, x3, x4⟩)
                · exact .inr (.inl (.inr x3))
              · exact .inr (.inl (.inl (.inr x2)))
            · exact .inr (.inl (.inl (.inl x1)))
          have HB1 : Hid ((0 ≤ a ∧ a < endA c.ps.xs.length p.bd.xs.length p.lo (ka o) ∧ 0 ≤ b ∧ b < endB c.ns.xs.length (ka o)) → fiB c.ps.xs.length c.ns.xs.length p.bd.xs.length p.lo ⟨o, a, b⟩ = true) := fun h => by
            simp only [fiB, isI, Int.toNat_natCast, Bool.and_eq_true, decide_eq_true_eq]
            exact ⟨⟨by omega, by omega⟩, ⟨⟨h.1, h.2.1⟩, h.2.2.1⟩, h.2.2.2⟩
          rw [e2] at v4 r4 ck ⊢
          rw [HE0.out] at q0 ck
          clear hi e2 kj kPj hHj HTb
          go_wp2_with fail
          refine ck.mono ?_
          rintro e3 w1 ⟨⟨tt, ll, rfl, _⟩, b3⟩
          have B3 := b2.trans (b3.mono b2.size)
          have k3 := k2.below b3 k2.lt
          have kP3 := kP2.below b3 kP2.lt
          have hH3 := hH2.below (b3.mono (Nat.le_trans hB b2.size))
          have kI3 := kI.below b3 kI.lt
          have u0 := kI3.cell 0
          have u1 := kI3.cell 1
          have u2 := kI3.cell 2
          have q1' := k3.cell 1
          simp only [List.getElem?_toArray, List.getElem?_cons_succ, List.getElem?_cons_zero] at u0 u1 u2 q1'
          have hzi := kI3.lt
          have hzc3 := k3.lt
          clear ck q0 q1 r0 r1 r2 r3 r4 v4 k2 kP2 hH2 i0 i1 i2 kI kI3 a2
          obtain ⟨M, HMM⟩ : ∃ M, Hid (mostP c.ps.xs.length p.bd.xs.length p.lo o a = M) := ⟨_, rfl⟩
          rw [HMM.out]
          have HM : Hid (0 ≤ a → (a ≤ M ↔ a < endA c.ps.xs.length p.bd.xs.length p.lo (ka o))) := by
            have := HM0.out
            rw [HMM.out] at this
            exact this
          clear HM0 HMM
          by_cases e30 : o = 30
          · subst e30
            have HE : Hid (b < endB c.ns.xs.length (ka 30) ↔ b ≤ (c.ns.xs.length : Int) - 1) := by
              show _ ↔ _
              rw [show endB c.ns.xs.length (ka 30) = (c.ns.xs.length : Int) from rfl]; omega
            by_cases a0 : a < 0
            · have d0 := decide_eq_true a0
              have HN : Hid (formB c = false) := by show _ = _; exact all_false (formPc c) _ k p HP.out (by rw [HF.out]; exact all_false _ _ j ⟨(30 : Nat), a, b⟩ HI.out (HB.out ⟨fun h => by have := h.1; omega, by first | rfl | trivial⟩))
              have HC : Hid (checkP c = 13) := by show _ = _; simp [checkP, HT.out, HN.out]
              go_wp2
              go_ret
              exact ⟨by rw [HC.out]; rfl, B3⟩
            have d0 := decide_eq_false a0
            have aP : 0 ≤ a := by omega
            by_cases a1 : M < a
            · have d1 := decide_eq_true a1
              have HN : Hid (formB c = false) := by show _ = _; exact all_false (formPc c) _ k p HP.out (by rw [HF.out]; exact all_false _ _ j ⟨(30 : Nat), a, b⟩ HI.out (HB.out ⟨fun h => by have := (HM.out aP).2 h.2.1; omega, by first | rfl | trivial⟩))
              have HC : Hid (checkP c = 13) := by show _ = _; simp [checkP, HT.out, HN.out]
              go_wp2
              go_ret
              exact ⟨by rw [HC.out]; rfl, B3⟩
            have d1 := decide_eq_false a1
            by_cases b0 : b < 0
            · have d2 := decide_eq_true b0
              have HN : Hid (formB c = false) := by show _ = _; exact all_false (formPc c) _ k p HP.out (by rw [HF.out]; exact all_false _ _ j ⟨(30 : Nat), a, b⟩ HI.out (HB.out ⟨fun h => by have := h.2.2.1; omega, by first | rfl | trivial⟩))
              have HC : Hid (checkP c = 13) := by show _ = _; simp [checkP, HT.out, HN.out]
              go_wp2
              go_ret
              exact ⟨by rw [HC.out]; rfl, B3⟩
            have d2 := decide_eq_false b0
            by_cases b1 : ((c.ns.xs.length : Int) - 1) < b
            · have d3 := decide_eq_true b1
              have HN : Hid (formB c = false) := by show _ = _; exact all_false (formPc c) _ k p HP.out (by rw [HF.out]; exact all_false _ _ j ⟨(30 : Nat), a, b⟩ HI.out (HB.out ⟨fun h => by have := HE.out.1 h.2.2.2; omega, by first | rfl | trivial⟩))
              have HC : Hid (checkP c = 13) := by show _ = _; simp [checkP, HT.out, HN.out]
              go_wp2
              go_ret
              exact ⟨by rw [HC.out]; rfl, B3⟩
            have d3 := decide_eq_false b1
            have HN : Hid ((p.bd.xs.take (j + 1)).all (fiB c.ps.xs.length c.ns.xs.length p.bd.xs.length p.lo) = true) := by show _ = _; rw [all_take _ _ j ⟨(30 : Nat), a, b⟩ HI.out, Hj.out, HB1.out ⟨aP, (HM.out aP).1 (by omega), by omega, HE.out.2 (by omega)⟩]; rfl
            rw [HLA.out] at kP3
            go_wp2
            exact ⟨⟨j + 1, by omega, by go_num, HN, B3, k3, kP3, hH3⟩, by simp [intOf]; omega⟩
          · have g30 : ((o : Int) == 30) = false := by simp; omega
            have HE : Hid (b < endB c.ns.xs.length (ka o) ↔ b ≤ 0) := by
              show _ ↔ _
              have hne : ¬ ka o = 6 := fun h => e30 (ka_six (by omega) h)
              simp only [endB, if_neg hne]; omega
            by_cases a0 : a < 0
            · have d0 := decide_eq_true a0
              have HN : Hid (formB c = false) := by show _ = _; exact all_false (formPc c) _ k p HP.out (by rw [HF.out]; exact all_false _ _ j ⟨o, a, b⟩ HI.out (HB.out ⟨fun h => by have := h.1; omega, by first | rfl | trivial⟩))
              have HC : Hid (checkP c = 13) := by show _ = _; simp [checkP, HT.out, HN.out]
              go_wp2
              go_ret
              exact ⟨by rw [HC.out]; rfl, B3⟩
            have d0 := decide_eq_false a0
            have aP : 0 ≤ a := by omega
            by_cases a1 : M < a
            · have d1 := decide_eq_true a1
              have HN : Hid (formB c = false) := by show _ = _; exact all_false (formPc c) _ k p HP.out (by rw [HF.out]; exact all_false _ _ j ⟨o, a, b⟩ HI.out (HB.out ⟨fun h => by have := (HM.out aP).2 h.2.1; omega, by first | rfl | trivial⟩))
              have HC : Hid (checkP c = 13) := by show _ = _; simp [checkP, HT.out, HN.out]
              go_wp2
              go_ret
              exact ⟨by rw [HC.out]; rfl, B3⟩
            have d1 := decide_eq_false a1
            by_cases b0 : b < 0
            · have d2 := decide_eq_true b0
              have HN : Hid (formB c = false) := by show _ = _; exact all_false (formPc c) _ k p HP.out (by rw [HF.out]; exact all_false _ _ j ⟨o, a, b⟩ HI.out (HB.out ⟨fun h => by have := h.2.2.1; omega, by first | rfl | trivial⟩))
              have HC : Hid (checkP c = 13) := by show _ = _; simp [checkP, HT.out, HN.out]
              go_wp2
              go_ret
              exact ⟨by rw [HC.out]; rfl, B3⟩
            have d2 := decide_eq_false b0
            by_cases b1 : (0 : Int) < b
            · have d3 := decide_eq_true b1
              have HN : Hid (formB c = false) := by show _ = _; exact all_false (formPc c) _ k p HP.out (by rw [HF.out]; exact all_false _ _ j ⟨o, a, b⟩ HI.out (HB.out ⟨fun h => by have := HE.out.1 h.2.2.2; omega, by first | rfl | trivial⟩))
              have HC : Hid (checkP c = 13) := by show _ = _; simp [checkP, HT.out, HN.out]
              go_wp2
              go_ret
              exact ⟨by rw [HC.out]; rfl, B3⟩
            have d3 := decide_eq_false b1
            have HN : Hid ((p.bd.xs.take (j + 1)).all (fiB c.ps.xs.length c.ns.xs.length p.bd.xs.length p.lo) = true) := by show _ = _; rw [all_take _ _ j ⟨o, a, b⟩ HI.out, Hj.out, HB1.out ⟨aP, (HM.out aP).1 (by omega), by omega, HE.out.2 (by omega)⟩]; rfl
            rw [HLA.out] at kP3
            go_wp2
            exact ⟨⟨j + 1, by omega, by go_num, HN, B3, k3, kP3, hH3⟩, by simp [intOf]; omega⟩
      have hki : ¬ (k : Int) < (c.ps.xs.length : Int) := by omega
      have HFo : Hid (formB c = true) := by
        show _ = _
        have := Hk.out
        rw [List.take_of_length_le (by omega)] at this
        exact this
      have bS := bk
      have kS := kk
      clear Hk bk kk
      go_wp2_with fail
      clear hki hkn q0 hzc hk
      generalize wr = wx at *
      have hall : ∀ p ∈ c.ps.xs, (0 ≤ p.pa ∧ p.pa ≤ 8) ∧ p.bd.xs.length ≤ 2048 ∧ (0 ≤ p.lo ∧ p.lo ≤ 32) ∧ ∀ i ∈ p.bd.xs, fiB c.ps.xs.length c.ns.xs.length p.bd.xs.length p.lo i = true := by
        intro p hp
        obtain ⟨x1, x2, x3⟩ := (too_small HT.out).2 p hp
        have h2 := List.all_eq_true.1 HFo.out p hp
        simp only [formPc, Bool.and_eq_true, Bool.not_eq_true', Bool.or_eq_false_iff, decide_eq_false_iff_not] at h2
        exact ⟨⟨by omega, by omega⟩, by omega, ⟨by omega, by omega⟩, fun i hi => List.all_eq_true.1 h2.2 i hi⟩
      have hn32 : c.ps.xs.length ≤ 32 := by omega
      have HY : Hid (∀ (y : World) (p : Pc), p ∈ c.ps.xs → Below w.heap.size w y → p.bd.Held Ins.flds 3 base y → Calls Tryd.prog 15 #[.agg #[.slice c.ps.la c.ps.xs.length c.ps.lc, .slice c.ns.la c.ns.xs.length c.ns.lc], .agg #[.string ⟨p.nm.toArray⟩, .bool p.open_, .int .i64 p.pa, .int .i64 p.lo, .slice p.bd.la p.bd.xs.length p.bd.lc]] y fun e w' => e = .returned (.bool (goodB c.ps.xs p.bd.xs)) ∧ Below y.heap.size y w') := fun y p hp hy hH =>
        rflows_any base c p y ⟨HTb.out.below hy HTb.out.1, h0, Nat.le_trans hB hy.size, Lst.Held.below HPs.out (hy.mono hB), hH⟩ (hall p hp).2.2.2 (fun q hq => (hall q hq).1) (hall p hp).2.1 (hall p hp).2.2.1 hn32
      clear hall HTb
      go_loopw [13, 14] (fun iv gv wv => ∃ (k : Nat), k ≤ c.ps.xs.length ∧ iv = .int .i64 k ∧ Hid ((c.ps.xs.take k).all (fun p => goodB c.ps.xs p.bd.xs) = true) ∧ Below w.heap.size w wv ∧ Blk wv w.heap.size #[.slice c.ps.la c.ps.xs.length c.ps.lc, .slice c.ns.la c.ns.xs.length c.ns.lc] 25) (fun iv _ _ => c.ps.xs.length - (intOf iv).toNat)
      case atStart => exact ⟨0, Nat.zero_le _, rfl, by show _ = _; simp, bS, kS⟩
      case round =>
        obtain ⟨k, hk, rfl, Hk, bk, kk⟩ := hrel
        clear bS kS
        have q0 := kk.cell 0
        have q1 := kk.cell 1
        simp only [List.getElem?_toArray, List.getElem?_cons_succ, List.getElem?_cons_zero] at q0 q1
        have hzc := kk.lt
        by_cases hkn : k < c.ps.xs.length
        rotate_left
        · have hki : ¬ (k : Int) < (c.ps.xs.length : Int) := by omega
          have HC : Hid (checkP c = 0) := by
            show _ = _
            have := Hk.out
            rw [List.take_of_length_le (by omega)] at this
            have hF : flowB c = true := this
            simp [checkP, HT.out, HFo.out, hF]
          clear Hk HY HPs
          go_wp2
          go_ret
          exact ⟨by rw [HC.out]; rfl, bk⟩
        have hki : (k : Int) < (c.ps.xs.length : Int) := by omega
        obtain ⟨p, hp⟩ : ∃ p, c.ps.xs[k]? = some p := ⟨_, List.getElem?_eq_getElem hkn⟩
        obtain ⟨rb, ro, e, hb, hz, c0, c1, c2, c3, c4, hH⟩ := PsAt.pc (Lst.Held.below HPs.out (bk.mono hB)) k p hp
        have ck := HY.out wr.drew p (List.mem_of_getElem? hp) bk.drew (hH.below (Below.refl _ _).drew)
        have HP := show Hid (_ = _) from hp
        have HE0 := show Hid (_ = _) from e
        rw [e] at q0 ck ⊢
        clear hp hH HPs HY e
        go_wp2_with fail
        go_region_held3 (fun w' => w'.cell? ⟨w.heap.size, 0, none⟩ = some (.slice (some ⟨rb, ro, none⟩) c.ps.xs.length c.ps.lc) ∧ w'.cell? ⟨w.heap.size, 1, none⟩ = some (.slice c.ns.la c.ns.xs.length c.ns.lc) ∧ w'.cell? ⟨rb, ro + k * 5, none⟩ = some (.string ⟨p.nm.toArray⟩) ∧ w'.cell? ⟨rb, ro + k * 5 + 1, none⟩ = some (.bool p.open_) ∧ w'.cell? ⟨rb, ro + k * 5 + 2, none⟩ = some (.int .i64 p.pa) ∧ w'.cell? ⟨rb, ro + k * 5 + 3, none⟩ = some (.int .i64 p.lo) ∧ w'.cell? ⟨rb, ro + k * 5 + 4, none⟩ = some (.slice p.bd.la p.bd.xs.length p.bd.lc)) (go_keep)
          (first
          | (go_at_call 15
             refine ck.mono ?_
             rintro e1 w1 ⟨rfl, b1'⟩
             have b1 : Below wr.heap.size wr w1 := ((Below.refl _ _).drew).trans b1'
             have y0 : w1.cell? ⟨w.heap.size, 0, none⟩ = some (.slice (some ⟨rb, ro, none⟩) c.ps.xs.length c.ps.lc) := by rw [b1.cell (p := ⟨w.heap.size, 0, none⟩) hzc]; exact q0
             have y1 : w1.cell? ⟨w.heap.size, 1, none⟩ = some (.slice c.ns.la c.ns.xs.length c.ns.lc) := by rw [b1.cell (p := ⟨w.heap.size, 1, none⟩) hzc]; exact q1
             have z0 : w1.cell? ⟨rb, ro + k * 5, none⟩ = some (.string ⟨p.nm.toArray⟩) := by rw [b1.cell (p := ⟨rb, ro + k * 5, none⟩) hz]; exact c0
             have z1 : w1.cell? ⟨rb, ro + k * 5 + 1, none⟩ = some (.bool p.open_) := by rw [b1.cell (p := ⟨rb, ro + k * 5 + 1, none⟩) hz]; exact c1
             have z2 : w1.cell? ⟨rb, ro + k * 5 + 2, none⟩ = some (.int .i64 p.pa) := by rw [b1.cell (p := ⟨rb, ro + k * 5 + 2, none⟩) hz]; exact c2
             have z3 : w1.cell? ⟨rb, ro + k * 5 + 3, none⟩ = some (.int .i64 p.lo) := by rw [b1.cell (p := ⟨rb, ro + k * 5 + 3, none⟩) hz]; exact c3
             have z4 : w1.cell? ⟨rb, ro + k * 5 + 4, none⟩ = some (.slice p.bd.la p.bd.xs.length p.bd.lc) := by rw [b1.cell (p := ⟨rb, ro + k * 5 + 4, none⟩) hz]; exact c4))
        have B1 := bk.trans (b1.mono bk.size)
        have k1 := kk.below b1 kk.lt
        clear ck q0 q1 c0 c1 c2 c3 c4 y0 y1 z0 z1 z2 z3 z4 kk b1'
        simp only [Exit.then]
        cases hg : goodB c.ps.xs p.bd.xs
        · have hF : flowB c = false := all_false (fun p : Pc => goodB c.ps.xs p.bd.xs) _ k p HP.out hg
          have HC : Hid (checkP c = 13) := by show _ = _; simp [checkP, HT.out, HFo.out, hF]
          clear hg hF
          go_wp2
          go_ret
          exact ⟨by rw [HC.out]; rfl, B1⟩
        · have HN : Hid ((c.ps.xs.take (k + 1)).all (fun p => goodB c.ps.xs p.bd.xs) = true) := by show _ = _; rw [all_take (fun p : Pc => goodB c.ps.xs p.bd.xs) _ k p HP.out, Hk.out, hg]; rfl
          clear hg
          rw [HE0.out] at k1
          go_wp2
          exact ⟨⟨k + 1, by omega, by go_num, HN, B1, k1⟩, by simp [intOf]; omega⟩
end Go.Proofs.YtemjajljpoaioaaDoor
