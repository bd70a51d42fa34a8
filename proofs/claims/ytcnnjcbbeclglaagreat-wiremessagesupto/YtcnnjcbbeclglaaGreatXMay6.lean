/- Which lists of votes and motions may be. -/
import Derived.Test.YtcnnjcbbeclglaaGreatXMay5
namespace Go.Proofs.YtcnnjcbbeclglaaGreat
open Go.RowKit
set_option linter.unusedVariables false
set_option linter.unusedSimpArgs false

set_option maxHeartbeats 1600000 in
theorem allVote_anyX (base : Nat) (l : Lst Vote) (w : World) (hb0 : base ≤ w.heap.size) (hh : l.Held Vote.flds 6 base w) :
    Calls Tryz.prog 33 #[.slice l.la l.xs.length l.lc, .func (.func 34) #[] #[]] w fun e w' => e = .returned (.bool (l.xs.all Vote.may)) ∧ Below w.heap.size w w' := by
  obtain ⟨la, lc, xs⟩ := l
  obtain ⟨hc, hcm, _⟩ := id hh
  simp only at hc hcm ⊢
  unfold maxLen at hcm
  go_enter Tryz.func33, Tryz.ntmps33
  go_wp2
  go_loopw [6, 9] (fun _ iv wv => ∃ (k : Nat), k ≤ xs.length ∧ iv = .int .i64 k ∧ Hid (xs.all Vote.may = (xs.drop k).all Vote.may) ∧ Below w.heap.size w wv) (fun _ iv _ => xs.length - (intOf iv).toNat)
  case atStart => exact ⟨0, Nat.zero_le _, rfl, rfl, Below.refl _ _⟩
  case round =>
    obtain ⟨k, hk, rfl, HR, hb⟩ := hrel
    by_cases hlt : k < xs.length
    · have hlt' : (k : Int) < (xs.length : Int) := by omega
      obtain ⟨_, _, h0 | ⟨rb, ro, e0, rl, rz, rc⟩⟩ := hh.below (hb.mono hb0)
      · simp only at h0; subst h0; simp at hlt
      simp only at e0 rc
      subst e0
      have rk := rc k (xs[k]'hlt) (List.getElem?_eq_getElem hlt)
      have HS : Hid ((xs.drop k).all Vote.may = (Vote.may (xs[k]'hlt) && (xs.drop (k + 1)).all Vote.may)) := by
        show _ = _
        rw [List.drop_eq_getElem_cons hlt]; rfl
      obtain ⟨y, Hy⟩ : ∃ y : Vote, Hid (y = xs[k]'hlt) := ⟨xs[k]'hlt, rfl⟩
      rw [← Hy.out] at rk HS
      have e1 := rk.get0 rfl
      have e2 := rk.get 1 rfl
      have e3 := rk.get 2 rfl
      have e4 := rk.get 3 rfl
      have e5 := rk.get 4 rfl
      have e6 := rk.get 5 rfl
      simp only [Fld.val, Lst.fld, List.length_map] at e1 e2 e3 e4 e5 e6
      have hb1 := (hb.alloc hb.size (.cells #[.int .i64 y.h, .int .i64 y.r, .int .i64 y.s, .bool y.has, .int .u64 y.bl, .int .i64 y.f] 35))
      have gd := (rk.goods.below (hb1' hb hb0 (.cells #[.int .i64 y.h, .int .i64 y.r, .int .i64 y.s, .bool y.has, .int .u64 y.bl, .int .i64 y.f] 35))).mono (Nat.le_trans hb0 hb1.size)
      clear rc rk
      go_wp2_with fail
      refine (mayVote_anyX y _ gd).mono ?_
      rintro e w1 ⟨rfl, b1⟩
      have hb2 := hb1.trans (b1.mono hb1.size)
      cases hm : Vote.may y
      · have Hf : Hid (xs.all Vote.may = false) := by
          show _ = _
          rw [HR.out, HS.out, hm]; rfl
        clear HR HS hm
        go_wp2
        go_ret
        exact ⟨by rw [Hf.out]; rfl, hb2⟩
      · have Hf : Hid (xs.all Vote.may = (xs.drop (k + 1)).all Vote.may) := by
          show _ = _
          rw [HR.out, HS.out, hm]; rfl
        clear HR HS hm
        go_wp2
        exact ⟨⟨k + 1, by omega, by go_num, Hf, hb2⟩, by simp [intOf]; omega⟩
    · have Hf : Hid (xs.all Vote.may = true) := by
        show _ = _
        rw [HR.out, List.drop_of_length_le (by omega)]; rfl
      have hge : ¬ (k : Int) < (xs.length : Int) := by omega
      clear HR
      go_wp2
      go_ret
      exact ⟨by rw [Hf.out]; rfl, hb⟩

set_option maxHeartbeats 1600000 in
theorem allMotion_anyX (base : Nat) (l : Lst Motion) (hn : ∀ y ∈ l.xs, wtL y.atoms ≤ 1099400000000) (w : World) (hb0 : base ≤ w.heap.size) (hh : l.Held Motion.flds 14 base w) :
    Calls Tryz.prog 35 #[.slice l.la l.xs.length l.lc, .func (.func 36) #[] #[]] w fun e w' => e = .returned (.bool (l.xs.all Motion.may)) ∧ Below w.heap.size w w' := by
  obtain ⟨la, lc, xs⟩ := l
  obtain ⟨hc, hcm, _⟩ := id hh
  simp only at hc hcm hn ⊢
  unfold maxLen at hcm
  go_enter Tryz.func35, Tryz.ntmps35
  go_wp2
  go_loopw [6, 9] (fun _ iv wv => ∃ (k : Nat), k ≤ xs.length ∧ iv = .int .i64 k ∧ Hid (xs.all Motion.may = (xs.drop k).all Motion.may) ∧ Below w.heap.size w wv) (fun _ iv _ => xs.length - (intOf iv).toNat)
  case atStart => exact ⟨0, Nat.zero_le _, rfl, rfl, Below.refl _ _⟩
  case round =>
    obtain ⟨k, hk, rfl, HR, hb⟩ := hrel
    by_cases hlt : k < xs.length
    · have hlt' : (k : Int) < (xs.length : Int) := by omega
      obtain ⟨_, _, h0 | ⟨rb, ro, e0, rl, rz, rc⟩⟩ := hh.below (hb.mono hb0)
      · simp only at h0; subst h0; simp at hlt
      simp only at e0 rc
      subst e0
      have rk := rc k (xs[k]'hlt) (List.getElem?_eq_getElem hlt)
      have HS : Hid ((xs.drop k).all Motion.may = (Motion.may (xs[k]'hlt) && (xs.drop (k + 1)).all Motion.may)) := by
        show _ = _
        rw [List.drop_eq_getElem_cons hlt]; rfl
      obtain ⟨y, Hy⟩ : ∃ y : Motion, Hid (y = xs[k]'hlt) := ⟨xs[k]'hlt, rfl⟩
      rw [← Hy.out] at rk HS
      have e1 := rk.get0 rfl
      have e2 := rk.get 1 rfl
      have e3 := rk.get 2 rfl
      have e4 := rk.get 3 rfl
      have e5 := rk.get 4 rfl
      have e6 := rk.get 5 rfl
      have e7 := rk.get 6 rfl
      have e8 := rk.get 7 rfl
      have e9 := rk.get 8 rfl
      have e10 := rk.get 9 rfl
      have e11 := rk.get 10 rfl
      have e12 := rk.get 11 rfl
      have e13 := rk.get 12 rfl
      have e14 := rk.get 13 rfl
      simp only [Fld.val, Lst.fld, List.length_map] at e1 e2 e3 e4 e5 e6 e7 e8 e9 e10 e11 e12 e13 e14
      have hb1 := (hb.alloc hb.size (.cells #[.int .i64 y.ro, .int .i64 y.fr, .int .i64 y.bl.hd.c, .int .i64 y.bl.hd.h, .int .u64 y.bl.hd.pa, .int .u64 y.bl.hd.tx, .int .u64 y.bl.hd.gu, .int .u64 y.bl.hd.st, .int .u64 y.bl.hd.re, .int .u64 y.bl.hd.be, .int .i64 y.bl.hd.pr, .slice y.bl.tx.la y.bl.tx.xs.length y.bl.tx.lc, .slice y.bl.gu.la y.bl.gu.xs.length y.bl.gu.lc, .slice y.ba.la y.ba.xs.length y.ba.lc] 43))
      have gd := (rk.goods.below (hb1' hb hb0 (.cells #[.int .i64 y.ro, .int .i64 y.fr, .int .i64 y.bl.hd.c, .int .i64 y.bl.hd.h, .int .u64 y.bl.hd.pa, .int .u64 y.bl.hd.tx, .int .u64 y.bl.hd.gu, .int .u64 y.bl.hd.st, .int .u64 y.bl.hd.re, .int .u64 y.bl.hd.be, .int .i64 y.bl.hd.pr, .slice y.bl.tx.la y.bl.tx.xs.length y.bl.tx.lc, .slice y.bl.gu.la y.bl.gu.xs.length y.bl.gu.lc, .slice y.ba.la y.ba.xs.length y.ba.lc] 43))).mono (Nat.le_trans hb0 hb1.size)
      clear rc rk
      go_wp2_with fail
      refine (mayMotion_anyX y _ gd (hn y (by rw [Hy.out]; exact List.getElem_mem hlt))).mono ?_
      rintro e w1 ⟨rfl, b1⟩
      have hb2 := hb1.trans (b1.mono hb1.size)
      cases hm : Motion.may y
      · have Hf : Hid (xs.all Motion.may = false) := by
          show _ = _
          rw [HR.out, HS.out, hm]; rfl
        clear HR HS hm
        go_wp2
        go_ret
        exact ⟨by rw [Hf.out]; rfl, hb2⟩
      · have Hf : Hid (xs.all Motion.may = (xs.drop (k + 1)).all Motion.may) := by
          show _ = _
          rw [HR.out, HS.out, hm]; rfl
        clear HR HS hm
        go_wp2
        exact ⟨⟨k + 1, by omega, by go_num, Hf, hb2⟩, by simp [intOf]; omega⟩
    · have Hf : Hid (xs.all Motion.may = true) := by
        show _ = _
        rw [HR.out, List.drop_of_length_le (by omega)]; rfl
      have hge : ¬ (k : Int) < (xs.length : Int) := by omega
      clear HR
      go_wp2
      go_ret
      exact ⟨by rw [Hf.out]; rfl, hb⟩

end Go.Proofs.YtcnnjcbbeclglaaGreat
