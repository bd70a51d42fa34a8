/- Which blocks may be. -/
import Derived.Test.YtgppnghnjdkfdaaGreatXMay3
import Derived.Test.YtgppnghnjdkfdaaGreatXVote
import Derived.Test.YtgppnghnjdkfdaaGreatWM7
namespace Go.Proofs.YtgppnghnjdkfdaaGreat
open Go.RowKit
set_option linter.unusedVariables false
set_option linter.unusedSimpArgs false

set_option maxHeartbeats 1600000 in
theorem allTx_anyX (base : Nat) (l : Lst Tx) (hn : ∀ y ∈ l.xs, wtL y.atoms ≤ 1099400000000) (w : World) (hb0 : base ≤ w.heap.size) (hh : l.Held Tx.flds 11 base w) :
    Calls Tryz.prog 64 #[.slice l.la l.xs.length l.lc, .func (.func 65) #[] #[]] w fun e w' => e = .returned (.bool (l.xs.all Tx.may)) ∧ Below w.heap.size w w' := by
  obtain ⟨la, lc, xs⟩ := l
  obtain ⟨hc, hcm, _⟩ := id hh
  simp only at hc hcm hn ⊢
  unfold maxLen at hcm
  go_enter Tryz.func64, Tryz.ntmps64
  go_wp2
  go_loopw [6, 9] (fun _ iv wv => ∃ (k : Nat), k ≤ xs.length ∧ iv = .int .i64 k ∧ Hid (xs.all Tx.may = (xs.drop k).all Tx.may) ∧ Below w.heap.size w wv) (fun _ iv _ => xs.length - (intOf iv).toNat)
  case atStart => exact ⟨0, Nat.zero_le _, rfl, rfl, Below.refl _ _⟩
  case round =>
    obtain ⟨k, hk, rfl, HR, hb⟩ := hrel
    by_cases hlt : k < xs.length
    · have hlt' : (k : Int) < (xs.length : Int) := by omega
      obtain ⟨_, _, h0 | ⟨rb, ro, e0, rl, rz, rc⟩⟩ := hh.below (hb.mono hb0)
      · simp only at h0; subst h0; simp at hlt
      simp only at e0 rc
      subst e0
      have rk := rc k (xs[k]'hlt) (List.getElem?_eq_getElem hlt)
      have HS : Hid ((xs.drop k).all Tx.may = (Tx.may (xs[k]'hlt) && (xs.drop (k + 1)).all Tx.may)) := by
        show _ = _
        rw [List.drop_eq_getElem_cons hlt]; rfl
      obtain ⟨y, Hy⟩ : ∃ y : Tx, Hid (y = xs[k]'hlt) := ⟨xs[k]'hlt, rfl⟩
      rw [← Hy.out] at rk HS
      have e1 := rk.get0 rfl
      have e2 := rk.get 1 rfl
      have e3 := rk.get 2 rfl
      have e4 := rk.get 3 rfl
      have e5 := rk.get 4 rfl
      have e6 := rk.get 5 rfl
      have e7 := rk.get 6 rfl
      have e8 := rk.get 7 rfl
      have e9 := rk.get 8 rfl
      have e10 := rk.get 9 rfl
      have e11 := rk.get 10 rfl
      simp only [Fld.val, Lst.fld, List.length_map] at e1 e2 e3 e4 e5 e6 e7 e8 e9 e10 e11
      have hb1 := (hb.alloc hb.size (.cells #[.int .i64 y.k, .int .i64 y.f, .int .i64 y.n, .int .i64 y.p, .int .i64 y.li, .int .i64 y.to, .int .i64 y.am, .string ⟨y.te.toArray⟩, .slice y.ar.la y.ar.xs.length y.ar.lc, .slice y.si.la y.si.xs.length y.si.lc, .slice y.pr.la y.pr.xs.length y.pr.lc] 52))
      have gd := (rk.goods.below (hb1' hb hb0 (.cells #[.int .i64 y.k, .int .i64 y.f, .int .i64 y.n, .int .i64 y.p, .int .i64 y.li, .int .i64 y.to, .int .i64 y.am, .string ⟨y.te.toArray⟩, .slice y.ar.la y.ar.xs.length y.ar.lc, .slice y.si.la y.si.xs.length y.si.lc, .slice y.pr.la y.pr.xs.length y.pr.lc] 52))).mono (Nat.le_trans hb0 hb1.size)
      clear rc rk
      go_wp2_with fail
      refine (mayTx_anyX y _ gd (y.short_of (hn y (by rw [Hy.out]; exact List.getElem_mem hlt)))).mono ?_
      rintro e w1 ⟨rfl, b1⟩
      have hb2 := hb1.trans (b1.mono hb1.size)
      cases hm : Tx.may y
      · have Hf : Hid (xs.all Tx.may = false) := by
          show _ = _
          rw [HR.out, HS.out, hm]; rfl
        clear HR HS hm
        go_wp2
        go_ret
        exact ⟨by rw [Hf.out]; rfl, hb2⟩
      · have Hf : Hid (xs.all Tx.may = (xs.drop (k + 1)).all Tx.may) := by
          show _ = _
          rw [HR.out, HS.out, hm]; rfl
        clear HR HS hm
        go_wp2
        exact ⟨⟨k + 1, by omega, by go_num, Hf, hb2⟩, by simp [intOf]; omega⟩
    · have Hf : Hid (xs.all Tx.may = true) := by
        show _ = _
        rw [HR.out, List.drop_of_length_le (by omega)]; rfl
      have hge : ¬ (k : Int) < (xs.length : Int) := by omega
      clear HR
      go_wp2
      go_ret
      exact ⟨by rw [Hf.out]; rfl, hb⟩

set_option maxHeartbeats 1600000 in
theorem allGuilt_anyX (base : Nat) (l : Lst Guilt) (w : World) (hb0 : base ≤ w.heap.size) (hh : l.Held Guilt.flds 12 base w) :
    Calls Tryz.prog 66 #[.slice l.la l.xs.length l.lc, .func (.func 67) #[] #[]] w fun e w' => e = .returned (.bool (l.xs.all Guilt.may)) ∧ Below w.heap.size w w' := by
  obtain ⟨la, lc, xs⟩ := l
  obtain ⟨hc, hcm, _⟩ := id hh
  simp only at hc hcm ⊢
  unfold maxLen at hcm
  go_enter Tryz.func66, Tryz.ntmps66
  go_wp2
  go_loopw [6, 9] (fun _ iv wv => ∃ (k : Nat), k ≤ xs.length ∧ iv = .int .i64 k ∧ Hid (xs.all Guilt.may = (xs.drop k).all Guilt.may) ∧ Below w.heap.size w wv) (fun _ iv _ => xs.length - (intOf iv).toNat)
  case atStart => exact ⟨0, Nat.zero_le _, rfl, rfl, Below.refl _ _⟩
  case round =>
    obtain ⟨k, hk, rfl, HR, hb⟩ := hrel
    by_cases hlt : k < xs.length
    · have hlt' : (k : Int) < (xs.length : Int) := by omega
      obtain ⟨_, _, h0 | ⟨rb, ro, e0, rl, rz, rc⟩⟩ := hh.below (hb.mono hb0)
      · simp only at h0; subst h0; simp at hlt
      simp only at e0 rc
      subst e0
      have rk := rc k (xs[k]'hlt) (List.getElem?_eq_getElem hlt)
      have HS : Hid ((xs.drop k).all Guilt.may = (Guilt.may (xs[k]'hlt) && (xs.drop (k + 1)).all Guilt.may)) := by
        show _ = _
        rw [List.drop_eq_getElem_cons hlt]; rfl
      obtain ⟨y, Hy⟩ : ∃ y : Guilt, Hid (y = xs[k]'hlt) := ⟨xs[k]'hlt, rfl⟩
      rw [← Hy.out] at rk HS
      have e1 := rk.get0 rfl
      have e2 := rk.get 1 rfl
      have e3 := rk.get 2 rfl
      have e4 := rk.get 3 rfl
      have e5 := rk.get 4 rfl
      have e6 := rk.get 5 rfl
      have e7 := rk.get 6 rfl
      have e8 := rk.get 7 rfl
      have e9 := rk.get 8 rfl
      have e10 := rk.get 9 rfl
      have e11 := rk.get 10 rfl
      have e12 := rk.get 11 rfl
      simp only [Fld.val, Lst.fld, List.length_map] at e1 e2 e3 e4 e5 e6 e7 e8 e9 e10 e11 e12
      have hb1 := (hb.alloc hb.size (.cells #[.int .i64 y.a.h, .int .i64 y.a.r, .int .i64 y.a.s, .bool y.a.has, .int .u64 y.a.bl, .int .i64 y.a.f, .int .i64 y.c.h, .int .i64 y.c.r, .int .i64 y.c.s, .bool y.c.has, .int .u64 y.c.bl, .int .i64 y.c.f] 125))
      have gd := (rk.goods.below (hb1' hb hb0 (.cells #[.int .i64 y.a.h, .int .i64 y.a.r, .int .i64 y.a.s, .bool y.a.has, .int .u64 y.a.bl, .int .i64 y.a.f, .int .i64 y.c.h, .int .i64 y.c.r, .int .i64 y.c.s, .bool y.c.has, .int .u64 y.c.bl, .int .i64 y.c.f] 125))).mono (Nat.le_trans hb0 hb1.size)
      clear rc rk
      go_wp2_with fail
      refine (mayGuilt_anyX y _ gd).mono ?_
      rintro e w1 ⟨rfl, b1⟩
      have hb2 := hb1.trans (b1.mono hb1.size)
      cases hm : Guilt.may y
      · have Hf : Hid (xs.all Guilt.may = false) := by
          show _ = _
          rw [HR.out, HS.out, hm]; rfl
        clear HR HS hm
        go_wp2
        go_ret
        exact ⟨by rw [Hf.out]; rfl, hb2⟩
      · have Hf : Hid (xs.all Guilt.may = (xs.drop (k + 1)).all Guilt.may) := by
          show _ = _
          rw [HR.out, HS.out, hm]; rfl
        clear HR HS hm
        go_wp2
        exact ⟨⟨k + 1, by omega, by go_num, Hf, hb2⟩, by simp [intOf]; omega⟩
    · have Hf : Hid (xs.all Guilt.may = true) := by
        show _ = _
        rw [HR.out, List.drop_of_length_le (by omega)]; rfl
      have hge : ¬ (k : Int) < (xs.length : Int) := by omega
      clear HR
      go_wp2
      go_ret
      exact ⟨by rw [Hf.out]; rfl, hb⟩

def Block.may (x : Block) : Bool := x.tx.xs.all Tx.may && x.gu.xs.all Guilt.may

set_option maxHeartbeats 1600000 in
theorem mayBlock_anyX (x : Block) (w : World) (g : goods w.heap.size w x.flds) (hn : ∀ y ∈ x.tx.xs, wtL y.atoms ≤ 1099400000000) : Calls Tryz.prog 43 #[.agg #[.int .i64 x.hd.c, .int .i64 x.hd.h, .int .u64 x.hd.pa, .int .u64 x.hd.tx, .int .u64 x.hd.gu, .int .u64 x.hd.st, .int .u64 x.hd.re, .int .u64 x.hd.be, .int .i64 x.hd.pr, .slice x.tx.la x.tx.xs.length x.tx.lc, .slice x.gu.la x.gu.xs.length x.gu.lc]] w fun e w' => e = .returned (.bool x.may) ∧ Below w.heap.size w w' := by
  have bA : Below w.heap.size w (w.alloc (.cells #[.int .i64 x.hd.c, .int .i64 x.hd.h, .int .u64 x.hd.pa, .int .u64 x.hd.tx, .int .u64 x.hd.gu, .int .u64 x.hd.st, .int .u64 x.hd.re, .int .u64 x.hd.be, .int .i64 x.hd.pr, .slice x.tx.la x.tx.xs.length x.tx.lc, .slice x.gu.la x.gu.xs.length x.gu.lc] 31)) := (Below.refl _ _).alloc (Nat.le_refl _) _
  have kX := Blk.new w #[.int .i64 x.hd.c, .int .i64 x.hd.h, .int .u64 x.hd.pa, .int .u64 x.hd.tx, .int .u64 x.hd.gu, .int .u64 x.hd.st, .int .u64 x.hd.re, .int .u64 x.hd.be, .int .i64 x.hd.pr, .slice x.tx.la x.tx.xs.length x.tx.lc, .slice x.gu.la x.gu.xs.length x.gu.lc] 31
  have h9 := Lst.held (flds := Tx.flds) (l := x.tx) Tx.len (g.get 9 rfl)
  have h10 := Lst.held (flds := Guilt.flds) (l := x.gu) Guilt.len (g.get 10 rfl)
  have key1 : ∀ wv, Below w.heap.size w wv → Calls Tryz.prog 64 #[.slice x.tx.la x.tx.xs.length x.tx.lc, .func (.func 65) #[] #[]] wv fun e w' => e = .returned (.bool (x.tx.xs.all Tx.may)) ∧ Below wv.heap.size wv w' := fun wv hv =>
    allTx_anyX w.heap.size x.tx hn wv hv.size (h9.below hv)
  have key2 : ∀ wv, Below w.heap.size w wv → Calls Tryz.prog 66 #[.slice x.gu.la x.gu.xs.length x.gu.lc, .func (.func 67) #[] #[]] wv fun e w' => e = .returned (.bool (x.gu.xs.all Guilt.may)) ∧ Below wv.heap.size wv w' := fun wv hv =>
    allGuilt_anyX w.heap.size x.gu wv hv.size (h10.below hv)
  clear g h9 h10 hn
  go_enter Tryz.func43, Tryz.ntmps43
  go_wp2_with fail
  refine (key1 _ bA).mono ?_
  rintro e w1 ⟨rfl, b1⟩
  have b2 := bA.trans (b1.mono bA.size)
  have k1 := kX.below b1 kX.lt
  have q10 := k1.cell 10
  simp only [List.getElem?_toArray, List.getElem?_cons_succ, List.getElem?_cons_zero] at q10
  cases hm : x.tx.xs.all Tx.may
  · have Hm := show Hid (_ = _) from hm
    clear hm
    go_wp2
    go_ret
    exact ⟨by unfold Block.may; rw [Hm.out]; rfl, b2⟩
  · have Hm := show Hid (_ = _) from hm
    clear hm
    go_wp2_with fail
    refine (key2 _ b2).mono ?_
    rintro e w3 ⟨rfl, b3⟩
    go_wp2
    go_ret
    exact ⟨by unfold Block.may; rw [Hm.out]; simp, b2.trans (b3.mono b2.size)⟩

end Go.Proofs.YtgppnghnjdkfdaaGreat
