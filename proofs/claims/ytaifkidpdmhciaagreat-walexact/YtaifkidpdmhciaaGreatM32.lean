/- Which certs may be. -/
import Derived.Test.YtaifkidpdmhciaaGreatXThings
import Derived.Test.YtaifkidpdmhciaaGreatM27

namespace Go.Proofs.YtaifkidpdmhciaaGreat
open Go.RowKit
set_option linter.unusedVariables false
set_option linter.unusedSimpArgs false

def riseI (least : Int) : List Int → Bool
  | [] => true
  | n :: r => if n < least then false else riseI (wrap64 (n + 1)) r
theorem hb1' {base : Nat} {w wv : World} (hb : Below w.heap.size w wv) (hb0 : base ≤ w.heap.size) (o : Obj) : Below base wv (wv.alloc o) := (Below.refl _ _).alloc (Nat.le_trans hb0 hb.size) _

theorem mayCert1_any (n : Int) (w : World) : Calls Tryz.prog 122 #[.int .i64 n] w fun e w' => e = .returned (.int .i64 n) ∧ Below w.heap.size w w' := by
  go_enter Tryz.func122, Tryz.ntmps122
  go_wp2
  go_ret
  exact ⟨rfl, Below.refl _ _⟩
theorem mayProof1_any (p d : Int) (w : World) : Calls Tryz.prog 152 #[.agg #[.int .i64 p, .int .u64 d]] w fun e w' => e = .returned (.int .i64 p) ∧ Below w.heap.size w w' := by
  go_enter Tryz.func152, Tryz.ntmps152
  go_wp2
  go_ret
  exact ⟨rfl, by first | exact Below.refl _ _ | exact (Below.refl _ _).alloc (Nat.le_refl _) _⟩

set_option maxHeartbeats 1600000 in
theorem riseInt_anyX (base : Nat) (l : Lst Int) (least : Int) (w : World) (hb0 : base ≤ w.heap.size) (hh : l.Held intF 1 base w) :
    Calls Tryz.prog 121 #[.slice l.la l.xs.length l.lc, .int .i64 least, .func (.func 122) #[] #[]] w fun e w' => e = .returned (.bool (riseI least l.xs)) ∧ Below w.heap.size w w' := by
  obtain ⟨la, lc, xs⟩ := l
  obtain ⟨hc, hcm, _⟩ := id hh
  simp only at hc hcm ⊢
  unfold maxLen at hcm
  go_enter Tryz.func121, Tryz.ntmps121
  go_wp2
  go_loopw [1, 8, 9, 12] (fun lv _ _ iv wv => ∃ (k : Nat) (t : Int), k ≤ xs.length ∧ iv = .int .i64 k ∧ lv = .int .i64 t ∧ Hid (riseI least xs = riseI t (xs.drop k)) ∧ Below w.heap.size w wv) (fun _ _ _ iv _ => xs.length - (intOf iv).toNat)
  case atStart => exact ⟨0, least, Nat.zero_le _, rfl, rfl, rfl, Below.refl _ _⟩
  case round =>
    obtain ⟨k, t, hk, rfl, rfl, HR, hb⟩ := hrel
    by_cases hlt : k < xs.length
    · have hlt' : (k : Int) < (xs.length : Int) := by omega
      obtain ⟨_, _, h0 | ⟨rb, ro, e0, rl, rz, rc⟩⟩ := hh.below (hb.mono hb0)
      · simp only at h0; subst h0; simp at hlt
      simp only at e0 rc
      subst e0
      have rk := rc k (xs[k]'hlt) (List.getElem?_eq_getElem hlt)
      have HS : Hid (riseI t (xs.drop k) = if (xs[k]'hlt) < t then false else riseI (wrap64 ((xs[k]'hlt) + 1)) (xs.drop (k + 1))) := by
        show _ = _
        rw [List.drop_eq_getElem_cons (by simpa using hlt)]; simp [riseI]
      obtain ⟨y, Hy⟩ : ∃ y : Int, Hid (y = xs[k]'hlt) := ⟨xs[k]'hlt, rfl⟩
      rw [← Hy.out] at rk HS
      rw [Nat.mul_one] at rk
      have e1 := rk.get0 rfl
      simp only [Fld.val] at e1
      have hyb : -9223372036854775808 ≤ y ∧ y ≤ 9223372036854775807 := rk.goods.get 0 rfl
      clear rc
      go_wp2_with fail
      refine (mayCert1_any y _).mono ?_
      rintro e w1 ⟨rfl, b1⟩
      have hb2 := hb.trans (b1.mono hb.size)
      by_cases hless : y < t
      · have Hf : Hid (riseI least xs = false) := HR.out.trans (HS.out.trans (if_pos hless))
        clear HR HS
        go_wp2
        go_ret
        exact ⟨by rw [Hf.out]; rfl, hb2⟩
      · have Hf : Hid (riseI least xs = riseI (wrap64 (y + 1)) (xs.drop (k + 1))) := HR.out.trans (HS.out.trans (if_neg hless))
        clear HR HS
        go_wp2
        exact ⟨⟨k + 1, wrap64 (y + 1), by omega, by go_num, by first | rfl | (unfold wrap64; go_num), Hf, hb2⟩, by simp [intOf]; omega⟩
    · have Hf : Hid (riseI least xs = true) := by
        show _ = _
        rw [HR.out, List.drop_of_length_le (by first | omega | (simp; omega))]; rfl
      have hge : ¬ (k : Int) < (xs.length : Int) := by omega
      clear HR
      go_wp2
      go_ret
      exact ⟨by rw [Hf.out]; rfl, hb⟩

set_option maxHeartbeats 1600000 in
theorem riseTurn_anyX (base : Nat) (l : Lst Turn) (least : Int) (w : World) (hb0 : base ≤ w.heap.size) (hh : l.Held Turn.flds 2 base w) :
    Calls Tryz.prog 151 #[.slice l.la l.xs.length l.lc, .int .i64 least, .func (.func 152) #[] #[]] w fun e w' => e = .returned (.bool (riseI least (l.xs.map Turn.p))) ∧ Below w.heap.size w w' := by
  obtain ⟨la, lc, xs⟩ := l
  obtain ⟨hc, hcm, _⟩ := id hh
  simp only at hc hcm ⊢
  unfold maxLen at hcm
  go_enter Tryz.func151, Tryz.ntmps151
  go_wp2
  go_loopw [1, 8, 9, 12] (fun lv _ _ iv wv => ∃ (k : Nat) (t : Int), k ≤ xs.length ∧ iv = .int .i64 k ∧ lv = .int .i64 t ∧ Hid (riseI least (xs.map Turn.p) = riseI t ((xs.map Turn.p).drop k)) ∧ Below w.heap.size w wv) (fun _ _ _ iv _ => xs.length - (intOf iv).toNat)
  case atStart => exact ⟨0, least, Nat.zero_le _, rfl, rfl, rfl, Below.refl _ _⟩
  case round =>
    obtain ⟨k, t, hk, rfl, rfl, HR, hb⟩ := hrel
    by_cases hlt : k < xs.length
    · have hlt' : (k : Int) < (xs.length : Int) := by omega
      obtain ⟨_, _, h0 | ⟨rb, ro, e0, rl, rz, rc⟩⟩ := hh.below (hb.mono hb0)
      · simp only at h0; subst h0; simp at hlt
      simp only at e0 rc
      subst e0
      have rk := rc k (xs[k]'hlt) (List.getElem?_eq_getElem hlt)
      have HS : Hid (riseI t ((xs.map Turn.p).drop k) = if ((xs[k]'hlt).p) < t then false else riseI (wrap64 (((xs[k]'hlt).p) + 1)) ((xs.map Turn.p).drop (k + 1))) := by
        show _ = _
        rw [List.drop_eq_getElem_cons (by simpa using hlt)]; simp [riseI]
      obtain ⟨y, Hy⟩ : ∃ y : Turn, Hid (y = xs[k]'hlt) := ⟨xs[k]'hlt, rfl⟩
      rw [← Hy.out] at rk HS
      have e1 := rk.get0 rfl
      have e2 := rk.get 1 rfl
      simp only [Fld.val] at e1 e2
      have hyb : -9223372036854775808 ≤ y.p ∧ y.p ≤ 9223372036854775807 := rk.goods.get 0 rfl
      clear rc
      go_wp2_with fail
      refine (mayProof1_any y.p y.d _).mono ?_
      rintro e w1 ⟨rfl, b1⟩
      have hb1 := (hb.alloc hb.size (.cells #[.int .i64 y.p, .int .u64 y.d] 216))
      have hb2 := hb1.trans (b1.mono hb1.size)
      by_cases hless : y.p < t
      · have Hf : Hid (riseI least (xs.map Turn.p) = false) := HR.out.trans (HS.out.trans (if_pos hless))
        clear HR HS
        go_wp2
        go_ret
        exact ⟨by rw [Hf.out]; rfl, hb2⟩
      · have Hf : Hid (riseI least (xs.map Turn.p) = riseI (wrap64 (y.p + 1)) ((xs.map Turn.p).drop (k + 1))) := HR.out.trans (HS.out.trans (if_neg hless))
        clear HR HS
        go_wp2
        exact ⟨⟨k + 1, wrap64 (y.p + 1), by omega, by go_num, by first | rfl | (unfold wrap64; go_num), Hf, hb2⟩, by simp [intOf]; omega⟩
    · have Hf : Hid (riseI least (xs.map Turn.p) = true) := by
        show _ = _
        rw [HR.out, List.drop_of_length_le (by first | omega | (simp; omega))]; rfl
      have hge : ¬ (k : Int) < (xs.length : Int) := by omega
      clear HR
      go_wp2
      go_ret
      exact ⟨by rw [Hf.out]; rfl, hb⟩

def Cert.may (x : Cert) : Bool := !(decide (x.s ≠ 1) && decide (x.s ≠ 2)) && !(!x.has && decide (x.bl ≠ 0)) && riseI 1 x.fr.xs

set_option maxHeartbeats 1600000 in
theorem mayCert_anyX (x : Cert) (w : World) (g : goods w.heap.size w x.flds) : Calls Tryz.prog 95 #[.agg #[.int .i64 x.h, .int .i64 x.r, .int .i64 x.s, .bool x.has, .int .u64 x.bl, .slice x.fr.la x.fr.xs.length x.fr.lc]] w fun e w' => e = .returned (.bool x.may) ∧ Below w.heap.size w w' := by
  have key : ∀ wv, Below w.heap.size w wv → Calls Tryz.prog 121 #[.slice x.fr.la x.fr.xs.length x.fr.lc, .int .i64 1, .func (.func 122) #[] #[]] wv fun e w' => e = .returned (.bool (riseI 1 x.fr.xs)) ∧ Below wv.heap.size wv w' := fun wv hv =>
    riseInt_anyX w.heap.size x.fr 1 wv hv.size (Lst.held (flds := intF) (l := x.fr) intF_len ((g.below hv).get 5 rfl))
  clear g
  obtain ⟨h, r, s, has, bl, fr⟩ := x
  simp only at key ⊢
  have bA : ∀ c, Below w.heap.size w (w.alloc (.cells c 53)) := fun c => (Below.refl _ _).alloc (Nat.le_refl _) _
  rcases (show s = 1 ∨ s = 2 ∨ (¬ s = 1 ∧ ¬ s = 2) by omega) with rfl | rfl | ⟨h1, h2⟩
  rotate_left
  rotate_left
  · have e : (Cert.mk h r s has bl fr).may = false := by simp [Cert.may, h1, h2]
    rw [e]
    clear e
    have h1b : (s != 1) = true := by simpa using h1
    have h2b : (s != 2) = true := by simpa using h2
    go_enter Tryz.func95, Tryz.ntmps95
    go_wp2
    go_ret
    exact ⟨rfl, bA _⟩
  all_goals
    cases has
    · by_cases hb : bl = 0
      · subst hb
        go_enter Tryz.func95, Tryz.ntmps95
        go_wp2_with fail
        refine (key _ (bA _)).mono ?_
        rintro e w1 ⟨rfl, b1⟩
        go_wp2
        go_ret
        exact ⟨by simp [Cert.may], (bA _).trans (b1.mono (bA _).size)⟩
      · have hbb : (bl != 0) = true := by simpa using hb
        go_enter Tryz.func95, Tryz.ntmps95
        go_wp2
        go_ret
        exact ⟨by simp [Cert.may, hb], bA _⟩
    · go_enter Tryz.func95, Tryz.ntmps95
      go_wp2_with fail
      refine (key _ (bA _)).mono ?_
      rintro e w1 ⟨rfl, b1⟩
      go_wp2
      go_ret
      exact ⟨by simp [Cert.may], (bA _).trans (b1.mono (bA _).size)⟩

end Go.Proofs.YtaifkidpdmhciaaGreat

namespace Go.Proofs.YtaifkidpdmhciaaGreat
open Go.RowKit
set_option linter.unusedVariables false
set_option linter.unusedSimpArgs false

def Proof.may (x : Proof) : Bool := if x.leaf = true then decide (x.val ≠ []) && riseI 0 (x.tu.xs.map Turn.p) else decide (x.tu.xs.length = 0) && decide (x.key = []) && decide (x.val = [])

set_option maxHeartbeats 1600000 in
theorem mayProof_anyX (x : Proof) (w : World) (g : goods w.heap.size w x.flds) : Calls Tryz.prog 141 #[.agg #[.slice x.tu.la x.tu.xs.length x.tu.lc, .bool x.leaf, .string ⟨x.key.toArray⟩, .string ⟨x.val.toArray⟩]] w fun e w' => e = .returned (.bool x.may) ∧ Below w.heap.size w w' := by
  have key : ∀ wv, Below w.heap.size w wv → Calls Tryz.prog 151 #[.slice x.tu.la x.tu.xs.length x.tu.lc, .int .i64 0, .func (.func 152) #[] #[]] wv fun e w' => e = .returned (.bool (riseI 0 (x.tu.xs.map Turn.p))) ∧ Below wv.heap.size wv w' := fun wv hv =>
    riseTurn_anyX w.heap.size x.tu 0 wv hv.size (Lst.held (flds := Turn.flds) (l := x.tu) Turn.len ((g.below hv).get 0 rfl))
  clear g
  obtain ⟨tu, leaf, ky, val⟩ := x
  simp only at key ⊢
  have bA : ∀ c, Below w.heap.size w (w.alloc (.cells c 187)) := fun c => (Below.refl _ _).alloc (Nat.le_refl _) _
  cases leaf
  · by_cases h0 : tu.xs.length = 0
    · have h0b : ((tu.xs.length : Int) == 0) = true := by simp [h0]
      have H0 := show Hid (_ = _) from h0
      clear h0
      cases ky with
      | nil =>
        cases val with
        | nil =>
          go_enter Tryz.func141, Tryz.ntmps141
          go_wp2
          go_ret
          exact ⟨by simp [Proof.may, H0.out], bA _⟩
        | cons c r =>
          go_enter Tryz.func141, Tryz.ntmps141
          go_wp2
          go_ret
          exact ⟨by simp [Proof.may, H0.out], bA _⟩
      | cons c r =>
        go_enter Tryz.func141, Tryz.ntmps141
        go_wp2
        go_ret
        exact ⟨by simp [Proof.may, H0.out], bA _⟩
    · have h0b : ((tu.xs.length : Int) == 0) = false := by simpa using h0
      have H0 : Hid (¬ tu.xs.length = 0) := h0
      clear h0
      go_enter Tryz.func141, Tryz.ntmps141
      go_wp2
      go_ret
      exact ⟨by have h : ¬ tu.xs.length = 0 := H0.out; simp only [Proof.may, h, decide_false, Bool.false_and]; rfl, bA _⟩
  · cases val with
    | nil =>
      go_enter Tryz.func141, Tryz.ntmps141
      go_wp2
      go_ret
      exact ⟨by simp [Proof.may], bA _⟩
    | cons c r =>
      go_enter Tryz.func141, Tryz.ntmps141
      go_wp2_with fail
      refine (key _ (bA _)).mono ?_
      rintro e w1 ⟨rfl, b1⟩
      go_wp2
      go_ret
      exact ⟨by simp [Proof.may], (bA _).trans (b1.mono (bA _).size)⟩

def Sight.may (x : Sight) : Bool := x.ce.may && mayBenchP x.se.xs
theorem pairs_held {base : Nat} {w : World} {l : Lst (Int × Int)} (h : l.Held pairF 2 base w) : PairsAt w l.la l.xs := by
  obtain ⟨_, _, h0 | ⟨rb, ro, e, rl, rz, rc⟩⟩ := h
  · exact ⟨by rw [h0]; simp, .inl h0⟩
  · refine ⟨fun p hp => ?_, .inr ⟨rb, ro, e, rz, fun i p hp => ⟨(rc i p hp).get0 rfl, (rc i p hp).get 1 rfl⟩⟩⟩
    obtain ⟨i, hi⟩ := List.getElem?_of_mem hp
    exact ⟨(rc i p hi).goods.get 0 rfl, (rc i p hi).goods.get 1 rfl⟩

set_option maxHeartbeats 1600000 in
theorem maySight_anyX (x : Sight) (w : World) (g : goods w.heap.size w x.flds) (hn : x.se.xs.length ≤ 140737488351232) : Calls Tryz.prog 139 #[.agg #[.int .i64 x.hd.c, .int .i64 x.hd.h, .int .u64 x.hd.pa, .int .u64 x.hd.tx, .int .u64 x.hd.gu, .int .u64 x.hd.st, .int .u64 x.hd.re, .int .u64 x.hd.be, .int .i64 x.hd.pr, .int .i64 x.ce.h, .int .i64 x.ce.r, .int .i64 x.ce.s, .bool x.ce.has, .int .u64 x.ce.bl, .slice x.ce.fr.la x.ce.fr.xs.length x.ce.fr.lc, .slice x.se.la x.se.xs.length x.se.lc]] w fun e w' => e = .returned (.bool x.may) ∧ Below w.heap.size w w' := by
  have bA : Below w.heap.size w (w.alloc (.cells #[.int .i64 x.hd.c, .int .i64 x.hd.h, .int .u64 x.hd.pa, .int .u64 x.hd.tx, .int .u64 x.hd.gu, .int .u64 x.hd.st, .int .u64 x.hd.re, .int .u64 x.hd.be, .int .i64 x.hd.pr, .int .i64 x.ce.h, .int .i64 x.ce.r, .int .i64 x.ce.s, .bool x.ce.has, .int .u64 x.ce.bl, .slice x.ce.fr.la x.ce.fr.xs.length x.ce.fr.lc, .slice x.se.la x.se.xs.length x.se.lc] 183)) := (Below.refl _ _).alloc (Nat.le_refl _) _
  have kX := Blk.new w #[.int .i64 x.hd.c, .int .i64 x.hd.h, .int .u64 x.hd.pa, .int .u64 x.hd.tx, .int .u64 x.hd.gu, .int .u64 x.hd.st, .int .u64 x.hd.re, .int .u64 x.hd.be, .int .i64 x.hd.pr, .int .i64 x.ce.h, .int .i64 x.ce.r, .int .i64 x.ce.s, .bool x.ce.has, .int .u64 x.ce.bl, .slice x.ce.fr.la x.ce.fr.xs.length x.ce.fr.lc, .slice x.se.la x.se.xs.length x.se.lc] 183
  have key1 : ∀ wv, Below w.heap.size w wv → Calls Tryz.prog 95 #[.agg #[.int .i64 x.ce.h, .int .i64 x.ce.r, .int .i64 x.ce.s, .bool x.ce.has, .int .u64 x.ce.bl, .slice x.ce.fr.la x.ce.fr.xs.length x.ce.fr.lc]] wv fun e w' => e = .returned (.bool x.ce.may) ∧ Below wv.heap.size wv w' := fun wv hv =>
    mayCert_anyX x.ce wv ((g.below hv).mono hv.size).app.2.app.1
  have key2 : ∀ wv, Below w.heap.size w wv → Calls Tryz.prog 150 #[.slice x.se.la x.se.xs.length x.se.lc] wv fun e w' => e = .returned (.bool (mayBenchP x.se.xs)) ∧ Below wv.heap.size wv w' := fun wv hv =>
    mayBench_any x.se.la x.se.lc x.se.xs wv hn (pairs_held (Lst.held pairF_len ((g.below hv).get 15 rfl)))
  clear g
  go_enter Tryz.func139, Tryz.ntmps139
  go_wp2_with fail
  refine (key1 _ bA).mono ?_
  rintro e w1 ⟨rfl, b1⟩
  have b2 := bA.trans (b1.mono bA.size)
  have k1 := kX.below b1 kX.lt
  have q15 := k1.cell 15
  simp only [List.getElem?_toArray, List.getElem?_cons_succ, List.getElem?_cons_zero] at q15
  cases hm : x.ce.may
  · have Hm := show Hid (_ = _) from hm
    clear hm
    go_wp2
    go_ret
    exact ⟨by unfold Sight.may; rw [Hm.out]; rfl, b2⟩
  · have Hm := show Hid (_ = _) from hm
    clear hm
    go_wp2_with fail
    refine (key2 _ b2).mono ?_
    rintro e w3 ⟨rfl, b3⟩
    go_wp2
    go_ret
    exact ⟨by unfold Sight.may; rw [Hm.out]; simp, b2.trans (b3.mono b2.size)⟩

def isTx (k : Int) : Bool := decide (k = 2) || decide (k = 3)
def nSi (k : Int) : Int := if k = 9 then 1 else 0
def nPr (k : Int) : Int := if k = 10 then 1 else 0

set_option maxHeartbeats 3200000 in
theorem fieldsOf_any (k : Int) (w : World) : Calls Tryz.prog 137 #[.int .i64 k] w fun e w' => e = .returned (.agg #[.bool (isTo k), .bool (isAm k), .bool (isTx k), .bool (decide (k = 3)), .int .i64 (nSi k), .int .i64 (nPr k)]) ∧ Below w.heap.size w w' := by
  rcases (show k = 1 ∨ k = 2 ∨ k = 3 ∨ k = 4 ∨ k = 5 ∨ k = 7 ∨ k = 8 ∨ k = 9 ∨ k = 10 ∨ (k ≠ 1 ∧ k ≠ 2 ∧ k ≠ 3 ∧ k ≠ 4 ∧ k ≠ 5 ∧ k ≠ 7 ∧ k ≠ 8 ∧ k ≠ 9 ∧ k ≠ 10) by omega) with rfl | rfl | rfl | rfl | rfl | rfl | rfl | rfl | rfl | ⟨h1, h2, h3, h4, h5, h7, h8, h9, h10⟩
  · go_enter Tryz.func137, Tryz.ntmps137
    go_wp2
    exact bodyPost_ret (v := .agg #[.bool (isTo (1 : Int)), .bool (isAm (1 : Int)), .bool (isTx (1 : Int)), .bool (decide ((1 : Int) = 3)), .int .i64 (nSi (1 : Int)), .int .i64 (nPr (1 : Int))]) (by simp [results, Tryz.results137, go_sem, isTo, isAm, isTx, nSi, nPr]) rfl ⟨rfl, ((Below.refl _ _).alloc (Nat.le_refl _) _).alloc (by simp) _⟩
  · go_enter Tryz.func137, Tryz.ntmps137
    go_wp2
    exact bodyPost_ret (v := .agg #[.bool (isTo (2 : Int)), .bool (isAm (2 : Int)), .bool (isTx (2 : Int)), .bool (decide ((2 : Int) = 3)), .int .i64 (nSi (2 : Int)), .int .i64 (nPr (2 : Int))]) (by simp [results, Tryz.results137, go_sem, isTo, isAm, isTx, nSi, nPr]) rfl ⟨rfl, ((Below.refl _ _).alloc (Nat.le_refl _) _).alloc (by simp) _⟩
  · go_enter Tryz.func137, Tryz.ntmps137
    go_wp2
    exact bodyPost_ret (v := .agg #[.bool (isTo (3 : Int)), .bool (isAm (3 : Int)), .bool (isTx (3 : Int)), .bool (decide ((3 : Int) = 3)), .int .i64 (nSi (3 : Int)), .int .i64 (nPr (3 : Int))]) (by simp [results, Tryz.results137, go_sem, isTo, isAm, isTx, nSi, nPr]) rfl ⟨rfl, ((Below.refl _ _).alloc (Nat.le_refl _) _).alloc (by simp) _⟩
  · go_enter Tryz.func137, Tryz.ntmps137
    go_wp2
    exact bodyPost_ret (v := .agg #[.bool (isTo (4 : Int)), .bool (isAm (4 : Int)), .bool (isTx (4 : Int)), .bool (decide ((4 : Int) = 3)), .int .i64 (nSi (4 : Int)), .int .i64 (nPr (4 : Int))]) (by simp [results, Tryz.results137, go_sem, isTo, isAm, isTx, nSi, nPr]) rfl ⟨rfl, ((Below.refl _ _).alloc (Nat.le_refl _) _).alloc (by simp) _⟩
  · go_enter Tryz.func137, Tryz.ntmps137
    go_wp2
    exact bodyPost_ret (v := .agg #[.bool (isTo (5 : Int)), .bool (isAm (5 : Int)), .bool (isTx (5 : Int)), .bool (decide ((5 : Int) = 3)), .int .i64 (nSi (5 : Int)), .int .i64 (nPr (5 : Int))]) (by simp [results, Tryz.results137, go_sem, isTo, isAm, isTx, nSi, nPr]) rfl ⟨rfl, ((Below.refl _ _).alloc (Nat.le_refl _) _).alloc (by simp) _⟩
  · go_enter Tryz.func137, Tryz.ntmps137
    go_wp2
    exact bodyPost_ret (v := .agg #[.bool (isTo (7 : Int)), .bool (isAm (7 : Int)), .bool (isTx (7 : Int)), .bool (decide ((7 : Int) = 3)), .int .i64 (nSi (7 : Int)), .int .i64 (nPr (7 : Int))]) (by simp [results, Tryz.results137, go_sem, isTo, isAm, isTx, nSi, nPr]) rfl ⟨rfl, ((Below.refl _ _).alloc (Nat.le_refl _) _).alloc (by simp) _⟩
  · go_enter Tryz.func137, Tryz.ntmps137
    go_wp2
    exact bodyPost_ret (v := .agg #[.bool (isTo (8 : Int)), .bool (isAm (8 : Int)), .bool (isTx (8 : Int)), .bool (decide ((8 : Int) = 3)), .int .i64 (nSi (8 : Int)), .int .i64 (nPr (8 : Int))]) (by simp [results, Tryz.results137, go_sem, isTo, isAm, isTx, nSi, nPr]) rfl ⟨rfl, ((Below.refl _ _).alloc (Nat.le_refl _) _).alloc (by simp) _⟩
  · go_enter Tryz.func137, Tryz.ntmps137
    go_wp2
    exact bodyPost_ret (v := .agg #[.bool (isTo (9 : Int)), .bool (isAm (9 : Int)), .bool (isTx (9 : Int)), .bool (decide ((9 : Int) = 3)), .int .i64 (nSi (9 : Int)), .int .i64 (nPr (9 : Int))]) (by simp [results, Tryz.results137, go_sem, isTo, isAm, isTx, nSi, nPr]) rfl ⟨rfl, ((Below.refl _ _).alloc (Nat.le_refl _) _).alloc (by simp) _⟩
  · go_enter Tryz.func137, Tryz.ntmps137
    go_wp2
    exact bodyPost_ret (v := .agg #[.bool (isTo (10 : Int)), .bool (isAm (10 : Int)), .bool (isTx (10 : Int)), .bool (decide ((10 : Int) = 3)), .int .i64 (nSi (10 : Int)), .int .i64 (nPr (10 : Int))]) (by simp [results, Tryz.results137, go_sem, isTo, isAm, isTx, nSi, nPr]) rfl ⟨rfl, ((Below.refl _ _).alloc (Nat.le_refl _) _).alloc (by simp) _⟩
  · go_enter Tryz.func137, Tryz.ntmps137
    go_wp2
    exact bodyPost_ret (v := .agg #[.bool (isTo k), .bool (isAm k), .bool (isTx k), .bool (decide (k = 3)), .int .i64 (nSi k), .int .i64 (nPr k)]) (by simp [results, Tryz.results137, go_sem, isTo, isAm, isTx, nSi, nPr, h1, h2, h3, h4, h5, h7, h8, h9, h10]) rfl ⟨rfl, ((Below.refl _ _).alloc (Nat.le_refl _) _).alloc (by simp) _⟩
end Go.Proofs.YtaifkidpdmhciaaGreat
