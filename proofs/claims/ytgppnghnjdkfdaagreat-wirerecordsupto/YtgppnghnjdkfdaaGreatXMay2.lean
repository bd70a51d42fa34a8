/- Which proofs and sights may be. -/
import Derived.Test.YtgppnghnjdkfdaaGreatXMay
import Derived.Test.YtgppnghnjdkfdaaGreatWM5
namespace Go.Proofs.YtgppnghnjdkfdaaGreat
open Go.RowKit
set_option linter.unusedVariables false
set_option linter.unusedSimpArgs false

def Proof.may (x : Proof) : Bool := if x.leaf = true then decide (x.val ≠ []) && riseI 0 (x.tu.xs.map Turn.p) else decide (x.tu.xs.length = 0) && decide (x.key = []) && decide (x.val = [])

set_option maxHeartbeats 1600000 in
theorem mayProof_anyX (x : Proof) (w : World) (g : goods w.heap.size w x.flds) : Calls Tryz.prog 86 #[.agg #[.slice x.tu.la x.tu.xs.length x.tu.lc, .bool x.leaf, .string ⟨x.key.toArray⟩, .string ⟨x.val.toArray⟩]] w fun e w' => e = .returned (.bool x.may) ∧ Below w.heap.size w w' := by
  have key : ∀ wv, Below w.heap.size w wv → Calls Tryz.prog 98 #[.slice x.tu.la x.tu.xs.length x.tu.lc, .int .i64 0, .func (.func 99) #[] #[]] wv fun e w' => e = .returned (.bool (riseI 0 (x.tu.xs.map Turn.p))) ∧ Below wv.heap.size wv w' := fun wv hv =>
    riseTurn_anyX w.heap.size x.tu 0 wv hv.size (Lst.held (flds := Turn.flds) (l := x.tu) Turn.len ((g.below hv).get 0 rfl))
  clear g
  obtain ⟨tu, leaf, ky, val⟩ := x
  simp only at key ⊢
  have bA : ∀ c, Below w.heap.size w (w.alloc (.cells c 67)) := fun c => (Below.refl _ _).alloc (Nat.le_refl _) _
  cases leaf
  · by_cases h0 : tu.xs.length = 0
    · have h0b : ((tu.xs.length : Int) == 0) = true := by simp [h0]
      have H0 := show Hid (_ = _) from h0
      clear h0
      cases ky with
      | nil =>
        cases val with
        | nil =>
          go_enter Tryz.func86, Tryz.ntmps86
          go_wp2
          go_ret
          exact ⟨by simp [Proof.may, H0.out], bA _⟩
        | cons c r =>
          go_enter Tryz.func86, Tryz.ntmps86
          go_wp2
          go_ret
          exact ⟨by simp [Proof.may, H0.out], bA _⟩
      | cons c r =>
        go_enter Tryz.func86, Tryz.ntmps86
        go_wp2
        go_ret
        exact ⟨by simp [Proof.may, H0.out], bA _⟩
    · have h0b : ((tu.xs.length : Int) == 0) = false := by simpa using h0
      have H0 : Hid (¬ tu.xs.length = 0) := h0
      clear h0
      go_enter Tryz.func86, Tryz.ntmps86
      go_wp2
      go_ret
      exact ⟨by have h : ¬ tu.xs.length = 0 := H0.out; simp only [Proof.may, h, decide_false, Bool.false_and]; rfl, bA _⟩
  · cases val with
    | nil =>
      go_enter Tryz.func86, Tryz.ntmps86
      go_wp2
      go_ret
      exact ⟨by simp [Proof.may], bA _⟩
    | cons c r =>
      go_enter Tryz.func86, Tryz.ntmps86
      go_wp2_with fail
      refine (key _ (bA _)).mono ?_
      rintro e w1 ⟨rfl, b1⟩
      go_wp2
      go_ret
      exact ⟨by simp [Proof.may], (bA _).trans (b1.mono (bA _).size)⟩

def Sight.may (x : Sight) : Bool := x.ce.may && mayBenchP x.se.xs
theorem pairs_held {base : Nat} {w : World} {l : Lst (Int × Int)} (h : l.Held pairF 2 base w) : PairsAt w l.la l.xs := by
  obtain ⟨_, _, h0 | ⟨rb, ro, e, rl, rz, rc⟩⟩ := h
  · exact ⟨by rw [h0]; simp, .inl h0⟩
  · refine ⟨fun p hp => ?_, .inr ⟨rb, ro, e, rz, fun i p hp => ⟨(rc i p hp).get0 rfl, (rc i p hp).get 1 rfl⟩⟩⟩
    obtain ⟨i, hi⟩ := List.getElem?_of_mem hp
    exact ⟨(rc i p hi).goods.get 0 rfl, (rc i p hi).goods.get 1 rfl⟩

set_option maxHeartbeats 1600000 in
theorem maySight_anyX (x : Sight) (w : World) (g : goods w.heap.size w x.flds) (hn : x.se.xs.length ≤ 140737488351232) : Calls Tryz.prog 84 #[.agg #[.int .i64 x.hd.c, .int .i64 x.hd.h, .int .u64 x.hd.pa, .int .u64 x.hd.tx, .int .u64 x.hd.gu, .int .u64 x.hd.st, .int .u64 x.hd.re, .int .u64 x.hd.be, .int .i64 x.hd.pr, .int .i64 x.ce.h, .int .i64 x.ce.r, .int .i64 x.ce.s, .bool x.ce.has, .int .u64 x.ce.bl, .slice x.ce.fr.la x.ce.fr.xs.length x.ce.fr.lc, .slice x.se.la x.se.xs.length x.se.lc]] w fun e w' => e = .returned (.bool x.may) ∧ Below w.heap.size w w' := by
  have bA : Below w.heap.size w (w.alloc (.cells #[.int .i64 x.hd.c, .int .i64 x.hd.h, .int .u64 x.hd.pa, .int .u64 x.hd.tx, .int .u64 x.hd.gu, .int .u64 x.hd.st, .int .u64 x.hd.re, .int .u64 x.hd.be, .int .i64 x.hd.pr, .int .i64 x.ce.h, .int .i64 x.ce.r, .int .i64 x.ce.s, .bool x.ce.has, .int .u64 x.ce.bl, .slice x.ce.fr.la x.ce.fr.xs.length x.ce.fr.lc, .slice x.se.la x.se.xs.length x.se.lc] 64)) := (Below.refl _ _).alloc (Nat.le_refl _) _
  have kX := Blk.new w #[.int .i64 x.hd.c, .int .i64 x.hd.h, .int .u64 x.hd.pa, .int .u64 x.hd.tx, .int .u64 x.hd.gu, .int .u64 x.hd.st, .int .u64 x.hd.re, .int .u64 x.hd.be, .int .i64 x.hd.pr, .int .i64 x.ce.h, .int .i64 x.ce.r, .int .i64 x.ce.s, .bool x.ce.has, .int .u64 x.ce.bl, .slice x.ce.fr.la x.ce.fr.xs.length x.ce.fr.lc, .slice x.se.la x.se.xs.length x.se.lc] 64
  have key1 : ∀ wv, Below w.heap.size w wv → Calls Tryz.prog 45 #[.agg #[.int .i64 x.ce.h, .int .i64 x.ce.r, .int .i64 x.ce.s, .bool x.ce.has, .int .u64 x.ce.bl, .slice x.ce.fr.la x.ce.fr.xs.length x.ce.fr.lc]] wv fun e w' => e = .returned (.bool x.ce.may) ∧ Below wv.heap.size wv w' := fun wv hv =>
    mayCert_anyX x.ce wv ((g.below hv).mono hv.size).app.2.app.1
  have key2 : ∀ wv, Below w.heap.size w wv → Calls Tryz.prog 97 #[.slice x.se.la x.se.xs.length x.se.lc] wv fun e w' => e = .returned (.bool (mayBenchP x.se.xs)) ∧ Below wv.heap.size wv w' := fun wv hv =>
    mayBench_any x.se.la x.se.lc x.se.xs wv hn (pairs_held (Lst.held pairF_len ((g.below hv).get 15 rfl)))
  clear g
  go_enter Tryz.func84, Tryz.ntmps84
  go_wp2_with fail
  refine (key1 _ bA).mono ?_
  rintro e w1 ⟨rfl, b1⟩
  have b2 := bA.trans (b1.mono bA.size)
  have k1 := kX.below b1 kX.lt
  have q15 := k1.cell 15
  simp only [List.getElem?_toArray, List.getElem?_cons_succ, List.getElem?_cons_zero] at q15
  cases hm : x.ce.may
  · have Hm := show Hid (_ = _) from hm
    clear hm
    go_wp2
    go_ret
    exact ⟨by unfold Sight.may; rw [Hm.out]; rfl, b2⟩
  · have Hm := show Hid (_ = _) from hm
    clear hm
    go_wp2_with fail
    refine (key2 _ b2).mono ?_
    rintro e w3 ⟨rfl, b3⟩
    go_wp2
    go_ret
    exact ⟨by unfold Sight.may; rw [Hm.out]; simp, b2.trans (b3.mono b2.size)⟩

def isTx (k : Int) : Bool := decide (k = 2) || decide (k = 3)
def nSi (k : Int) : Int := if k = 9 then 1 else 0
def nPr (k : Int) : Int := if k = 10 then 1 else 0

set_option maxHeartbeats 3200000 in
theorem fieldsOf_any (k : Int) (w : World) : Calls Tryz.prog 82 #[.int .i64 k] w fun e w' => e = .returned (.agg #[.bool (isTo k), .bool (isAm k), .bool (isTx k), .bool (decide (k = 3)), .int .i64 (nSi k), .int .i64 (nPr k)]) ∧ Below w.heap.size w w' := by
  rcases (show k = 1 ∨ k = 2 ∨ k = 3 ∨ k = 4 ∨ k = 5 ∨ k = 7 ∨ k = 8 ∨ k = 9 ∨ k = 10 ∨ (k ≠ 1 ∧ k ≠ 2 ∧ k ≠ 3 ∧ k ≠ 4 ∧ k ≠ 5 ∧ k ≠ 7 ∧ k ≠ 8 ∧ k ≠ 9 ∧ k ≠ 10) by omega) with rfl | rfl | rfl | rfl | rfl | rfl | rfl | rfl | rfl | ⟨h1, h2, h3, h4, h5, h7, h8, h9, h10⟩
  · go_enter Tryz.func82, Tryz.ntmps82
    go_wp2
    exact bodyPost_ret (v := .agg #[.bool (isTo (1 : Int)), .bool (isAm (1 : Int)), .bool (isTx (1 : Int)), .bool (decide ((1 : Int) = 3)), .int .i64 (nSi (1 : Int)), .int .i64 (nPr (1 : Int))]) (by simp [results, Tryz.results82, go_sem, isTo, isAm, isTx, nSi, nPr]) rfl ⟨rfl, ((Below.refl _ _).alloc (Nat.le_refl _) _).alloc (by simp) _⟩
  · go_enter Tryz.func82, Tryz.ntmps82
    go_wp2
    exact bodyPost_ret (v := .agg #[.bool (isTo (2 : Int)), .bool (isAm (2 : Int)), .bool (isTx (2 : Int)), .bool (decide ((2 : Int) = 3)), .int .i64 (nSi (2 : Int)), .int .i64 (nPr (2 : Int))]) (by simp [results, Tryz.results82, go_sem, isTo, isAm, isTx, nSi, nPr]) rfl ⟨rfl, ((Below.refl _ _).alloc (Nat.le_refl _) _).alloc (by simp) _⟩
  · go_enter Tryz.func82, Tryz.ntmps82
    go_wp2
    exact bodyPost_ret (v := .agg #[.bool (isTo (3 : Int)), .bool (isAm (3 : Int)), .bool (isTx (3 : Int)), .bool (decide ((3 : Int) = 3)), .int .i64 (nSi (3 : Int)), .int .i64 (nPr (3 : Int))]) (by simp [results, Tryz.results82, go_sem, isTo, isAm, isTx, nSi, nPr]) rfl ⟨rfl, ((Below.refl _ _).alloc (Nat.le_refl _) _).alloc (by simp) _⟩
  · go_enter Tryz.func82, Tryz.ntmps82
    go_wp2
    exact bodyPost_ret (v := .agg #[.bool (isTo (4 : Int)), .bool (isAm (4 : Int)), .bool (isTx (4 : Int)), .bool (decide ((4 : Int) = 3)), .int .i64 (nSi (4 : Int)), .int .i64 (nPr (4 : Int))]) (by simp [results, Tryz.results82, go_sem, isTo, isAm, isTx, nSi, nPr]) rfl ⟨rfl, ((Below.refl _ _).alloc (Nat.le_refl _) _).alloc (by simp) _⟩
  · go_enter Tryz.func82, Tryz.ntmps82
    go_wp2
    exact bodyPost_ret (v := .agg #[.bool (isTo (5 : Int)), .bool (isAm (5 : Int)), .bool (isTx (5 : Int)), .bool (decide ((5 : Int) = 3)), .int .i64 (nSi (5 : Int)), .int .i64 (nPr (5 : Int))]) (by simp [results, Tryz.results82, go_sem, isTo, isAm, isTx, nSi, nPr]) rfl ⟨rfl, ((Below.refl _ _).alloc (Nat.le_refl _) _).alloc (by simp) _⟩
  · go_enter Tryz.func82, Tryz.ntmps82
    go_wp2
    exact bodyPost_ret (v := .agg #[.bool (isTo (7 : Int)), .bool (isAm (7 : Int)), .bool (isTx (7 : Int)), .bool (decide ((7 : Int) = 3)), .int .i64 (nSi (7 : Int)), .int .i64 (nPr (7 : Int))]) (by simp [results, Tryz.results82, go_sem, isTo, isAm, isTx, nSi, nPr]) rfl ⟨rfl, ((Below.refl _ _).alloc (Nat.le_refl _) _).alloc (by simp) _⟩
  · go_enter Tryz.func82, Tryz.ntmps82
    go_wp2
    exact bodyPost_ret (v := .agg #[.bool (isTo (8 : Int)), .bool (isAm (8 : Int)), .bool (isTx (8 : Int)), .bool (decide ((8 : Int) = 3)), .int .i64 (nSi (8 : Int)), .int .i64 (nPr (8 : Int))]) (by simp [results, Tryz.results82, go_sem, isTo, isAm, isTx, nSi, nPr]) rfl ⟨rfl, ((Below.refl _ _).alloc (Nat.le_refl _) _).alloc (by simp) _⟩
  · go_enter Tryz.func82, Tryz.ntmps82
    go_wp2
    exact bodyPost_ret (v := .agg #[.bool (isTo (9 : Int)), .bool (isAm (9 : Int)), .bool (isTx (9 : Int)), .bool (decide ((9 : Int) = 3)), .int .i64 (nSi (9 : Int)), .int .i64 (nPr (9 : Int))]) (by simp [results, Tryz.results82, go_sem, isTo, isAm, isTx, nSi, nPr]) rfl ⟨rfl, ((Below.refl _ _).alloc (Nat.le_refl _) _).alloc (by simp) _⟩
  · go_enter Tryz.func82, Tryz.ntmps82
    go_wp2
    exact bodyPost_ret (v := .agg #[.bool (isTo (10 : Int)), .bool (isAm (10 : Int)), .bool (isTx (10 : Int)), .bool (decide ((10 : Int) = 3)), .int .i64 (nSi (10 : Int)), .int .i64 (nPr (10 : Int))]) (by simp [results, Tryz.results82, go_sem, isTo, isAm, isTx, nSi, nPr]) rfl ⟨rfl, ((Below.refl _ _).alloc (Nat.le_refl _) _).alloc (by simp) _⟩
  · go_enter Tryz.func82, Tryz.ntmps82
    go_wp2
    exact bodyPost_ret (v := .agg #[.bool (isTo k), .bool (isAm k), .bool (isTx k), .bool (decide (k = 3)), .int .i64 (nSi k), .int .i64 (nPr k)]) (by simp [results, Tryz.results82, go_sem, isTo, isAm, isTx, nSi, nPr, h1, h2, h3, h4, h5, h7, h8, h9, h10]) rfl ⟨rfl, ((Below.refl _ _).alloc (Nat.le_refl _) _).alloc (by simp) _⟩
end Go.Proofs.YtgppnghnjdkfdaaGreat
