/- How much there is, of motions: the measure ends. -/
import Derived.Test.YtgppnghnjdkfdaaGreatXHeavy
import Derived.Deep.CutRange
import Derived.Deep.DeepCutAuto
import Derived.Deep.RegionHeld3
namespace Go.Proofs.YtgppnghnjdkfdaaGreat
open Go.RowKit
set_option linter.unusedVariables false
set_option linter.unusedSimpArgs false

theorem cert_lens (p : Cert) (h : wtL p.atoms ≤ 1099400000000) : p.fr.xs.length ≤ 1099400000000 := by
  have key : ∀ xs : List Int, xs.length ≤ wtL (eachL intA xs) := by
    intro xs
    induction xs with
    | nil => simp
    | cons y r ih => simp only [eachL, wtL_append, intA, wtL, Atom.wt, List.length_cons]; omega
  have := key p.fr.xs
  simp only [Cert.atoms, wtL_append, listL, wtL] at h
  omega
theorem len_wt {α : Type} (atoms : α → List Atom) (hp : ∀ y, 1 ≤ wtL (atoms y)) (xs : List α) : xs.length ≤ wtL (eachL atoms xs) := by
  induction xs with
  | nil => simp
  | cons y r ih => have := hp y; simp only [eachL, wtL_append, List.length_cons]; omega
theorem nums_wt (n : Int) (l : List Int) : wtL (nums (n :: l)) = 6 + wtL (nums l) := rfl
theorem Vote.wt_pos (y : Vote) : 1 ≤ wtL y.atoms := by
  simp only [Vote.atoms, wtL_append, nums_wt]; omega
theorem Guilt.wt_pos (y : Guilt) : 1 ≤ wtL y.atoms := by
  have := y.a.wt_pos
  simp only [Guilt.atoms, wtL_append]; omega
theorem Cert.wt_pos (y : Cert) : 1 ≤ wtL y.atoms := by
  simp only [Cert.atoms, wtL_append, nums_wt]; omega
theorem Header.wt_pos (y : Header) : 1 ≤ wtL y.atoms := by
  simp only [Header.atoms, wtL_append, nums_wt]; omega
theorem Motion.wt_pos (y : Motion) : 1 ≤ wtL y.atoms := by
  simp only [Motion.atoms, wtL_append, nums_wt]; omega
theorem Known.wt_pos (y : Known) : 1 ≤ wtL y.atoms := by
  have := y.ce.wt_pos
  simp only [Known.atoms, wtL_append]; omega

set_option maxRecDepth 4000 in
set_option maxHeartbeats 3200000 in
theorem heavyMotion_any (x : Motion) (w : World) (g : goods w.heap.size w x.flds) (hn : wtL x.atoms ≤ 1099400000000) : Calls Tryz.prog 4 #[.agg #[.int .i64 x.ro, .int .i64 x.fr, .int .i64 x.bl.hd.c, .int .i64 x.bl.hd.h, .int .u64 x.bl.hd.pa, .int .u64 x.bl.hd.tx, .int .u64 x.bl.hd.gu, .int .u64 x.bl.hd.st, .int .u64 x.bl.hd.re, .int .u64 x.bl.hd.be, .int .i64 x.bl.hd.pr, .slice x.bl.tx.la x.bl.tx.xs.length x.bl.tx.lc, .slice x.bl.gu.la x.bl.gu.xs.length x.bl.gu.lc, .slice x.ba.la x.ba.xs.length x.ba.lc]] w fun e w' => IsBool e ∧ Below w.heap.size w w' := by
  have bA : Below w.heap.size w (w.alloc (.cells #[.int .i64 x.ro, .int .i64 x.fr, .int .i64 x.bl.hd.c, .int .i64 x.bl.hd.h, .int .u64 x.bl.hd.pa, .int .u64 x.bl.hd.tx, .int .u64 x.bl.hd.gu, .int .u64 x.bl.hd.st, .int .u64 x.bl.hd.re, .int .u64 x.bl.hd.be, .int .i64 x.bl.hd.pr, .slice x.bl.tx.la x.bl.tx.xs.length x.bl.tx.lc, .slice x.bl.gu.la x.bl.gu.xs.length x.bl.gu.lc, .slice x.ba.la x.ba.xs.length x.ba.lc] 34)) := (Below.refl _ _).alloc (Nat.le_refl _) _
  have kX := Blk.new w #[.int .i64 x.ro, .int .i64 x.fr, .int .i64 x.bl.hd.c, .int .i64 x.bl.hd.h, .int .u64 x.bl.hd.pa, .int .u64 x.bl.hd.tx, .int .u64 x.bl.hd.gu, .int .u64 x.bl.hd.st, .int .u64 x.bl.hd.re, .int .u64 x.bl.hd.be, .int .i64 x.bl.hd.pr, .slice x.bl.tx.la x.bl.tx.xs.length x.bl.tx.lc, .slice x.bl.gu.la x.bl.gu.xs.length x.bl.gu.lc, .slice x.ba.la x.ba.xs.length x.ba.lc] 34
  have hh13 := Lst.held (flds := Cert.flds) (l := x.ba) Cert.len (g.get 13 rfl)
  have hh11 := Lst.held (flds := Tx.flds) (l := x.bl.tx) Tx.len (g.get 11 rfl)
  have lg : x.bl.gu.xs.length ≤ 1099400000000 := by
    have := len_wt Guilt.atoms Guilt.wt_pos x.bl.gu.xs
    simp only [Motion.atoms, Block.atoms, wtL_append, listL, wtL] at hn
    omega
  have lb : x.ba.xs.length ≤ 1099400000000 := by
    have := len_wt Cert.atoms Cert.wt_pos x.ba.xs
    simp only [Motion.atoms, Block.atoms, wtL_append, listL, wtL] at hn
    omega
  have lf : ∀ y ∈ x.ba.xs, y.fr.xs.length ≤ 1099400000000 := fun y hy => by
    refine cert_lens y ?_
    obtain ⟨i, hi⟩ := List.getElem?_of_mem hy
    have := eachL_wt Cert.atoms x.ba.xs i y hi
    simp only [Motion.atoms, wtL_append, listL, wtL] at hn
    omega
  have key : ∀ y : World, Below w.heap.size w y → Calls Tryz.prog 5 #[.slice x.bl.tx.la x.bl.tx.xs.length x.bl.tx.lc] y fun e w' => IsBool e ∧ Below y.heap.size y w' := fun y hy =>
    heavy_any w.heap.size x.bl.tx y hy.size (hh11.below hy)
  clear g hn hh11
  go_enter Tryz.func4, Tryz.ntmps4
  go_wp2_with fail
  generalize hW0 : w.alloc (.cells #[.int .i64 x.ro, .int .i64 x.fr, .int .i64 x.bl.hd.c, .int .i64 x.bl.hd.h, .int .u64 x.bl.hd.pa, .int .u64 x.bl.hd.tx, .int .u64 x.bl.hd.gu, .int .u64 x.bl.hd.st, .int .u64 x.bl.hd.re, .int .u64 x.bl.hd.be, .int .i64 x.bl.hd.pr, .slice x.bl.tx.la x.bl.tx.xs.length x.bl.tx.lc, .slice x.bl.gu.la x.bl.gu.xs.length x.bl.gu.lc, .slice x.ba.la x.ba.xs.length x.ba.lc] 34) = W0 at *
  go_loopw [3, 4] (fun nv iv wv => ∃ (k : Nat) (n : Int), k ≤ x.ba.xs.length ∧ k ≤ 9 ∧ iv = .int .i64 k ∧ nv = .int .i64 n ∧ 0 ≤ n ∧ n ≤ 1099400000000 * ((k : Int) + 1) ∧ Below W0.heap.size W0 wv) (fun _ iv _ => x.ba.xs.length - (intOf iv).toNat)
  case atStart => exact ⟨0, _, Nat.zero_le _, Nat.zero_le _, rfl, rfl, by omega, by simp; omega, Below.refl _ _⟩
  case round =>
    obtain ⟨k, n, hk, hk9', rfl, rfl, n0, n1, bk⟩ := hrel
    have Xk := kX.below bk kX.lt
    have q13 := Xk.cell 13
    have q11 := Xk.cell 11
    simp only [List.getElem?_toArray, List.getElem?_cons_succ, List.getElem?_cons_zero] at q13 q11
    have hzk := Xk.lt
    have hend : Hid (∀ wv, Below W0.heap.size W0 wv → Below w.heap.size w wv) := fun wv h => bA.trans (h.mono bA.size)
    by_cases hk2 : k < x.ba.xs.length ∧ k < 9
    · obtain ⟨hk2, hk9⟩ := hk2
      have hk3 : (k : Int) < (x.ba.xs.length : Int) := by omega
      have hk4 : decide ((k : Int) < (x.ba.xs.length : Int)) = true := decide_eq_true hk3
      have hk5 : (k : Int) < 9 := by omega
      have hk6 : decide ((k : Int) < 9) = true := decide_eq_true hk5
      obtain ⟨_, _, h0 | ⟨rb, ro, e0, rl, rz, rc⟩⟩ := hh13.below (bA.trans (bk.mono bA.size))
      · rw [h0] at hk2; simp at hk2
      have rk := rc k (x.ba.xs[k]'hk2) (List.getElem?_eq_getElem hk2)
      have hfk := lf (x.ba.xs[k]'hk2) (List.getElem_mem hk2)
      obtain ⟨y, Hy⟩ : ∃ y : Cert, Hid (y = x.ba.xs[k]'hk2) := ⟨x.ba.xs[k]'hk2, rfl⟩
      rw [← Hy.out] at rk hfk
      have f5 := rk.get 5 rfl
      simp only [Fld.val, Lst.fld, List.length_map] at f5
      rw [e0] at q13
      clear rc rk e0
      go_wp2
      exact ⟨⟨k + 1, n + (y.fr.xs.length : Int), by omega, by omega, by go_num, by first | rfl | go_num, by omega, by omega, bk⟩, by simp [intOf]; omega⟩
    · have hx : ¬ (k : Int) < (x.ba.xs.length : Int) ∨ ((k : Int) < (x.ba.xs.length : Int) ∧ ¬ (k : Int) < 9) := by omega
      have hfin : n + (x.ba.xs.length : Int) ≤ 4096 ∨ 4096 < n + (x.ba.xs.length : Int) := by omega
      clear hk2
      rcases hx with h3 | ⟨h3, h4⟩
      all_goals
        rcases hfin with h5 | h5
        · first
          | (have hd1 := decide_eq_false h3)
          | (have hd1 := decide_eq_true h3
             have hd2 := decide_eq_false h4)
          have h6 : ¬ 4096 < n + (x.ba.xs.length : Int) := by omega
          have hd3 := decide_eq_false h6
          go_wp2_with fail
          refine (key _ (hend.out _ bk)).mono ?_
          rintro e w1 ⟨⟨z, rfl⟩, b1⟩
          go_wp2
          go_ret
          exact ⟨⟨_, rfl⟩, (hend.out _ bk).trans (b1.mono (hend.out _ bk).size)⟩
        · first
          | (have hd1 := decide_eq_false h3)
          | (have hd1 := decide_eq_true h3
             have hd2 := decide_eq_false h4)
          have hd3 := decide_eq_true h5
          go_wp2
          go_ret
          exact ⟨⟨_, rfl⟩, hend.out _ bk⟩

end Go.Proofs.YtgppnghnjdkfdaaGreat
