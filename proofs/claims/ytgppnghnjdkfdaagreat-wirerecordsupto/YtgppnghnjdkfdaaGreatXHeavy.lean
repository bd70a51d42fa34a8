/- How much there is: the measure ends. -/
import Derived.Test.YtgppnghnjdkfdaaGreatWM3
import Derived.Deep.CutRange
import Derived.Deep.DeepCutAuto
import Derived.Deep.RegionHeld3
namespace Go.Proofs.YtgppnghnjdkfdaaGreat
open Go.RowKit
set_option linter.unusedVariables false
set_option linter.unusedSimpArgs false

set_option maxRecDepth 4000 in
set_option maxHeartbeats 6400000 in
theorem weigh_any (x : Tx) (w : World) (g : goods w.heap.size w x.flds) : Calls Tryz.prog 8 #[.agg #[.int .i64 x.k, .int .i64 x.f, .int .i64 x.n, .int .i64 x.p, .int .i64 x.li, .int .i64 x.to, .int .i64 x.am, .string ⟨x.te.toArray⟩, .slice x.ar.la x.ar.xs.length x.ar.lc, .slice x.si.la x.si.xs.length x.si.lc, .slice x.pr.la x.pr.xs.length x.pr.lc]] w fun e w' => (∃ n : Int, e = .returned (.int .i64 n)) ∧ Below w.heap.size w w' := by
  have bA : Below w.heap.size w (w.alloc (.cells #[.int .i64 x.k, .int .i64 x.f, .int .i64 x.n, .int .i64 x.p, .int .i64 x.li, .int .i64 x.to, .int .i64 x.am, .string ⟨x.te.toArray⟩, .slice x.ar.la x.ar.xs.length x.ar.lc, .slice x.si.la x.si.xs.length x.si.lc, .slice x.pr.la x.pr.xs.length x.pr.lc] 52)) := (Below.refl _ _).alloc (Nat.le_refl _) _
  have kX := Blk.new w #[.int .i64 x.k, .int .i64 x.f, .int .i64 x.n, .int .i64 x.p, .int .i64 x.li, .int .i64 x.to, .int .i64 x.am, .string ⟨x.te.toArray⟩, .slice x.ar.la x.ar.xs.length x.ar.lc, .slice x.si.la x.si.xs.length x.si.lc, .slice x.pr.la x.pr.xs.length x.pr.lc] 52
  have hh8 := Lst.held (flds := intF) (l := x.ar) intF_len (g.get 8 rfl)
  have hh9 := Lst.held (flds := Sight.flds) (l := x.si) Sight.len (g.get 9 rfl)
  have hh10 := Lst.held (flds := Proof.flds) (l := x.pr) Proof.len (g.get 10 rfl)
  have l8 := Nat.le_trans hh8.1 hh8.2.1
  have l9 := Nat.le_trans hh9.1 hh9.2.1
  have l10 := Nat.le_trans hh10.1 hh10.2.1
  unfold maxLen at l8 l9 l10
  clear g
  go_enter Tryz.func8, Tryz.ntmps8
  go_wp2_with fail
  generalize hW0 : w.alloc (.cells #[.int .i64 x.k, .int .i64 x.f, .int .i64 x.n, .int .i64 x.p, .int .i64 x.li, .int .i64 x.to, .int .i64 x.am, .string ⟨x.te.toArray⟩, .slice x.ar.la x.ar.xs.length x.ar.lc, .slice x.si.la x.si.xs.length x.si.lc, .slice x.pr.la x.pr.xs.length x.pr.lc] 52) = W0 at *
  have bS := Below.refl W0.heap.size W0
  go_wp2_with fail
  go_loopw [3, 4] (fun nv iv wv => ∃ (k : Nat) (n : Int), k ≤ x.si.xs.length ∧ iv = .int .i64 k ∧ nv = .int .i64 n ∧ Below W0.heap.size W0 wv) (fun _ iv _ => x.si.xs.length - (intOf iv).toNat)
  case atStart => exact ⟨0, _, Nat.zero_le _, rfl, rfl, bS⟩
  case round =>
    obtain ⟨k, n, hk, rfl, rfl, bk⟩ := hrel
    have Xk := kX.below bk kX.lt
    have q9 := Xk.cell 9
    simp only [List.getElem?_toArray, List.getElem?_cons_succ, List.getElem?_cons_zero] at q9
    have hzk := Xk.lt
    by_cases hk2 : k < x.si.xs.length
    · have hk3 : (k : Int) < (x.si.xs.length : Int) := by omega
      have hk4 : decide ((k : Int) < (x.si.xs.length : Int)) = true := by simpa using hk2
      by_cases hk9 : k < 9
      · have hk9' : (k : Int) < 9 := by omega
        have hk9d : decide ((k : Int) < 9) = true := decide_eq_true hk9'
        obtain ⟨_, _, h0 | ⟨rb, ro, e0, rl, rz, rc⟩⟩ := hh9.below (bA.trans (bk.mono bA.size))
        · rw [h0] at hk2; simp at hk2
        have rk := rc k (x.si.xs[k]'hk2) (List.getElem?_eq_getElem hk2)
        obtain ⟨y, Hy⟩ : ∃ y : Sight, Hid (y = x.si.xs[k]'hk2) := ⟨x.si.xs[k]'hk2, rfl⟩
        rw [← Hy.out] at rk
        have f14 := rk.get 14 rfl
        have f15 := rk.get 15 rfl
        simp only [Fld.val, Lst.fld, List.length_map] at f14 f15
        rw [e0] at q9
        clear rc rk e0
        go_wp2_with fail
        go_region
        all_goals
          go_wp2
          exact ⟨⟨k + 1, _, by omega, by go_num, rfl, by first | exact bk | exact bk.drew⟩, by simp [intOf]; omega⟩
      · have hk9' : ¬ (k : Int) < 9 := by omega
        have hk9d : decide ((k : Int) < 9) = false := decide_eq_false hk9'
        have bS := bk
        clear Xk hzk
        go_wp2_with fail
        go_loopw [3, 5] (fun nv iv wv => ∃ (k : Nat) (n : Int), k ≤ x.pr.xs.length ∧ iv = .int .i64 k ∧ nv = .int .i64 n ∧ Below W0.heap.size W0 wv) (fun _ iv _ => x.pr.xs.length - (intOf iv).toNat)
        case atStart => exact ⟨0, _, Nat.zero_le _, rfl, rfl, bS⟩
        case round =>
          obtain ⟨k, n, hk, rfl, rfl, bk⟩ := hrel
          have Xk := kX.below bk kX.lt
          have q10 := Xk.cell 10
          simp only [List.getElem?_toArray, List.getElem?_cons_succ, List.getElem?_cons_zero] at q10
          have hzk := Xk.lt
          by_cases hk2 : k < x.pr.xs.length
          · have hk3 : (k : Int) < (x.pr.xs.length : Int) := by omega
            have hk4 : decide ((k : Int) < (x.pr.xs.length : Int)) = true := by simpa using hk2
            by_cases hk9 : k < 9
            · have hk9' : (k : Int) < 9 := by omega
              have hk9d : decide ((k : Int) < 9) = true := decide_eq_true hk9'
              obtain ⟨_, _, h0 | ⟨rb, ro, e0, rl, rz, rc⟩⟩ := hh10.below (bA.trans (bk.mono bA.size))
              · rw [h0] at hk2; simp at hk2
              have rk := rc k (x.pr.xs[k]'hk2) (List.getElem?_eq_getElem hk2)
              obtain ⟨y, Hy⟩ : ∃ y : Proof, Hid (y = x.pr.xs[k]'hk2) := ⟨x.pr.xs[k]'hk2, rfl⟩
              rw [← Hy.out] at rk
              have f0 := rk.get0 rfl
              have f2 := rk.get 2 rfl
              have f3 := rk.get 3 rfl
              simp only [Fld.val, Lst.fld, List.length_map] at f0 f2 f3
              rw [e0] at q10
              clear rc rk e0
              go_wp2_with fail
              go_region
              all_goals
                go_wp2
                exact ⟨⟨k + 1, _, by omega, by go_num, rfl, by first | exact bk | exact bk.drew⟩, by simp [intOf]; omega⟩
            · have hk9' : ¬ (k : Int) < 9 := by omega
              have hk9d : decide ((k : Int) < 9) = false := decide_eq_false hk9'
              have p9 := Xk.cell 9
              have p10 := Xk.cell 10
              simp only [List.getElem?_toArray, List.getElem?_cons_succ, List.getElem?_cons_zero] at p9 p10
              go_wp2
              go_ret
              exact ⟨⟨_, rfl⟩, bA.trans (bk.mono bA.size)⟩
          · have hk3 : ¬ (k : Int) < (x.pr.xs.length : Int) := by omega
            have hk4 : decide ((k : Int) < (x.pr.xs.length : Int)) = false := by simpa using hk2
            have p9 := Xk.cell 9
            have p10 := Xk.cell 10
            simp only [List.getElem?_toArray, List.getElem?_cons_succ, List.getElem?_cons_zero] at p9 p10
            go_wp2
            go_ret
            exact ⟨⟨_, rfl⟩, bA.trans (bk.mono bA.size)⟩
    · have hk3 : ¬ (k : Int) < (x.si.xs.length : Int) := by omega
      have hk4 : decide ((k : Int) < (x.si.xs.length : Int)) = false := by simpa using hk2
      have bS := bk
      clear Xk hzk
      go_wp2_with fail
      go_loopw [3, 5] (fun nv iv wv => ∃ (k : Nat) (n : Int), k ≤ x.pr.xs.length ∧ iv = .int .i64 k ∧ nv = .int .i64 n ∧ Below W0.heap.size W0 wv) (fun _ iv _ => x.pr.xs.length - (intOf iv).toNat)
      case atStart => exact ⟨0, _, Nat.zero_le _, rfl, rfl, bS⟩
      case round =>
        obtain ⟨k, n, hk, rfl, rfl, bk⟩ := hrel
        have Xk := kX.below bk kX.lt
        have q10 := Xk.cell 10
        simp only [List.getElem?_toArray, List.getElem?_cons_succ, List.getElem?_cons_zero] at q10
        have hzk := Xk.lt
        by_cases hk2 : k < x.pr.xs.length
        · have hk3 : (k : Int) < (x.pr.xs.length : Int) := by omega
          have hk4 : decide ((k : Int) < (x.pr.xs.length : Int)) = true := by simpa using hk2
          by_cases hk9 : k < 9
          · have hk9' : (k : Int) < 9 := by omega
            have hk9d : decide ((k : Int) < 9) = true := decide_eq_true hk9'
            obtain ⟨_, _, h0 | ⟨rb, ro, e0, rl, rz, rc⟩⟩ := hh10.below (bA.trans (bk.mono bA.size))
            · rw [h0] at hk2; simp at hk2
            have rk := rc k (x.pr.xs[k]'hk2) (List.getElem?_eq_getElem hk2)
            obtain ⟨y, Hy⟩ : ∃ y : Proof, Hid (y = x.pr.xs[k]'hk2) := ⟨x.pr.xs[k]'hk2, rfl⟩
            rw [← Hy.out] at rk
            have f0 := rk.get0 rfl
            have f2 := rk.get 2 rfl
            have f3 := rk.get 3 rfl
            simp only [Fld.val, Lst.fld, List.length_map] at f0 f2 f3
            rw [e0] at q10
            clear rc rk e0
            go_wp2_with fail
            go_region
            all_goals
              go_wp2
              exact ⟨⟨k + 1, _, by omega, by go_num, rfl, by first | exact bk | exact bk.drew⟩, by simp [intOf]; omega⟩
          · have hk9' : ¬ (k : Int) < 9 := by omega
            have hk9d : decide ((k : Int) < 9) = false := decide_eq_false hk9'
            have p9 := Xk.cell 9
            have p10 := Xk.cell 10
            simp only [List.getElem?_toArray, List.getElem?_cons_succ, List.getElem?_cons_zero] at p9 p10
            go_wp2
            go_ret
            exact ⟨⟨_, rfl⟩, bA.trans (bk.mono bA.size)⟩
        · have hk3 : ¬ (k : Int) < (x.pr.xs.length : Int) := by omega
          have hk4 : decide ((k : Int) < (x.pr.xs.length : Int)) = false := by simpa using hk2
          have p9 := Xk.cell 9
          have p10 := Xk.cell 10
          simp only [List.getElem?_toArray, List.getElem?_cons_succ, List.getElem?_cons_zero] at p9 p10
          go_wp2
          go_ret
          exact ⟨⟨_, rfl⟩, bA.trans (bk.mono bA.size)⟩

/-- It says yes or no. -/
def IsBool (e : Ending) : Prop := ∃ z : Bool, e = .returned (.bool z)

set_option maxHeartbeats 3200000 in
theorem heavy_any (base : Nat) (l : Lst Tx) (w : World) (hb0 : base ≤ w.heap.size) (hh : l.Held Tx.flds 11 base w) :
    Calls Tryz.prog 5 #[.slice l.la l.xs.length l.lc] w fun e w' => IsBool e ∧ Below w.heap.size w w' := by
  obtain ⟨la, lc, xs⟩ := l
  obtain ⟨hc, hcm, _⟩ := id hh
  simp only at hc hcm ⊢
  unfold maxLen at hcm
  go_enter Tryz.func5, Tryz.ntmps5
  go_wp2
  go_loopw [3, 4] (fun nv iv wv => ∃ (k : Nat) (n : Int), k ≤ xs.length ∧ iv = .int .i64 k ∧ nv = .int .i64 n ∧ Below w.heap.size w wv) (fun _ iv _ => xs.length - (intOf iv).toNat)
  case atStart => exact ⟨0, _, Nat.zero_le _, rfl, rfl, Below.refl _ _⟩
  case round =>
    obtain ⟨k, n, hk, rfl, rfl, bk⟩ := hrel
    by_cases hk2 : k < xs.length
    · have hk3 : (k : Int) < (xs.length : Int) := by omega
      have hk4 : decide ((k : Int) < (xs.length : Int)) = true := decide_eq_true hk3
      by_cases hn : n ≤ 65536
      · have hnd : decide (n ≤ 65536) = true := decide_eq_true hn
        obtain ⟨_, _, h0 | ⟨rb, ro, e0, rl, rz, rc⟩⟩ := hh.below (bk.mono hb0)
        · simp only at h0; subst h0; simp at hk2
        simp only at e0 rc
        subst e0
        have rk := rc k (xs[k]'hk2) (List.getElem?_eq_getElem hk2)
        obtain ⟨y, Hy⟩ : ∃ y : Tx, Hid (y = xs[k]'hk2) := ⟨xs[k]'hk2, rfl⟩
        rw [← Hy.out] at rk
        have f0 := rk.get0 rfl
        have f1 := rk.get 1 rfl
        have f2 := rk.get 2 rfl
        have f3 := rk.get 3 rfl
        have f4 := rk.get 4 rfl
        have f5 := rk.get 5 rfl
        have f6 := rk.get 6 rfl
        have f7 := rk.get 7 rfl
        have f8 := rk.get 8 rfl
        have f9 := rk.get 9 rfl
        have f10 := rk.get 10 rfl
        simp only [Fld.val, Lst.fld, List.length_map] at f0 f1 f2 f3 f4 f5 f6 f7 f8 f9 f10
        have gd := rk.goods.mono (Nat.le_trans hb0 bk.size)
        clear rc rk
        go_wp2_with fail
        refine (weigh_any y _ gd).mono ?_
        rintro e w1 ⟨⟨m, rfl⟩, b1⟩
        go_wp2
        exact ⟨⟨k + 1, _, by omega, by go_num, rfl, bk.trans (b1.mono bk.size)⟩, by simp [intOf]; omega⟩
      · have hnd : decide (n ≤ 65536) = false := decide_eq_false hn
        go_wp2
        go_ret
        exact ⟨⟨_, rfl⟩, bk⟩
    · have hk3 : ¬ (k : Int) < (xs.length : Int) := by omega
      have hk4 : decide ((k : Int) < (xs.length : Int)) = false := decide_eq_false hk3
      go_wp2
      go_ret
      exact ⟨⟨_, rfl⟩, bk⟩

end Go.Proofs.YtgppnghnjdkfdaaGreat
