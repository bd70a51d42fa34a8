/- The small functions of code: the cost, what an instruction is by itself. -/
import Derived.Test.YtmkjlcagdjjbpaaDoorCPure
import Derived.BigQuiet
import Derived.Deep.CutRange
import Derived.Deep.DeepCutAuto
namespace Go.Proofs.YtmkjlcagdjjbpaaDoor
open Go.RowKit
set_option linter.unusedVariables false
set_option linter.unusedSimpArgs false

theorem below_drewN {B : Nat} {a w : World} (h : Below B a w) (n : Nat) : Below B a (w.drewN n) := h.trans ⟨rfl, rfl, rfl, Nat.le_refl _, fun _ _ => rfl⟩
/-- The table lies in memory. -/
def Tab (w : World) : Prop := 0 < w.heap.size ∧ ∀ n, n < 31 → w.cell? ⟨0, n * 3, none⟩ = some (.int .i64 (tk n)) ∧ w.cell? ⟨0, n * 3 + 1, none⟩ = some (.int .i64 (lv n)) ∧ w.cell? ⟨0, n * 3 + 2, none⟩ = some (.int .i64 (ka n))
theorem Tab.below {w w' : World} {B : Nat} (h : Tab w) (hb : Below B w w') (hB : 0 < B) : Tab w' := by
  refine ⟨Nat.lt_of_lt_of_le h.1 hb.size, fun n hn => ?_⟩
  rw [hb.cell (p := ⟨0, n * 3, none⟩) hB, hb.cell (p := ⟨0, n * 3 + 1, none⟩) hB, hb.cell (p := ⟨0, n * 3 + 2, none⟩) hB]
  exact h.2 n hn

def costP (op : Int) : Int := if op = 16 then 2 else if op = 18 ∨ op = 20 ∨ op = 26 ∨ op = 28 then 4 else if op = 19 ∨ op = 21 then 8 else if op = 27 ∨ op = 30 then 16 else 1

set_option maxHeartbeats 800000 in
theorem ccost_any (op : Int) (w : World) : Calls Tryd.prog 7 #[.int .i64 op] w fun e w' => e = .returned (.int .i64 (costP op)) ∧ Below w.heap.size w w' := by
  go_enter Tryd.func7, Tryd.ntmps7
  unfold costP
  by_cases h16 : op = 16
  · subst h16; go_wp2; go_ret; exact ⟨rfl, Below.refl _ _⟩
  by_cases h18 : op = 18
  · subst h18; go_wp2; go_ret; exact ⟨rfl, Below.refl _ _⟩
  by_cases h20 : op = 20
  · subst h20; go_wp2; go_ret; exact ⟨rfl, Below.refl _ _⟩
  by_cases h26 : op = 26
  · subst h26; go_wp2; go_ret; exact ⟨rfl, Below.refl _ _⟩
  by_cases h28 : op = 28
  · subst h28; go_wp2; go_ret; exact ⟨rfl, Below.refl _ _⟩
  by_cases h19 : op = 19
  · subst h19; go_wp2; go_ret; exact ⟨rfl, Below.refl _ _⟩
  by_cases h21 : op = 21
  · subst h21; go_wp2; go_ret; exact ⟨rfl, Below.refl _ _⟩
  by_cases h27 : op = 27
  · subst h27; go_wp2; go_ret; exact ⟨rfl, Below.refl _ _⟩
  by_cases h30 : op = 30
  · subst h30; go_wp2; go_ret; exact ⟨rfl, Below.refl _ _⟩
  go_wp2; go_ret
  exact ⟨by simp [h16, h18, h20, h26, h28, h19, h21, h27, h30], Below.refl _ _⟩

set_option maxHeartbeats 800000 in
theorem isInstr_any (op : Int) (w : World) : Calls Tryd.prog 18 #[.int .i64 op] w fun e w' => e = .returned (.bool (isI op)) ∧ w = w' := by
  go_enter Tryd.func18, Tryd.ntmps18
  unfold isI
  by_cases h1 : 1 ≤ op
  · have d1 := decide_eq_true h1
    go_wp2; go_ret; exact ⟨by simp [h1], rfl⟩
  · have d1 := decide_eq_false h1
    go_wp2; go_ret; exact ⟨by simp [h1], rfl⟩

set_option maxHeartbeats 800000 in
theorem endB_any (pla nla : Option Addr) (np plc nn nlc : Nat) (k : Int) (w : World) : Calls Tryd.prog 20 #[.agg #[.slice pla np plc, .slice nla nn nlc], .int .i64 k] w fun e w' => e = .returned (.int .i64 (endB nn k)) ∧ Below w.heap.size w w' := by
  have bA : Below w.heap.size w (w.alloc (.cells #[.slice pla np plc, .slice nla nn nlc] 25)) := (Below.refl _ _).alloc (Nat.le_refl _) _
  go_enter Tryd.func20, Tryd.ntmps20
  unfold endB
  by_cases h1 : k = 6
  · subst h1
    go_wp2; go_ret; exact ⟨rfl, bA⟩
  · go_wp2; go_ret; exact ⟨by simp [h1], bA⟩

set_option maxHeartbeats 1600000 in
theorem endA_any (pla nla bla : Option Addr) (np plc nn nlc nb blc : Nat) (nm : ByteArray) (ob : Bool) (pa lo k : Int) (w : World) : Calls Tryd.prog 19 #[.agg #[.slice pla np plc, .slice nla nn nlc], .agg #[.string nm, .bool ob, .int .i64 pa, .int .i64 lo, .slice bla nb blc], .int .i64 k] w fun e w' => e = .returned (.int .i64 (endA np nb lo k)) ∧ Below w.heap.size w w' := by
  have bA : Below w.heap.size w (w.alloc (.cells #[.slice pla np plc, .slice nla nn nlc] 25)) := (Below.refl _ _).alloc (Nat.le_refl _) _
  have bB := bA.alloc (o := .cells #[.string nm, .bool ob, .int .i64 pa, .int .i64 lo, .slice bla nb blc] 33) bA.size
  clear bA
  go_enter Tryd.func19, Tryd.ntmps19
  unfold endA
  by_cases h1 : k = 1
  · subst h1; go_wp2; go_ret; exact ⟨rfl, bB⟩
  by_cases h2 : k = 2
  · subst h2; go_wp2; go_ret; exact ⟨rfl, bB⟩
  by_cases h3 : k = 3
  · subst h3; go_wp2; go_ret; exact ⟨rfl, bB⟩
  by_cases h4 : k = 4
  · subst h4; go_wp2; go_ret; exact ⟨rfl, bB⟩
  by_cases h5 : k = 5
  · subst h5; go_wp2; go_ret; exact ⟨rfl, bB⟩
  by_cases h6 : k = 6
  · subst h6; go_wp2; go_ret; exact ⟨rfl, bB⟩
  go_wp2; go_ret
  exact ⟨by simp [h1, h2, h3, h4, h5, h6], bB⟩

set_option maxHeartbeats 800000 in
theorem leaves_any (op : Nat) (a b : Int) (w : World) (ho : op < 31) (T : Tab w) : Calls Tryd.prog 24 #[.agg #[.int .i64 op, .int .i64 a, .int .i64 b]] w fun e w' => e = .returned (.int .i64 (lv op)) ∧ Below w.heap.size w w' := by
  have bA : Below w.heap.size w (w.alloc (.cells #[.int .i64 op, .int .i64 a, .int .i64 b] 35)) := (Below.refl _ _).alloc (Nat.le_refl _) _
  have t1 := ((T.below bA T.1).2 op ho).2.1
  have hi : (op : Int) < 31 := by omega
  clear T
  go_enter Tryd.func24, Tryd.ntmps24
  go_wp2
  go_ret
  exact ⟨rfl, bA⟩

set_option maxHeartbeats 1600000 in
theorem in4_any (op : Int) (w : World) : Calls Tryd.prog 14 #[.int .i64 op, .slice (some ⟨w.heap.size, 0, none⟩) 4 4] (w.alloc (.cells #[.int .i64 18, .int .i64 20, .int .i64 26, .int .i64 28] 3)) fun e w' => e = .returned (.bool (decide (op = 18 ∨ op = 20 ∨ op = 26 ∨ op = 28))) ∧ (w.alloc (.cells #[.int .i64 18, .int .i64 20, .int .i64 26, .int .i64 28] 3)) = w' := by
  go_enter Tryd.func14, Tryd.ntmps14
  by_cases h18 : op = 18
  · subst h18; go_wp2; refine wp_loop_rounds 5 ?_; rw [rounds_succ]; go_wp2; go_ret; exact ⟨rfl, rfl⟩
  by_cases h20 : op = 20
  · subst h20; go_wp2; refine wp_loop_rounds 5 ?_; rw [rounds_succ]; go_wp2; rw [rounds_succ]; go_wp2; go_ret; exact ⟨rfl, rfl⟩
  by_cases h26 : op = 26
  · subst h26; go_wp2; refine wp_loop_rounds 5 ?_; rw [rounds_succ]; go_wp2; rw [rounds_succ]; go_wp2; rw [rounds_succ]; go_wp2; go_ret; exact ⟨rfl, rfl⟩
  by_cases h28 : op = 28
  · subst h28; go_wp2; refine wp_loop_rounds 5 ?_; rw [rounds_succ]; go_wp2; rw [rounds_succ]; go_wp2; rw [rounds_succ]; go_wp2; rw [rounds_succ]; go_wp2; go_ret; exact ⟨rfl, rfl⟩
  have e18 : ((18 : Int) == op) = false := by simp; omega
  have e20 : ((20 : Int) == op) = false := by simp; omega
  have e26 : ((26 : Int) == op) = false := by simp; omega
  have e28 : ((28 : Int) == op) = false := by simp; omega
  have g18 : ¬ 18 = op := by omega
  have g20 : ¬ 20 = op := by omega
  have g26 : ¬ 26 = op := by omega
  have g28 : ¬ 28 = op := by omega
  go_wp2
  refine wp_loop_rounds 5 ?_
  rw [rounds_succ]; go_wp2; rw [rounds_succ]; go_wp2; rw [rounds_succ]; go_wp2; rw [rounds_succ]; go_wp2; rw [rounds_succ]; go_wp2; go_ret
  exact ⟨by simp [h18, h20, h26, h28], rfl⟩

set_option maxHeartbeats 1600000 in
theorem rcost_any (op : Int) (w : World) : Calls Tryd.prog 8 #[.int .i64 op] w fun e w' => e = .returned (.int .i64 (costP op)) ∧ Below w.heap.size w w' := by
  have bA : Below w.heap.size w (w.alloc (.cells #[.int .i64 18, .int .i64 20, .int .i64 26, .int .i64 28] 3)) := (Below.refl _ _).alloc (Nat.le_refl _) _
  have key := in4_any op w
  go_enter Tryd.func8, Tryd.ntmps8
  by_cases h16 : op = 16
  · subst h16; go_wp2; go_ret; exact ⟨rfl, Below.refl _ _⟩
  have e16 : (op == 16) = false := by simp [h16]
  go_wp2_with fail
  refine key.mono ?_
  rintro e w' ⟨rfl, rfl⟩
  clear key
  by_cases h4 : op = 18 ∨ op = 20 ∨ op = 26 ∨ op = 28
  · have hd := decide_eq_true h4
    rw [hd]
    have hc : costP op = 4 := by unfold costP; simp [h16, h4]
    have HC := show Hid (_ = _) from hc
    clear hc hd h4
    go_wp2; go_ret; exact ⟨by rw [HC.out]; rfl, bA⟩
  have hd := decide_eq_false h4
  rw [hd]
  clear hd
  by_cases h19 : op = 19
  · subst h19; go_wp2; go_ret; exact ⟨rfl, bA⟩
  by_cases h21 : op = 21
  · subst h21; go_wp2; go_ret; exact ⟨rfl, bA⟩
  by_cases h27 : op = 27
  · subst h27; go_wp2; go_ret; exact ⟨rfl, bA⟩
  by_cases h30 : op = 30
  · subst h30; go_wp2; go_ret; exact ⟨rfl, bA⟩
  have hc : costP op = 1 := by unfold costP; simp [h16, h4, h19, h21, h27, h30]
  have HC := show Hid (_ = _) from hc
  have e19 : (op == 19) = false := by simp [h19]
  have e21 : (op == 21) = false := by simp [h21]
  have e27 : (op == 27) = false := by simp [h27]
  have e30 : (op == 30) = false := by simp [h30]
  clear hc h4 h19 h21 h27 h30
  go_wp2; go_ret
  exact ⟨by rw [HC.out]; rfl, bA⟩

/-- The pieces lie in memory. -/
def PsAt (base : Nat) (w : World) (c : Cd) : Prop := c.ps.Held Pc.flds 5 base w

theorem PsAt.param {base : Nat} {w : World} {c : Cd} (h : PsAt base w c) (a : Nat) (ha : a < c.ps.xs.length) : ∃ rb ro, c.ps.la = some ⟨rb, ro, none⟩ ∧ rb < base ∧ rb < w.heap.size ∧ w.cell? ⟨rb, ro + a * 5 + 2, none⟩ = some (.int .i64 (paramsAt c.ps.xs a)) := by
  obtain ⟨_, _, h0 | ⟨rb, ro, e, hb, hz, hr⟩⟩ := h
  · rw [h0] at ha; simp at ha
  refine ⟨rb, ro, e, hb, hz, ?_⟩
  have hx := List.getElem?_eq_getElem ha
  have := (hr a _ hx).get 2 rfl
  rw [this]
  simp [paramsAt, Fld.val, List.getD_eq_getElem?_getD, hx]

set_option maxHeartbeats 1600000 in
theorem takes_any (base : Nat) (c : Cd) (op : Nat) (a b : Int) (w : World) (ho : op < 31) (T : Tab w) (hB : base ≤ w.heap.size) (P : PsAt base w c) (hp : ∀ p ∈ c.ps.xs, 0 ≤ p.pa ∧ p.pa ≤ 8) (h4 : ka op = 4 → 0 ≤ a ∧ a < c.ps.xs.length) (h6 : ka op = 6 → 0 ≤ a ∧ a ≤ 8) :
    Calls Tryd.prog 23 #[.agg #[.slice c.ps.la c.ps.xs.length c.ps.lc, .slice c.ns.la c.ns.xs.length c.ns.lc], .agg #[.int .i64 op, .int .i64 a, .int .i64 b]] w fun e w' => e = .returned (.int .i64 (takesP c.ps.xs ⟨op, a, b⟩)) ∧ Below w.heap.size w w' := by
  have bA : Below w.heap.size w (w.alloc (.cells #[.slice c.ps.la c.ps.xs.length c.ps.lc, .slice c.ns.la c.ns.xs.length c.ns.lc] 25)) := (Below.refl _ _).alloc (Nat.le_refl _) _
  have bB := bA.alloc (o := .cells #[.int .i64 op, .int .i64 a, .int .i64 b] 35) bA.size
  have bC := bB.alloc (o := .cells #[.int .i64 (tk op), .int .i64 (lv op), .int .i64 (ka op)] 46) bB.size
  obtain ⟨t0, t1, t2⟩ := (T.below bB T.1).2 op ho
  have hi : (op : Int) < 31 := by omega
  have htk : 0 ≤ tk op ∧ tk op ≤ 3 := by
    have : ∀ m : Fin 31, 0 ≤ (shp.getD m.val (0, 0, 0)).1 ∧ (shp.getD m.val (0, 0, 0)).1 ≤ 3 := by decide
    exact this ⟨op, ho⟩
  have hs0 := T.1
  clear T
  unfold takesP
  simp only [Int.toNat_natCast]
  go_enter Tryd.func23, Tryd.ntmps23
  by_cases k4 : ka op = 4
  · obtain ⟨a0, a1⟩ := h4 k4
    obtain ⟨n, rfl⟩ := Int.eq_ofNat_of_zero_le a0
    obtain ⟨rb, ro, e, hb, hz, hc⟩ := P.param n (by omega)
    have hc2 := (bC.cell (p := ⟨rb, ro + n * 5 + 2, none⟩) hz).trans hc
    have hpb : 0 ≤ paramsAt c.ps.xs n ∧ paramsAt c.ps.xs n ≤ 8 := by
      have hx : n < c.ps.xs.length := by omega
      have := hp _ (List.getElem_mem hx)
      simpa [paramsAt, List.getD_eq_getElem?_getD, List.getElem?_eq_getElem hx] using this
    rw [if_pos k4]
    rw [k4] at t2 bC hc2
    rw [e] at t0 t1 t2 bA bB bC hc2
    rw [e]
    clear P hp h4 h6 hc
    go_wp2_with fail
    go_quiet (fail)
    go_wp2
    go_ret
    exact ⟨rfl, below_drewN bC _⟩
  · rw [if_neg k4]
    by_cases k6 : ka op = 6
    · obtain ⟨a0, a1⟩ := h6 k6
      rw [if_pos k6]
      rw [k6] at t2 bC
      clear P hp h4 h6
      go_wp2
      go_ret
      exact ⟨rfl, bC⟩
    · rw [if_neg k6]
      have e4 : (ka op == 4) = false := by simp [k4]
      have e6 : (ka op == 6) = false := by simp [k6]
      clear P hp h4 h6
      go_wp2
      go_ret
      exact ⟨rfl, bC⟩
end Go.Proofs.YtmkjlcagdjjbpaaDoor
