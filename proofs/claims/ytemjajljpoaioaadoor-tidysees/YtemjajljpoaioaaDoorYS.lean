import Derived.Test.YtemjajljpoaioaaDoorCFlow
namespace Go.Proofs.YtemjajljpoaioaaDoor
open Go.RowKit
set_option linter.unusedVariables false
set_option linter.unusedSimpArgs false
set_option maxRecDepth 20000
set_option maxHeartbeats 8000000
set_option maxHeartbeats 800000 in
theorem tjump_any (i : Ins) (w : World) : Calls Tryd.prog 33 #[.agg #[.int .i64 i.op, .int .i64 i.a, .int .i64 i.b]] w fun e w' => e = .returned (.bool (isJ i)) ∧ Below w.heap.size w w' := by
  obtain ⟨op, a, b⟩ := i
  have bA : Below w.heap.size w (w.alloc (.cells #[.int .i64 op, .int .i64 a, .int .i64 b] 31)) := (Below.refl _ _).alloc (Nat.le_refl _) _
  unfold isJ
  show Calls Tryd.prog 33 #[.agg #[.int .i64 op, .int .i64 a, .int .i64 b]] w fun e w' => e = .returned (.bool (decide (op = 14) || decide (op = 15))) ∧ Below w.heap.size w w'
  go_enter Tryd.func33, Tryd.ntmps33
  by_cases h1 : op = 14
  · subst h1; go_wp2; go_ret; exact ⟨rfl, bA⟩
  by_cases h2 : op = 15
  · subst h2; go_wp2; go_ret; exact ⟨rfl, bA⟩
  go_wp2; go_ret
  exact ⟨by simp [h1, h2], bA⟩
def gsOn (i : Ins) : Bool := decide (i.op ≠ 14) && decide (i.op ≠ 17)
set_option maxHeartbeats 800000 in
theorem tgoes_any (i : Ins) (w : World) : Calls Tryd.prog 47 #[.agg #[.int .i64 i.op, .int .i64 i.a, .int .i64 i.b]] w fun e w' => e = .returned (.bool (gsOn i)) ∧ Below w.heap.size w w' := by
  obtain ⟨op, a, b⟩ := i
  have bA : Below w.heap.size w (w.alloc (.cells #[.int .i64 op, .int .i64 a, .int .i64 b] 31)) := (Below.refl _ _).alloc (Nat.le_refl _) _
  unfold gsOn
  show Calls Tryd.prog 47 #[.agg #[.int .i64 op, .int .i64 a, .int .i64 b]] w fun e w' => e = .returned (.bool (decide (op ≠ 14) && decide (op ≠ 17))) ∧ Below w.heap.size w w'
  go_enter Tryd.func47, Tryd.ntmps47
  by_cases h1 : op = 14
  · subst h1; go_wp2; go_ret; exact ⟨rfl, bA⟩
  by_cases h2 : op = 17
  · subst h2; go_wp2; go_ret; exact ⟨rfl, bA⟩
  go_wp2; go_ret
  exact ⟨by simp [h1, h2], bA⟩
set_option maxHeartbeats 800000 in
theorem tidle_any (i : Ins) (w : World) : Calls Tryd.prog 41 #[.agg #[.int .i64 i.op, .int .i64 i.a, .int .i64 i.b]] w fun e w' => e = .returned (.bool (idle i)) ∧ Below w.heap.size w w' := by
  obtain ⟨op, a, b⟩ := i
  have bA : Below w.heap.size w (w.alloc (.cells #[.int .i64 op, .int .i64 a, .int .i64 b] 31)) := (Below.refl _ _).alloc (Nat.le_refl _) _
  unfold idle
  show Calls Tryd.prog 41 #[.agg #[.int .i64 op, .int .i64 a, .int .i64 b]] w fun e w' => e = .returned (.bool (decide (op = 1 ∨ op = 3 ∨ op = 22 ∨ op = 24))) ∧ Below w.heap.size w w'
  go_enter Tryd.func41, Tryd.ntmps41
  by_cases h1 : op = 1
  · subst h1; go_wp2; go_ret; exact ⟨rfl, bA⟩
  by_cases h2 : op = 3
  · subst h2; go_wp2; go_ret; exact ⟨rfl, bA⟩
  by_cases h3 : op = 22
  · subst h3; go_wp2; go_ret; exact ⟨rfl, bA⟩
  by_cases h4 : op = 24
  · subst h4; go_wp2; go_ret; exact ⟨rfl, bA⟩
  go_wp2; go_ret
  exact ⟨by simp [h1, h2, h3, h4], bA⟩
set_option maxHeartbeats 800000 in
theorem truth_any (b : Bool) (w : World) : Calls Tryd.prog 44 #[.bool b] w fun e w' => e = .returned (.int .i64 (tr b)) ∧ Below w.heap.size w w' := by
  go_enter Tryd.func44, Tryd.ntmps44
  cases b <;> (go_wp2; go_ret; exact ⟨rfl, Below.refl _ _⟩)
set_option maxHeartbeats 800000 in
theorem rone_any (b : Bool) (w : World) : Calls Tryd.prog 25 #[.bool b] w fun e w' => e = .returned (.int .i64 (tr b)) ∧ Below w.heap.size w w' := by
  go_enter Tryd.func25, Tryd.ntmps25
  cases b <;> (go_wp2; go_ret; exact ⟨rfl, Below.refl _ _⟩)
def okV (o : Option Int) : Value := .tuple #[.int .i64 (o.getD 0), .bool o.isSome]
set_option maxHeartbeats 800000 in
theorem rknum_any (n : Int) (w : World) : Calls Tryd.prog 53 #[.int .i64 n] w fun e w' => e = .returned (okV (numP n)) ∧ Below w.heap.size w w' := by
  unfold numP mx
  by_cases h1 : n < 0
  · rw [if_pos (.inl h1)]
    have d1 := decide_eq_true h1
    go_enter Tryd.func53, Tryd.ntmps53
    go_wp2; go_ret2; exact ⟨rfl, Below.refl _ _⟩
  · have d1 := decide_eq_false h1
    by_cases h2 : 1099511627775 < n
    · rw [if_pos (.inr h2)]
      have d2 := decide_eq_true h2
      go_enter Tryd.func53, Tryd.ntmps53
      go_wp2; go_ret2; exact ⟨rfl, Below.refl _ _⟩
    · rw [if_neg (by omega)]
      have d2 := decide_eq_false h2
      go_enter Tryd.func53, Tryd.ntmps53
      go_wp2; go_ret2; exact ⟨rfl, Below.refl _ _⟩
theorem mulmx {a b : Int} (ha : 0 ≤ a ∧ a ≤ mx) (hb : 0 ≤ b ∧ b ≤ mx) (h : ¬ (a ≠ 0 ∧ mx.tdiv a < b)) : 0 ≤ a * b ∧ a * b ≤ mx := two_in (op := 7) ha hb (by unfold two; rw [if_neg (by decide), if_neg (by decide), if_pos rfl, if_neg h])
set_option maxHeartbeats 1600000 in
theorem rkprod_any (a b : Int) (w : World) (ha : 0 ≤ a ∧ a ≤ mx) (hb : 0 ≤ b ∧ b ≤ mx) : Calls Tryd.prog 54 #[.int .i64 a, .int .i64 b] w fun e w' => e = .returned (okV (if a ≠ 0 ∧ mx.tdiv a < b then none else some (a * b))) ∧ Below w.heap.size w w' := by
  have hm := mulmx ha hb
  unfold mx at ha hb hm ⊢
  by_cases h1 : a = 0
  · subst h1
    rw [if_neg (by simp)]
    have e : IntKind.i64.wrap (0 * b) = 0 * b := by rw [Int.zero_mul]; decide
    go_enter Tryd.func54, Tryd.ntmps54
    go_wp2; go_ret2; exact ⟨by simp [okV], Below.refl _ _⟩
  · have hq : 0 ≤ (1099511627775 : Int).tdiv a ∧ (1099511627775 : Int).tdiv a ≤ 1099511627775 := ⟨Int.tdiv_nonneg (by decide) ha.1, Int.tdiv_le_self _ (by decide)⟩
    have e1 : IntKind.i64.wrap ((1099511627775 : Int).tdiv a) = (1099511627775 : Int).tdiv a := wrapJ _ (by omega) (by omega)
    have e0 : (a != 0) = true := by simpa using h1
    by_cases h2 : (1099511627775 : Int).tdiv a < b
    · rw [if_pos ⟨h1, h2⟩]
      have d2 := decide_eq_true h2
      go_enter Tryd.func54, Tryd.ntmps54
      go_wp2; go_ret2; exact ⟨rfl, Below.refl _ _⟩
    · rw [if_neg (fun q => h2 q.2)]
      have d2 := decide_eq_false h2
      have hm := hm (fun q => h2 q.2)
      have e2 : IntKind.i64.wrap (a * b) = a * b := wrapJ _ (by omega) (by omega)
      go_enter Tryd.func54, Tryd.ntmps54
      go_wp2; go_ret2; exact ⟨rfl, Below.refl _ _⟩
set_option maxHeartbeats 1600000 in
theorem rkshar_any (op a b : Int) (w : World) (ho : op = 8 ∨ op = 9) (ha : 0 ≤ a ∧ a ≤ mx) (hb : 0 ≤ b ∧ b ≤ mx) : Calls Tryd.prog 55 #[.int .i64 op, .int .i64 a, .int .i64 b] w fun e w' => e = .returned (okV (two op a b)) ∧ Below w.heap.size w w' := by
  have h8 : ∀ a b, two 8 a b = if b = 0 then none else some (a.tdiv b) := fun a b => by unfold two; simp
  have h9 : ∀ a b, two 9 a b = if b = 0 then none else some (a.tmod b) := fun a b => by unfold two; simp
  have hi8 : ∀ n, two 8 a b = some n → 0 ≤ n ∧ n ≤ mx := fun n => two_in ha hb
  have hi9 : ∀ n, two 9 a b = some n → 0 ≤ n ∧ n ≤ mx := fun n => two_in ha hb
  rw [h8] at hi8
  rw [h9] at hi9
  unfold mx at ha hb hi8 hi9
  rcases ho with rfl | rfl
  · rw [h8]
    by_cases h0 : b = 0
    · subst h0
      rw [if_pos rfl]
      go_enter Tryd.func55, Tryd.ntmps55
      go_wp2; go_ret2; exact ⟨rfl, Below.refl _ _⟩
    · have hi := hi8 _ (if_neg h0)
      rw [if_neg h0]
      have e1 : IntKind.i64.wrap (a.tdiv b) = a.tdiv b := wrapJ _ (by omega) (by omega)
      have e0 : (b == 0) = false := by simpa using h0
      go_enter Tryd.func55, Tryd.ntmps55
      go_wp2; go_ret2; exact ⟨rfl, Below.refl _ _⟩
  · rw [h9]
    by_cases h0 : b = 0
    · subst h0
      rw [if_pos rfl]
      go_enter Tryd.func55, Tryd.ntmps55
      go_wp2; go_ret2; exact ⟨rfl, Below.refl _ _⟩
    · have hi := hi9 _ (if_neg h0)
      rw [if_neg h0]
      have e1 : IntKind.i64.wrap (a.tmod b) = a.tmod b := wrapJ _ (by omega) (by omega)
      have e0 : (b == 0) = false := by simpa using h0
      go_enter Tryd.func55, Tryd.ntmps55
      go_wp2; go_ret2; exact ⟨by rw [Int.tmod_eq_emod_of_nonneg ha.1]; rfl, Below.refl _ _⟩
set_option maxHeartbeats 3200000 in
theorem rktwo_any (op a b : Int) (w : World) (ha : 0 ≤ a ∧ a ≤ mx) (hb : 0 ≤ b ∧ b ≤ mx) : Calls Tryd.prog 51 #[.int .i64 op, .int .i64 a, .int .i64 b] w fun e w' => e = .returned (okV (two op a b)) ∧ Below w.heap.size w w' := by
  have ha' := ha
  have hb' := hb
  unfold mx at ha' hb'
  by_cases h5 : op = 5
  · subst h5
    have e1 : IntKind.i64.wrap (a + b) = a + b := wrapJ _ (by omega) (by omega)
    have K := rknum_any (a + b) w
    rw [show two 5 a b = numP (a + b) from if_pos rfl]
    generalize numP (a + b) = r at *
    obtain ⟨rv, rfl⟩ : ∃ rv, rv = okV r := ⟨_, rfl⟩
    cases r <;>
    (simp only [okV, Option.getD_none, Option.getD_some, Option.isSome_none, Option.isSome_some] at K ⊢
     go_enter Tryd.func51, Tryd.ntmps51
     go_wp2_with fail
     refine K.mono ?_
     rintro e w1 ⟨rfl, b1⟩
     go_wp2; go_ret2; exact ⟨rfl, b1⟩)
  by_cases h6 : op = 6
  · subst h6
    have e1 : IntKind.i64.wrap (a - b) = a - b := wrapJ _ (by omega) (by omega)
    have K := rknum_any (a - b) w
    rw [show two 6 a b = numP (a - b) from rfl]
    generalize numP (a - b) = r at *
    cases r <;>
    (simp only [okV, Option.getD_none, Option.getD_some, Option.isSome_none, Option.isSome_some] at K ⊢
     go_enter Tryd.func51, Tryd.ntmps51
     go_wp2_with fail
     refine K.mono ?_
     rintro e w1 ⟨rfl, b1⟩
     go_wp2; go_ret2; exact ⟨rfl, b1⟩)
  by_cases h7 : op = 7
  · subst h7
    have K := rkprod_any a b w ha hb
    rw [show two 7 a b = (if a ≠ 0 ∧ mx.tdiv a < b then none else some (a * b)) from rfl]
    generalize (if a ≠ 0 ∧ mx.tdiv a < b then none else some (a * b)) = r at *
    cases r <;>
    (simp only [okV, Option.getD_none, Option.getD_some, Option.isSome_none, Option.isSome_some] at K ⊢
     go_enter Tryd.func51, Tryd.ntmps51
     go_wp2_with fail
     refine K.mono ?_
     rintro e w1 ⟨rfl, b1⟩
     go_wp2; go_ret2; exact ⟨rfl, b1⟩)
  by_cases h89 : op = 8 ∨ op = 9
  · have K := rkshar_any op a b w h89 ha hb
    generalize two op a b = r at *
    rcases h89 with rfl | rfl <;> cases r <;>
    (simp only [okV, Option.getD_none, Option.getD_some, Option.isSome_none, Option.isSome_some] at K ⊢
     go_enter Tryd.func51, Tryd.ntmps51
     go_wp2_with fail
     refine K.mono ?_
     rintro e w1 ⟨rfl, b1⟩
     go_wp2; go_ret2; exact ⟨rfl, b1⟩)
  by_cases h10 : op = 10
  · subst h10
    rw [show two 10 a b = some (tr (decide (a = b))) from rfl]
    have e : (a == b) = decide (a = b) := rfl
    have K := truth_any (decide (a = b)) w
    generalize decide (a = b) = r at *
    go_enter Tryd.func51, Tryd.ntmps51
    go_wp2_with fail
    refine K.mono ?_
    rintro e w1 ⟨rfl, b1⟩
    go_wp2; go_ret2; exact ⟨rfl, b1⟩
  by_cases h11 : op = 11
  · subst h11
    rw [show two 11 a b = some (tr (decide (a < b))) from rfl]
    have K := truth_any (decide (a < b)) w
    generalize hr : decide (a < b) = r at *
    go_enter Tryd.func51, Tryd.ntmps51
    go_wp2_with fail
    refine K.mono ?_
    rintro e w1 ⟨rfl, b1⟩
    go_wp2; go_ret2; exact ⟨rfl, b1⟩
  by_cases h12 : op = 12
  · subst h12
    rw [show two 12 a b = some (tr (decide (b < a))) from rfl]
    have K := truth_any (decide (b < a)) w
    generalize hr : decide (b < a) = r at *
    go_enter Tryd.func51, Tryd.ntmps51
    go_wp2_with fail
    refine K.mono ?_
    rintro e w1 ⟨rfl, b1⟩
    go_wp2; go_ret2; exact ⟨rfl, b1⟩
  have e : two op a b = none := by
    unfold two
    rw [if_neg h5, if_neg h6, if_neg h7, if_neg h10, if_neg h11, if_neg h12, if_neg (fun q => h89 (.inl q)), if_neg (fun q => h89 (.inr q))]
  rw [e]
  have h8 : op ≠ 8 := fun q => h89 (.inl q)
  have h9 : op ≠ 9 := fun q => h89 (.inr q)
  go_enter Tryd.func51, Tryd.ntmps51
  go_wp2; go_ret2
  exact ⟨rfl, Below.refl _ _⟩
end Go.Proofs.YtemjajljpoaioaaDoor
