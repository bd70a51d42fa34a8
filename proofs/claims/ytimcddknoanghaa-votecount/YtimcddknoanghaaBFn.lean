/- Small functions of benches: what may be, weights, quorums. -/
import Derived.Test.YtimcddknoanghaaBMem
namespace Go.Proofs.Ytimcddknoanghaa
open Go.RowKit
set_option linter.unusedVariables false
set_option linter.unusedSimpArgs false

/-- A seat that may be. -/
def MayS (x : Int × Int) : Prop := (1 ≤ x.1 ∧ x.1 ≤ 1099511627775) ∧ 1 ≤ x.2 ∧ x.2 ≤ 1099511627775
instance (x : Int × Int) : Decidable (MayS x) := by unfold MayS; exact inferInstance





theorem rmay_any (x y : Int) (w : World) : Calls Try.prog 41 #[.agg #[.int .i64 x, .int .i64 y]] w fun e w' => e = .returned (.bool (decide (MayS (x, y)))) ∧ Below w.heap.size w w' := by
  have bA : Below w.heap.size w (w.alloc (.cells #[.int .i64 x, .int .i64 y] 53)) := (Below.refl _ _).alloc (Nat.le_refl _) _
  go_enter Try.func41, Try.ntmps41
  by_cases h1 : 1 ≤ x
  · by_cases h2 : x ≤ 1099511627775
    · by_cases h3 : 1 ≤ y
      · go_wp2
        go_ret
        exact ⟨by simp [MayS, h1, h2, h3], bA⟩
      · have d3 := decide_eq_false h3
        go_wp2
        go_ret
        exact ⟨by simp [MayS, h1, h2]; intros; omega, bA⟩
    · have d3 := decide_eq_false h2
      go_wp2
      go_ret
      exact ⟨by simp [MayS, h1]; intros; omega, bA⟩
  · have d3 := decide_eq_false h1
    go_wp2
    go_ret
    exact ⟨by rw [show decide (MayS (x, y)) = false from by unfold MayS; exact decide_eq_false (by omega)]; rfl, bA⟩

theorem index_any (la : Option Addr) (ca : Nat) (l : List Int) (v : Int) (w : World) (hl : l.length ≤ maxLen) (h1 : IntsAt w la l) :
    Calls Try.prog 69 #[.slice la l.length ca, .int .i64 v] w fun e w' => (∃ n : Int, e = .returned (.int .i64 n) ∧ (0 ≤ n ↔ v ∈ l)) ∧ w = w' := by
  unfold maxLen at hl
  go_enter Try.func69, Try.ntmps69
  go_wp2_with fail
  go_loopw [8] (fun iv wv => ∃ i : Nat, i ≤ l.length ∧ iv = .int .i64 i ∧ Hid (v ∉ l.take i) ∧ w = wv) (fun iv _ => l.length - (intOf iv).toNat)
  case atStart => exact ⟨0, Nat.zero_le _, rfl, by show _ ∉ _; simp, rfl⟩
  case round =>
    obtain ⟨i, hi, rfl, HT, rfl⟩ := hrel
    by_cases hlt : i < l.length
    · have hlt' : (i : Int) < (l.length : Int) := by omega
      obtain ⟨b1, o1, e1, z1, a1⟩ := h1.one hlt
      subst e1
      have HX : Hid (l[i] ∈ l) := List.getElem_mem hlt
      have ht1 := List.take_succ_eq_append_getElem hlt
      generalize l[i] = x at *
      by_cases hxy : v = x
      · subst hxy
        clear ht1
        go_wp2
        go_ret
        exact ⟨⟨_, rfl, ⟨fun _ => HX.out, fun _ => by omega⟩⟩, rfl⟩
      · have HN : Hid (v ∉ l.take (i + 1)) := by
          show _ ∉ _
          rw [ht1]
          simp only [List.mem_append, List.mem_singleton, not_or]
          exact ⟨HT.out, hxy⟩
        have hxd : (v == x) = false := by simpa using hxy
        clear ht1
        go_wp2
        exact ⟨⟨i + 1, by omega, by go_num, HN, trivial⟩, by simp [intOf]; omega⟩
    · have hge : ¬ (i : Int) < (l.length : Int) := by omega
      have HN : Hid (v ∉ l) := by
        show _ ∉ _
        have := HT.out
        rwa [List.take_of_length_le (by omega)] at this
      go_wp2
      go_ret
      exact ⟨⟨_, rfl, ⟨fun h => by omega, fun h => absurd h HN.out⟩⟩, rfl⟩

theorem contains_any (la : Option Addr) (ca : Nat) (l : List Int) (v : Int) (w : World) (hl : l.length ≤ maxLen) (h1 : IntsAt w la l) :
    Calls Try.prog 56 #[.slice la l.length ca, .int .i64 v] w fun e w' => e = .returned (.bool (decide (v ∈ l))) ∧ w = w' := by
  go_enter Try.func56, Try.ntmps56
  go_wp2_with fail
  refine (index_any la ca l v w hl h1).mono ?_
  rintro e w1 ⟨⟨n, rfl, hn⟩, rfl⟩
  go_wp2
  go_ret
  exact ⟨by simp [hn], rfl⟩

/-- The weights together. -/
def totP (l : List (Int × Int)) : Int := (l.map (·.2)).sum
/-- The weights of those who are named. -/
def wtP (l : List (Int × Int)) (named : List Int) : Int := (l.map fun x => if x.1 ∈ named then x.2 else 0).sum
theorem totP_nil : totP [] = 0 := rfl
theorem sum_snoc (l : List Int) (x : Int) : (l ++ [x]).sum = l.sum + x := by simp
theorem totP_take {l : List (Int × Int)} {i : Nat} (h : i < l.length) : totP (l.take (i + 1)) = totP (l.take i) + l[i].2 := by
  unfold totP
  rw [List.take_succ_eq_append_getElem h, List.map_append, List.map_cons, List.map_nil, sum_snoc]
theorem wtP_take {l : List (Int × Int)} {named : List Int} {i : Nat} (h : i < l.length) : wtP (l.take (i + 1)) named = wtP (l.take i) named + if l[i].1 ∈ named then l[i].2 else 0 := by
  unfold wtP
  rw [List.take_succ_eq_append_getElem h, List.map_append, List.map_cons, List.map_nil, sum_snoc]
theorem totP_bound : ∀ {l : List (Int × Int)}, (∀ x ∈ l, 0 ≤ x.2 ∧ x.2 ≤ 1099511627775) → 0 ≤ totP l ∧ totP l ≤ 1099511627775 * l.length
  | [], _ => by simp [totP]
  | x :: l, h => by
    have h1 := h x (by simp)
    have h2 := totP_bound (l := l) fun y hy => h y (by simp [hy])
    simp only [totP, List.map_cons, List.sum_cons, List.length_cons] at h2 ⊢
    omega
theorem wtP_bound (named : List Int) : ∀ {l : List (Int × Int)}, (∀ x ∈ l, 0 ≤ x.2 ∧ x.2 ≤ 1099511627775) → 0 ≤ wtP l named ∧ wtP l named ≤ totP l
  | [], _ => by simp [totP, wtP]
  | x :: l, h => by
    have h1 := h x (by simp)
    have h2 := wtP_bound named (l := l) fun y hy => h y (by simp [hy])
    simp only [totP, wtP, List.map_cons, List.sum_cons] at h2 ⊢
    split <;> omega
theorem w0_take {l : List (Int × Int)} (h : ∀ x ∈ l, 0 ≤ x.2 ∧ x.2 ≤ 1099511627775) (i : Nat) : ∀ x ∈ l.take i, 0 ≤ x.2 ∧ x.2 ≤ 1099511627775 := fun x hx => h x (List.mem_of_mem_take hx)

theorem total_any (la : Option Addr) (ca : Nat) (l : List (Int × Int)) (w : World) (hl : l.length ≤ 64) (hw : ∀ x ∈ l, 0 ≤ x.2 ∧ x.2 ≤ 1099511627775) (h1 : SeatsAt w la l) :
    Calls Try.prog 52 #[.slice la l.length ca] w fun e w' => e = .returned (.int .i64 (totP l)) ∧ Below w.heap.size w w' := by
  go_enter Try.func52, Try.ntmps52
  go_wp2_with fail
  go_loopw [3, 8] (fun nv iv wv => ∃ (i : Nat) (n : Int), i ≤ l.length ∧ iv = .int .i64 i ∧ nv = .int .i64 n ∧ Hid (n = totP (l.take i)) ∧ Below w.heap.size w wv) (fun _ iv _ => l.length - (intOf iv).toNat)
  case atStart => exact ⟨0, _, Nat.zero_le _, rfl, rfl, rfl, Below.refl _ _⟩
  case round =>
    obtain ⟨i, n, hi, rfl, rfl, HT, hb⟩ := hrel
    obtain ⟨p1, p2⟩ := totP_bound (w0_take hw i)
    have p3 : (l.take i).length ≤ 64 := by rw [List.length_take]; omega
    rw [← HT.out] at p1 p2
    by_cases hlt : i < l.length
    · have hlt' : (i : Int) < (l.length : Int) := by omega
      obtain ⟨b1, o1, e1, z1, a1, a2⟩ := (h1.below hb).one hlt
      subst e1
      have ht := totP_take hlt
      have hx := hw _ (List.getElem_mem hlt)
      rw [← HT.out] at ht
      generalize l[i] = x at *
      obtain ⟨xk, xv⟩ := x
      simp only at a1 a2 hx ht
      have HN : Hid (n + xv = totP (l.take (i + 1))) := ht.symm
      have q1 : n + xv ≤ 1099511627775 * 65 := by omega
      clear ht HT
      go_wp2
      exact ⟨⟨i + 1, _, by omega, by go_num, by go_num, HN, by first | exact hb | exact hb.alloc hb.size _⟩, by simp [intOf]; omega⟩
    · have hge : ¬ (i : Int) < (l.length : Int) := by omega
      have HN : Hid (n = totP l) := by
        have := HT.out
        rwa [List.take_of_length_le (by omega)] at this
      go_wp2
      go_ret
      exact ⟨by rw [HN.out]; rfl, hb⟩

theorem rtotal_any (la : Option Addr) (ca : Nat) (l : List (Int × Int)) (w : World) (hl : l.length ≤ 64) (hw : ∀ x ∈ l, 0 ≤ x.2 ∧ x.2 ≤ 1099511627775) (h1 : SeatsAt w la l) :
    Calls Try.prog 54 #[.slice la l.length ca] w fun e w' => e = .returned (.int .i64 (totP l)) ∧ Below w.heap.size w w' := by
  go_enter Try.func54, Try.ntmps54
  go_wp2_with fail
  go_loopw [3, 4] (fun nv iv wv => ∃ (i : Nat) (n : Int), i ≤ l.length ∧ iv = .int .i64 i ∧ nv = .int .i64 n ∧ Hid (n = totP (l.take i)) ∧ Below w.heap.size w wv) (fun _ iv _ => l.length - (intOf iv).toNat)
  case atStart => exact ⟨0, _, Nat.zero_le _, rfl, rfl, rfl, Below.refl _ _⟩
  case round =>
    obtain ⟨i, n, hi, rfl, rfl, HT, hb⟩ := hrel
    obtain ⟨p1, p2⟩ := totP_bound (w0_take hw i)
    have p3 : (l.take i).length ≤ 64 := by rw [List.length_take]; omega
    rw [← HT.out] at p1 p2
    by_cases hlt : i < l.length
    · have hlt' : (i : Int) < (l.length : Int) := by omega
      obtain ⟨b1, o1, e1, z1, a1, a2⟩ := (h1.below hb).one hlt
      subst e1
      have ht := totP_take hlt
      have hx := hw _ (List.getElem_mem hlt)
      rw [← HT.out] at ht
      generalize l[i] = x at *
      obtain ⟨xk, xv⟩ := x
      simp only at a1 a2 hx ht
      have HN : Hid (n + xv = totP (l.take (i + 1))) := ht.symm
      have q1 : n + xv ≤ 1099511627775 * 65 := by omega
      clear ht HT
      go_wp2
      exact ⟨⟨i + 1, _, by omega, by go_num, by go_num, HN, by first | exact hb | exact hb.alloc hb.size _⟩, by simp [intOf]; omega⟩
    · have hge : ¬ (i : Int) < (l.length : Int) := by omega
      have HN : Hid (n = totP l) := by
        have := HT.out
        rwa [List.take_of_length_le (by omega)] at this
      go_wp2
      go_ret
      exact ⟨by rw [HN.out]; rfl, hb⟩

theorem weight_any (la na : Option Addr) (ca cn : Nat) (l : List (Int × Int)) (named : List Int) (w : World) (hl : l.length ≤ 64) (hn : named.length ≤ maxLen) (hw : ∀ x ∈ l, 0 ≤ x.2 ∧ x.2 ≤ 1099511627775) (h1 : SeatsAt w la l) (h2 : IntsAt w na named) :
    Calls Try.prog 51 #[.slice la l.length ca, .slice na named.length cn] w fun e w' => e = .returned (.int .i64 (wtP l named)) ∧ Below w.heap.size w w' := by
  go_enter Try.func51, Try.ntmps51
  go_wp2_with fail
  go_loopw [5, 10] (fun nv iv wv => ∃ (i : Nat) (n : Int), i ≤ l.length ∧ iv = .int .i64 i ∧ nv = .int .i64 n ∧ Hid (n = wtP (l.take i) named) ∧ Below w.heap.size w wv) (fun _ iv _ => l.length - (intOf iv).toNat)
  case atStart => exact ⟨0, _, Nat.zero_le _, rfl, rfl, rfl, Below.refl _ _⟩
  case round =>
    obtain ⟨i, n, hi, rfl, rfl, HT, hb⟩ := hrel
    obtain ⟨p1, p2⟩ := totP_bound (w0_take hw i)
    obtain ⟨p4, p5⟩ := wtP_bound named (w0_take hw i)
    have p3 : (l.take i).length ≤ 64 := by rw [List.length_take]; omega
    rw [← HT.out] at p4 p5
    have p6 : n ≤ 1099511627775 * 64 := by omega
    clear p1 p2 p3 p5
    by_cases hlt : i < l.length
    · have hlt' : (i : Int) < (l.length : Int) := by omega
      obtain ⟨b1, o1, e1, z1, a1, a2⟩ := (h1.below hb).one hlt
      subst e1
      have ht := wtP_take (named := named) hlt
      have hx := hw _ (List.getElem_mem hlt)
      rw [← HT.out] at ht
      generalize l[i] = x at *
      obtain ⟨xk, xv⟩ := x
      simp only at a1 a2 hx ht
      have hn2 := h2.below hb
      have bA : Below wr.heap.size wr (wr.alloc (.cells #[.int .i64 xk, .int .i64 xv] 53)) := (Below.refl _ _).alloc (Nat.le_refl _) _
      have K := contains_any na cn named xk _ hn (hn2.below bA)
      by_cases hin : xk ∈ named
      · rw [if_pos hin] at ht
        have HN : Hid (n + xv = wtP (l.take (i + 1)) named) := ht.symm
        have hd : decide (xk ∈ named) = true := by simpa using hin
        rw [hd] at K
        clear ht HT hin hd
        go_wp2_with fail
        refine K.mono ?_
        rintro e w1 ⟨rfl, rfl⟩
        go_wp2
        exact ⟨⟨i + 1, _, by omega, by go_num, by go_num, HN, hb.alloc hb.size _⟩, by simp [intOf]; omega⟩
      · rw [if_neg hin] at ht
        have HN : Hid (n = wtP (l.take (i + 1)) named) := by show _ = _; omega
        have hd : decide (xk ∈ named) = false := by simpa using hin
        rw [hd] at K
        clear ht HT hin hd
        go_wp2_with fail
        refine K.mono ?_
        rintro e w1 ⟨rfl, rfl⟩
        go_wp2
        exact ⟨⟨i + 1, _, by omega, by go_num, by go_num, HN, hb.alloc hb.size _⟩, by simp [intOf]; omega⟩
    · have hge : ¬ (i : Int) < (l.length : Int) := by omega
      have HN : Hid (n = wtP l named) := by
        have := HT.out
        rwa [List.take_of_length_le (by omega)] at this
      go_wp2
      go_ret
      exact ⟨by rw [HN.out]; rfl, hb⟩

theorem quorum_any (la na : Option Addr) (ca cn : Nat) (l : List (Int × Int)) (named : List Int) (w : World) (hl : l.length ≤ 64) (hn : named.length ≤ maxLen) (hw : ∀ x ∈ l, 0 ≤ x.2 ∧ x.2 ≤ 1099511627775) (h1 : SeatsAt w la l) (h2 : IntsAt w na named) :
    Calls Try.prog 35 #[.slice la l.length ca, .slice na named.length cn] w fun e w' => e = .returned (.bool (decide (2 * totP l < 3 * wtP l named))) ∧ Below w.heap.size w w' := by
  obtain ⟨p1, p2⟩ := totP_bound hw
  obtain ⟨p4, p5⟩ := wtP_bound named hw
  have p3 : totP l ≤ 1099511627775 * 64 := by omega
  go_enter Try.func35, Try.ntmps35
  go_wp2_with fail
  refine (weight_any la na ca cn l named w hl hn hw h1 h2).mono ?_
  rintro e w1 ⟨rfl, b1⟩
  go_wp2_with fail
  refine (total_any la ca l w1 hl hw (h1.below b1)).mono ?_
  rintro e w2 ⟨rfl, b2⟩
  go_wp2
  go_ret
  exact ⟨rfl, b1.trans (b2.mono b1.size)⟩

theorem some_any (la na : Option Addr) (ca cn : Nat) (l : List (Int × Int)) (named : List Int) (w : World) (hl : l.length ≤ 64) (hn : named.length ≤ maxLen) (hw : ∀ x ∈ l, 0 ≤ x.2 ∧ x.2 ≤ 1099511627775) (h1 : SeatsAt w la l) (h2 : IntsAt w na named) :
    Calls Try.prog 39 #[.slice la l.length ca, .slice na named.length cn] w fun e w' => e = .returned (.bool (decide (totP l < 3 * wtP l named))) ∧ Below w.heap.size w w' := by
  obtain ⟨p1, p2⟩ := totP_bound hw
  obtain ⟨p4, p5⟩ := wtP_bound named hw
  have p3 : totP l ≤ 1099511627775 * 64 := by omega
  go_enter Try.func39, Try.ntmps39
  go_wp2_with fail
  refine (weight_any la na ca cn l named w hl hn hw h1 h2).mono ?_
  rintro e w1 ⟨rfl, b1⟩
  go_wp2_with fail
  refine (total_any la ca l w1 hl hw (h1.below b1)).mono ?_
  rintro e w2 ⟨rfl, b2⟩
  go_wp2
  go_ret
  exact ⟨rfl, b1.trans (b2.mono b1.size)⟩
end Go.Proofs.Ytimcddknoanghaa
