/- Who has a seat; the answer's weights. -/
import Derived.Test.YtimcddknoanghaaBSeat
namespace Go.Proofs.Ytimcddknoanghaa
open Go.RowKit
set_option linter.unusedVariables false
set_option linter.unusedSimpArgs false

/-- Somebody has a seat. -/
def hasP (l : List (Int × Int)) (v : Int) : Bool := l.any fun x => decide (x.1 = v)
theorem hasP_take {l : List (Int × Int)} {v : Int} {i : Nat} (h : i < l.length) : hasP (l.take (i + 1)) v = (hasP (l.take i) v || decide (l[i].1 = v)) := by
  unfold hasP
  rw [List.take_succ_eq_append_getElem h, List.any_append]
  simp
theorem hasP_at {l : List (Int × Int)} {v : Int} {i : Nat} (h : i < l.length) (e : l[i].1 = v) : hasP l v = true := by
  unfold hasP
  rw [List.any_eq_true]
  exact ⟨l[i], List.getElem_mem h, by simpa using e⟩

theorem rhas_any (la : Option Addr) (ca : Nat) (l : List (Int × Int)) (v : Int) (w : World) (hl : l.length ≤ maxLen) (h1 : SeatsAt w la l) :
    Calls Try.prog 28 #[.slice la l.length ca, .int .i64 v] w fun e w' => e = .returned (.bool (hasP l v)) ∧ w = w' := by
  unfold maxLen at hl
  go_enter Try.func28, Try.ntmps28
  go_wp2_with fail
  go_loopw [5] (fun iv wv => ∃ i : Nat, i ≤ l.length ∧ iv = .int .i64 i ∧ Hid (hasP (l.take i) v = false) ∧ w = wv) (fun iv _ => l.length - (intOf iv).toNat)
  case atStart => exact ⟨0, Nat.zero_le _, rfl, rfl, rfl⟩
  case round =>
    obtain ⟨i, hi, rfl, HT, rfl⟩ := hrel
    by_cases hlt : i < l.length
    · have hlt' : (i : Int) < (l.length : Int) := by omega
      obtain ⟨b1, o1, e1, z1, a1, a2⟩ := h1.one hlt
      subst e1
      have ht := hasP_take (v := v) hlt
      have hp := hasP_at (v := v) hlt
      rw [HT.out] at ht
      generalize l[i] = x at *
      obtain ⟨xk, xv⟩ := x
      simp only at a1 a2 ht hp
      by_cases hxy : xk = v
      · have HR : Hid (hasP l v = true) := hp hxy
        subst hxy
        clear ht HT hp
        go_wp2
        go_ret
        exact ⟨by rw [HR.out]; rfl, rfl⟩
      · have HN : Hid (hasP (l.take (i + 1)) v = false) := by show _ = _; rw [ht]; simp [hxy]
        have hxd : (xk == v) = false := by simpa using hxy
        clear ht HT hp
        go_wp2
        exact ⟨⟨i + 1, by omega, by go_num, HN, trivial⟩, by simp [intOf]; omega⟩
    · have hge : ¬ (i : Int) < (l.length : Int) := by omega
      have HN : Hid (hasP l v = false) := by
        have := HT.out
        rwa [List.take_of_length_le (by omega)] at this
      go_wp2
      go_ret
      exact ⟨by rw [HN.out]; rfl, rfl⟩

theorem rin_any (la : Option Addr) (ca : Nat) (l : List Int) (v : Int) (w : World) (hl : l.length ≤ maxLen) (h1 : IntsAt w la l) :
    Calls Try.prog 68 #[.int .i64 v, .slice la l.length ca] w fun e w' => e = .returned (.bool (decide (v ∈ l))) ∧ w = w' := by
  unfold maxLen at hl
  go_enter Try.func68, Try.ntmps68
  go_wp2_with fail
  go_loopw [5] (fun iv wv => ∃ i : Nat, i ≤ l.length ∧ iv = .int .i64 i ∧ Hid (v ∉ l.take i) ∧ w = wv) (fun iv _ => l.length - (intOf iv).toNat)
  case atStart => exact ⟨0, Nat.zero_le _, rfl, by show _ ∉ _; simp, rfl⟩
  case round =>
    obtain ⟨i, hi, rfl, HT, rfl⟩ := hrel
    by_cases hlt : i < l.length
    · have hlt' : (i : Int) < (l.length : Int) := by omega
      obtain ⟨b1, o1, e1, z1, a1⟩ := h1.one hlt
      subst e1
      have HX : Hid (l[i] ∈ l) := List.getElem_mem hlt
      have ht1 := List.take_succ_eq_append_getElem hlt
      generalize l[i] = x at *
      by_cases hxy : x = v
      · subst hxy
        have HR : Hid (decide (x ∈ l) = true) := decide_eq_true HX.out
        clear ht1 HX HT
        go_wp2
        go_ret
        exact ⟨by rw [HR.out]; rfl, rfl⟩
      · have HN : Hid (v ∉ l.take (i + 1)) := by
          show _ ∉ _
          rw [ht1]
          simp only [List.mem_append, List.mem_singleton, not_or]
          exact ⟨HT.out, fun e => hxy e.symm⟩
        have hxd : (x == v) = false := by simpa using hxy
        clear ht1 HX HT
        go_wp2
        exact ⟨⟨i + 1, by omega, by go_num, HN, trivial⟩, by simp [intOf]; omega⟩
    · have hge : ¬ (i : Int) < (l.length : Int) := by omega
      have HN : Hid (decide (v ∈ l) = false) := by
        have := HT.out
        rw [List.take_of_length_le (by omega)] at this
        exact decide_eq_false this
      go_wp2
      go_ret
      exact ⟨by rw [HN.out]; rfl, rfl⟩

theorem has1_any (v : Int) (w : World) (b : Nat) (x y : Int) (k1 : Blk w b #[.int .i64 v] 3) :
    Calls Try.prog 61 #[.agg #[.int .i64 x, .int .i64 y], .pointer (some ⟨b, 0, none⟩)] w fun e w' => e = .returned (.bool (decide (x = v))) ∧ Below w.heap.size w w' := by
  have bA : Below w.heap.size w (w.alloc (.cells #[.int .i64 x, .int .i64 y] 53)) := (Below.refl _ _).alloc (Nat.le_refl _) _
  have k2 := k1.below bA k1.lt
  have c0 := (k2.cell 0).trans rfl
  have z0 := k2.lt
  have z1 := k1.lt
  by_cases hx : x = v
  · subst hx
    go_enter Try.func61, Try.ntmps61
    go_wp2
    go_ret
    exact ⟨by simp, bA⟩
  · have hd : (x == v) = false := by simpa using hx
    go_enter Try.func61, Try.ntmps61
    go_wp2
    go_ret
    exact ⟨by simp [hx], bA⟩

theorem idxfunc_any (la : Option Addr) (ca b : Nat) (l : List (Int × Int)) (v : Int) (w : World) (hl : l.length ≤ maxLen) (h1 : SeatsAt w la l) (k1 : Blk w b #[.int .i64 v] 3) :
    Calls Try.prog 76 #[.slice la l.length ca, .func (.func 61) #[] #[.pointer (some ⟨b, 0, none⟩)]] w fun e w' => (∃ n : Int, e = .returned (.int .i64 n) ∧ (0 ≤ n ↔ hasP l v = true)) ∧ Below w.heap.size w w' := by
  unfold maxLen at hl
  go_enter Try.func76, Try.ntmps76
  go_wp2_with fail
  go_loopw [8] (fun iv wv => ∃ i : Nat, i ≤ l.length ∧ iv = .int .i64 i ∧ Hid (hasP (l.take i) v = false) ∧ Below w.heap.size w wv) (fun iv _ => l.length - (intOf iv).toNat)
  case atStart => exact ⟨0, Nat.zero_le _, rfl, rfl, Below.refl _ _⟩
  case round =>
    obtain ⟨i, hi, rfl, HT, hb⟩ := hrel
    by_cases hlt : i < l.length
    · have hlt' : (i : Int) < (l.length : Int) := by omega
      obtain ⟨b1, o1, e1, z1, a1, a2⟩ := (h1.below hb).one hlt
      subst e1
      have ht := hasP_take (v := v) hlt
      have hp := hasP_at (v := v) hlt
      rw [HT.out] at ht
      generalize l[i] = x at *
      obtain ⟨xk, xv⟩ := x
      simp only at a1 a2 ht hp
      go_wp2_with fail
      refine (has1_any v wr b xk xv (k1.below hb k1.lt)).mono ?_
      rintro e w1 ⟨rfl, b1'⟩
      have hB1 := hb.trans (b1'.mono hb.size)
      by_cases hxy : xk = v
      · have HR : Hid (hasP l v = true) := hp hxy
        rw [decide_eq_true hxy]
        clear ht HT hp
        go_wp2
        go_ret
        exact ⟨⟨_, rfl, ⟨fun _ => HR.out, fun _ => by omega⟩⟩, hB1⟩
      · have HN : Hid (hasP (l.take (i + 1)) v = false) := by show _ = _; rw [ht]; simp [hxy]
        rw [decide_eq_false hxy]
        clear ht HT hp
        go_wp2
        exact ⟨⟨i + 1, by omega, by go_num, HN, hB1⟩, by simp [intOf]; omega⟩
    · have hge : ¬ (i : Int) < (l.length : Int) := by omega
      have HN : Hid (hasP l v = false) := by
        have := HT.out
        rwa [List.take_of_length_le (by omega)] at this
      go_wp2
      go_ret
      exact ⟨⟨_, rfl, ⟨fun h => by omega, fun h => by rw [HN.out] at h; cases h⟩⟩, hb⟩

theorem contfunc_any (la : Option Addr) (ca b : Nat) (l : List (Int × Int)) (v : Int) (w : World) (hl : l.length ≤ maxLen) (h1 : SeatsAt w la l) (k1 : Blk w b #[.int .i64 v] 3) :
    Calls Try.prog 60 #[.slice la l.length ca, .func (.func 61) #[] #[.pointer (some ⟨b, 0, none⟩)]] w fun e w' => e = .returned (.bool (hasP l v)) ∧ Below w.heap.size w w' := by
  go_enter Try.func60, Try.ntmps60
  go_wp2_with fail
  refine (idxfunc_any la ca b l v w hl h1 k1).mono ?_
  rintro e w1 ⟨⟨n, rfl, hn⟩, b1⟩
  have HE : Hid (decide (0 ≤ n) = hasP l v) := by
    show _ = _
    by_cases h : hasP l v = true
    · rw [h]; exact decide_eq_true (hn.2 h)
    · rw [Bool.not_eq_true] at h
      rw [h]
      exact decide_eq_false fun h2 => by rw [hn.1 h2] at h; cases h
  clear hn
  go_wp2
  go_ret
  exact ⟨by rw [← HE.out]; rfl, b1⟩

theorem has_any (la : Option Addr) (ca : Nat) (l : List (Int × Int)) (v : Int) (w : World) (hl : l.length ≤ maxLen) (h1 : SeatsAt w la l) :
    Calls Try.prog 44 #[.slice la l.length ca, .int .i64 v] w fun e w' => e = .returned (.bool (hasP l v)) ∧ Below w.heap.size w w' := by
  have bA : Below w.heap.size w (w.alloc (.cells #[.int .i64 v] 3)) := (Below.refl _ _).alloc (Nat.le_refl _) _
  go_enter Try.func44, Try.ntmps44
  go_wp2_with fail
  refine (contfunc_any la ca w.heap.size l v _ hl (h1.below bA) (Blk.new _ _ _)).mono ?_
  rintro e w1 ⟨rfl, b1⟩
  go_wp2
  go_ret
  exact ⟨rfl, bA.trans (b1.mono bA.size)⟩

theorem rweight_any (la na : Option Addr) (ca cn : Nat) (l : List (Int × Int)) (named : List Int) (w : World) (hl : l.length ≤ 64) (hn : named.length ≤ maxLen) (hw : ∀ x ∈ l, 0 ≤ x.2 ∧ x.2 ≤ 1099511627775) (h1 : SeatsAt w la l) (h2 : IntsAt w na named) :
    Calls Try.prog 53 #[.slice la l.length ca, .slice na named.length cn] w fun e w' => e = .returned (.int .i64 (wtP l named)) ∧ Below w.heap.size w w' := by
  go_enter Try.func53, Try.ntmps53
  go_wp2_with fail
  go_loopw [5, 6] (fun nv iv wv => ∃ (i : Nat) (n : Int), i ≤ l.length ∧ iv = .int .i64 i ∧ nv = .int .i64 n ∧ Hid (n = wtP (l.take i) named) ∧ Below w.heap.size w wv) (fun _ iv _ => l.length - (intOf iv).toNat)
  case atStart => exact ⟨0, _, Nat.zero_le _, rfl, rfl, rfl, Below.refl _ _⟩
  case round =>
    obtain ⟨i, n, hi, rfl, rfl, HT, hb⟩ := hrel
    obtain ⟨p1, p2⟩ := totP_bound (w0_take hw i)
    obtain ⟨p4, p5⟩ := wtP_bound named (w0_take hw i)
    have p3 : (l.take i).length ≤ 64 := by rw [List.length_take]; omega
    rw [← HT.out] at p4 p5
    have p6 : n ≤ 1099511627775 * 64 := by omega
    clear p1 p2 p3 p5
    by_cases hlt : i < l.length
    · have hlt' : (i : Int) < (l.length : Int) := by omega
      obtain ⟨b1, o1, e1, z1, a1, a2⟩ := (h1.below hb).one hlt
      subst e1
      have ht := wtP_take (named := named) hlt
      have hx := hw _ (List.getElem_mem hlt)
      rw [← HT.out] at ht
      generalize l[i] = x at *
      obtain ⟨xk, xv⟩ := x
      simp only at a1 a2 hx ht
      have hn2 := h2.below hb
      have K := rin_any na cn named xk _ hn hn2
      by_cases hin : xk ∈ named
      · rw [if_pos hin] at ht
        have HN : Hid (n + xv = wtP (l.take (i + 1)) named) := ht.symm
        have hd : decide (xk ∈ named) = true := by simpa using hin
        rw [hd] at K
        clear ht HT hin hd
        go_wp2_with fail
        refine K.mono ?_
        rintro e w1 ⟨rfl, rfl⟩
        go_wp2
        exact ⟨⟨i + 1, _, by omega, by go_num, by go_num, HN, hb⟩, by simp [intOf]; omega⟩
      · rw [if_neg hin] at ht
        have HN : Hid (n = wtP (l.take (i + 1)) named) := by show _ = _; omega
        have hd : decide (xk ∈ named) = false := by simpa using hin
        rw [hd] at K
        clear ht HT hin hd
        go_wp2_with fail
        refine K.mono ?_
        rintro e w1 ⟨rfl, rfl⟩
        go_wp2
        exact ⟨⟨i + 1, _, by omega, by go_num, by go_num, HN, hb⟩, by simp [intOf]; omega⟩
    · have hge : ¬ (i : Int) < (l.length : Int) := by omega
      have HN : Hid (n = wtP l named) := by
        have := HT.out
        rwa [List.take_of_length_le (by omega)] at this
      go_wp2
      go_ret
      exact ⟨by rw [HN.out]; rfl, hb⟩

theorem rquorum_any (la na : Option Addr) (ca cn : Nat) (l : List (Int × Int)) (named : List Int) (w : World) (hl : l.length ≤ 64) (hn : named.length ≤ maxLen) (hw : ∀ x ∈ l, 0 ≤ x.2 ∧ x.2 ≤ 1099511627775) (h1 : SeatsAt w la l) (h2 : IntsAt w na named) :
    Calls Try.prog 36 #[.slice la l.length ca, .slice na named.length cn] w fun e w' => e = .returned (.bool (decide (2 * totP l < 3 * wtP l named))) ∧ Below w.heap.size w w' := by
  obtain ⟨p1, p2⟩ := totP_bound hw
  obtain ⟨p4, p5⟩ := wtP_bound named hw
  have p3 : totP l ≤ 1099511627775 * 64 := by omega
  go_enter Try.func36, Try.ntmps36
  go_wp2_with fail
  refine (rweight_any la na ca cn l named w hl hn hw h1 h2).mono ?_
  rintro e w1 ⟨rfl, b1⟩
  go_wp2_with fail
  refine (rtotal_any la ca l w1 hl hw (h1.below b1)).mono ?_
  rintro e w2 ⟨rfl, b2⟩
  go_wp2
  go_ret
  exact ⟨rfl, b1.trans (b2.mono b1.size)⟩

end Go.Proofs.Ytimcddknoanghaa
