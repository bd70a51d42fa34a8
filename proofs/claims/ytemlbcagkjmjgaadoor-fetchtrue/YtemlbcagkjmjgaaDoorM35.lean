/- The digest of a tree. -/
import Derived.Test.YtemlbcagkjmjgaaDoorTPut4

namespace Go.Proofs.YtemlbcagkjmjgaaDoor
open Go.RowKit
set_option linter.unusedVariables false
set_option linter.unusedSimpArgs false

set_option maxHeartbeats 1600000 in
theorem root_none (wd : Int) (w : World) (hw : okW wd) :
    Calls Tryd.prog 8 #[.agg #[.int .i64 wd, .pointer none]] w fun e w' => e = .returned (.int .u64 (rootP wd none)) ∧ Below w.heap.size w w' := by
  have bA : Below w.heap.size w (w.alloc (.cells #[.int .i64 wd, .pointer none] 34)) := (Below.refl _ _).alloc (Nat.le_refl _) _
  have kT := Blk.new w #[.int .i64 wd, .pointer none] 34
  go_enter Tryd.func8, Tryd.ntmps8
  go_upto_region 2 with fail
  generalize w.alloc (.cells #[.int .i64 wd, .pointer none] 34) = wA at *
  have t0 := kT.cell 0
  simp only [List.getElem?_toArray, List.getElem?_cons_succ, List.getElem?_cons_zero] at t0
  have T0 : ∀ w', Below wA.heap.size wA w' → w'.cell? ⟨w.heap.size, 0, none⟩ = some (.int .i64 wd) := fun w' h => by rw [h.cell (p := ⟨w.heap.size, 0, none⟩) kT.lt]; exact t0
  have bw : Below wA.heap.size wA wA := Below.refl _ _
  go_region_held3 (fun w' => Below wA.heap.size wA w') (repeat (first | exact bw.drew | exact hNext | assumption | refine Below.drew ?_ | exact bw))
    (first
    | (go_at_call 22
       refine (bareI_any _).mono ?_
       rintro e w3 ⟨v, rfl, ⟨a, cap, rfl, hs⟩, b3⟩
       have hNext : Below wA.heap.size wA w3 := Below.trans (by assumption) (b3.mono (Below.size (by assumption))))
    | (go_at_call 21
       refine (ofImg_any wd 5 [] _ _ hw (Nat.zero_le _) ⟨a, cap, rfl, hs⟩).mono ?_
       rintro e w4 ⟨rfl, b4⟩
       have hNext2 : Below wA.heap.size wA w4 := hNext.trans (b4.mono hNext.size)))
  all_goals
    go_wp2
    go_ret
    exact ⟨rfl, bA.trans (hNext2.mono bA.size)⟩

set_option maxHeartbeats 1600000 in
theorem root_some (wd : Int) (b : Nat) (t : Tr) (w : World) (hw : okW wd) (h : NodeAt wd w b t) :
    Calls Tryd.prog 8 #[.agg #[.int .i64 wd, .pointer (some ⟨b, 0, none⟩)]] w fun e w' => e = .returned (.int .u64 (rootP wd (some t))) ∧ Below w.heap.size w w' := by
  have bA : Below w.heap.size w (w.alloc (.cells #[.int .i64 wd, .pointer (some ⟨b, 0, none⟩)] 34)) := (Below.refl _ _).alloc (Nat.le_refl _) _
  have kT := Blk.new w #[.int .i64 wd, .pointer (some ⟨b, 0, none⟩)] 34
  have hA := NodeAt.below bA h
  go_enter Tryd.func8, Tryd.ntmps8
  go_upto_region 3 with fail
  generalize w.alloc (.cells #[.int .i64 wd, .pointer (some ⟨b, 0, none⟩)] 34) = wA at *
  have t0 := kT.cell 0
  have t1 := kT.cell 1
  simp only [List.getElem?_toArray, List.getElem?_cons_succ, List.getElem?_cons_zero] at t0 t1
  have T0 : ∀ w', Below wA.heap.size wA w' → w'.cell? ⟨w.heap.size, 0, none⟩ = some (.int .i64 wd) := fun w' h => by rw [h.cell (p := ⟨w.heap.size, 0, none⟩) kT.lt]; exact t0
  have T1 : ∀ w', Below wA.heap.size wA w' → w'.cell? ⟨w.heap.size, 1, none⟩ = some (.pointer (some ⟨b, 0, none⟩)) := fun w' h => by rw [h.cell (p := ⟨w.heap.size, 1, none⟩) kT.lt]; exact t1
  have D0 : ∀ w', Below wA.heap.size wA w' → w'.cell? ⟨b, 0, none⟩ = some (.int .u64 (t.dig wd)) := fun w' h => (NodeAt.below h hA).dig
  have bw : Below wA.heap.size wA wA := Below.refl _ _
  have hd := t.dig_bd wd
  obtain ⟨d, Hd⟩ : ∃ d, Hid (t.dig wd = d) := ⟨_, rfl⟩
  rw [Hd.out] at hd D0
  have HR : Hid (rootP wd (some t) = ofP wd 5 [str (be d 8)]) := by show _ = _; simp only [rootP]; rw [Hd.out]
  clear hA h t0 t1
  go_region_held3 (fun w' => Below wA.heap.size wA w') (repeat (first | exact bw.drew | exact hNext | assumption | refine Below.drew ?_ | exact bw))
    (first
    | (go_at_call 23
       refine (treeI_any d _ hd).mono ?_
       rintro e w3 ⟨v, rfl, ⟨a, cap, rfl, hs⟩, b3⟩
       have hNext : Below wA.heap.size wA w3 := Below.trans (by assumption) (b3.mono (Below.size (by assumption))))
    | (go_at_call 21
       refine (ofImg_any wd 5 [str (be d 8)] _ _ hw (by unfold maxLen; simp) ⟨a, cap, rfl, hs⟩).mono ?_
       rintro e w4 ⟨rfl, b4⟩
       have hNext2 : Below wA.heap.size wA w4 := hNext.trans (b4.mono hNext.size)))
  all_goals
    go_wp2
    go_ret
    exact ⟨by rw [HR.out]; rfl, bA.trans (hNext2.mono bA.size)⟩

theorem root_any (wd : Int) (q : Option Addr) (o : Option Tr) (w : World) (hw : okW wd) (h : TopAt wd w (.pointer q) o) :
    Calls Tryd.prog 8 #[.agg #[.int .i64 wd, .pointer q]] w fun e w' => e = .returned (.int .u64 (rootP wd o)) ∧ Below w.heap.size w w' := by
  cases o with
  | none =>
    have e : q = none := by have h : Value.pointer q = .pointer none := h; injection h
    subst e
    exact root_none wd w hw
  | some t =>
    obtain ⟨b, e, hn⟩ := h
    have e : q = some ⟨b, 0, none⟩ := by injection e
    subst e
    exact root_some wd b t w hw hn
end Go.Proofs.YtemlbcagkjmjgaaDoor

namespace Go.Proofs.YtemlbcagkjmjgaaDoor
open Go.RowKit
set_option linter.unusedVariables false
set_option linter.unusedSimpArgs false

/-- A list of items in memory. -/
def ItemsAt (w : World) (la : Option Addr) (l : List (Key × Key)) : Prop :=
  l = [] ∨ ∃ b off, la = some ⟨b, off, none⟩ ∧ b < w.heap.size ∧ ∀ i x, l[i]? = some x → w.cell? ⟨b, off + i * 2, none⟩ = some (.string (str x.1)) ∧ w.cell? ⟨b, off + i * 2 + 1, none⟩ = some (.string (str x.2))
theorem ItemsAt.below {w w' : World} {la : Option Addr} {l : List (Key × Key)} (h : ItemsAt w la l) (hb : Below w.heap.size w w') : ItemsAt w' la l := by
  rcases h with h | ⟨b, off, e, hl, hc⟩
  · exact .inl h
  · refine .inr ⟨b, off, e, Nat.lt_of_lt_of_le hl hb.size, fun i x hx => ?_⟩
    obtain ⟨h1, h2⟩ := hc i x hx
    exact ⟨by rw [hb.cell (p := ⟨b, off + i * 2, none⟩) hl]; exact h1, by rw [hb.cell (p := ⟨b, off + i * 2 + 1, none⟩) hl]; exact h2⟩

set_option maxHeartbeats 1600000 in
theorem sameItems_any (la lb : Option Addr) (ca cb : Nat) (l m : List (Key × Key)) (w : World) (hl : l.length ≤ 1000000) (hm : m.length ≤ 1000000) (h1 : ItemsAt w la l) (h2 : ItemsAt w lb m) :
    Calls Tryd.prog 16 #[.slice la l.length ca, .slice lb m.length cb] w fun e w' => e = .returned (.bool (decide (l = m))) ∧ Below w.heap.size w w' := by
  by_cases hlen : l.length = m.length
  rotate_left
  · have hne : ((l.length : Int) != (m.length : Int)) = true := by simp; omega
    have hd : decide (l = m) = false := by simp; intro e; exact hlen (by rw [e])
    rw [hd]
    go_enter Tryd.func16, Tryd.ntmps16
    go_wp2
    go_ret
    exact ⟨rfl, Below.refl _ _⟩
  · have hne : ((l.length : Int) != (m.length : Int)) = false := by simp; omega
    go_enter Tryd.func16, Tryd.ntmps16
    go_wp2_with fail
    go_loopw [5] (fun iv wv => ∃ i : Nat, i ≤ l.length ∧ iv = .int .i64 i ∧ Hid (l.take i = m.take i) ∧ Below w.heap.size w wv) (fun iv _ => l.length - (intOf iv).toNat)
    case atStart => exact ⟨0, Nat.zero_le _, rfl, rfl, Below.refl _ _⟩
    case round =>
      obtain ⟨i, hi, rfl, HT, hb⟩ := hrel
      by_cases hlt : i < l.length
      · have hlt' : (i : Int) < (l.length : Int) := by omega
        have hlm : i < m.length := by omega
        have hlm' : (i : Int) < (m.length : Int) := by omega
        rcases ItemsAt.below h1 hb with h0 | ⟨b1, o1, e1, z1, c1⟩
        · rw [h0] at hlt; simp at hlt
        rcases ItemsAt.below h2 hb with h0 | ⟨b2, o2, e2, z2, c2⟩
        · rw [h0] at hlm; simp at hlm
        subst e1
        subst e2
        obtain ⟨a1, a2⟩ := c1 i _ (List.getElem?_eq_getElem hlt)
        obtain ⟨d1, d2⟩ := c2 i _ (List.getElem?_eq_getElem hlm)
        have ht1 := List.take_succ_eq_append_getElem hlt
        have ht2 := List.take_succ_eq_append_getElem hlm
        obtain ⟨x, ex⟩ : ∃ x, l[i] = x := ⟨_, rfl⟩
        obtain ⟨y, ey⟩ : ∃ y, m[i] = y := ⟨_, rfl⟩
        rw [ex] at a1 a2 ht1
        rw [ey] at d1 d2 ht2
        have HX : Hid (l[i] = x) := ex
        have HY : Hid (m[i] = y) := ey
        clear c1 c2 ex ey
        obtain ⟨xk, xv⟩ := x
        obtain ⟨yk, yv⟩ := y
        simp only at a1 a2 d1 d2
        have s1 := str_toList xk
        have s2 := str_toList yk
        have s3 := str_toList xv
        have s4 := str_toList yv
        by_cases hxy : xk = yk ∧ xv = yv
        · obtain ⟨rfl, rfl⟩ := hxy
          have HT1 : Hid (l.take (i + 1) = m.take (i + 1)) := by
            show _ = _
            rw [ht1, ht2, HT.out]
          clear ht1 ht2
          go_upto_region 6 with fail
          go_quiet (fail)
          go_wp2
          exact ⟨⟨i + 1, by omega, by go_num, HT1, below_drewN hb _⟩, by simp [intOf]; omega⟩
        · have hd : decide (l = m) = false := by
            simp
            intro e
            apply hxy
            have h3 := HX.out
            have h4 := HY.out
            subst e
            rw [h3] at h4
            injection h4 with h5 h6
            exact ⟨h5, h6⟩
          have Hd : Hid (decide (l = m) = false) := hd
          clear ht1 ht2 hd
          by_cases g1 : xk = yk
          · have g2 : (xv == yv) = false := by simp; exact fun e => hxy ⟨g1, e⟩
            subst g1
            clear hxy HX HY
            go_upto_region 6 with fail
            go_quiet (fail)
            go_wp2
            go_ret
            exact ⟨by rw [Hd.out]; rfl, below_drewN hb _⟩
          · have g2 : (xk == yk) = false := by simpa using g1
            clear hxy HX HY g1
            go_upto_region 6 with fail
            go_quiet (fail)
            go_wp2
            go_ret
            exact ⟨by rw [Hd.out]; rfl, below_drewN hb _⟩
      · have hge : ¬ (i : Int) < (l.length : Int) := by omega
        have Hd : Hid (decide (l = m) = true) := by
          show _ = _
          have := HT.out
          rw [List.take_of_length_le (by omega), List.take_of_length_le (by omega)] at this
          simp [this]
        go_wp2
        go_ret
        exact ⟨by rw [Hd.out]; rfl, hb⟩
end Go.Proofs.YtemlbcagkjmjgaaDoor

namespace Go.Proofs.YtemlbcagkjmjgaaDoor
open Go.RowKit
set_option linter.unusedVariables false
set_option linter.unusedSimpArgs false

/-- It says yes or no, and no of more than so many. -/
def Few (n : Nat) (e : Ending) : Prop := ∃ z : Bool, e = .returned (.bool z) ∧ (z = true → n ≤ 1024)

set_option maxHeartbeats 1600000 in
theorem light_any (la : Option Addr) (ca : Nat) (l : List (Key × Key)) (w : World) (hl : l.length ≤ maxLen) (h1 : ItemsAt w la l) :
    Calls Tryd.prog 4 #[.slice la l.length ca] w fun e w' => Few l.length e ∧ Below w.heap.size w w' := by
  unfold maxLen at hl
  go_enter Tryd.func4, Tryd.ntmps4
  go_wp2_with fail
  go_loopw [3, 4] (fun nv iv wv => ∃ (i : Nat) (n : Int), i ≤ l.length ∧ iv = .int .i64 i ∧ nv = .int .i64 n ∧ Below w.heap.size w wv) (fun _ iv _ => l.length - (intOf iv).toNat)
  case atStart => exact ⟨0, _, Nat.zero_le _, rfl, rfl, Below.refl _ _⟩
  case round =>
    obtain ⟨i, n, hi, rfl, rfl, hb⟩ := hrel
    by_cases hlt : i < l.length
    · have hlt' : (i : Int) < (l.length : Int) := by omega
      by_cases hn : n ≤ 65536
      · rcases ItemsAt.below h1 hb with h0 | ⟨b1, o1, e1, z1, c1⟩
        · rw [h0] at hlt; simp at hlt
        subst e1
        obtain ⟨a1, a2⟩ := c1 i _ (List.getElem?_eq_getElem hlt)
        generalize l[i] = x at *
        obtain ⟨xk, xv⟩ := x
        simp only at a1 a2
        clear c1 h1
        go_upto_region 5 with fail
        go_quiet (fail)
        go_wp2
        exact ⟨⟨i + 1, _, by omega, by go_num, rfl, below_drewN hb _⟩, by simp [intOf]; omega⟩
      · have hnd : decide (n ≤ 65536) = false := by simpa using hn
        go_wp2
        go_ret
        exact ⟨⟨false, rfl, fun h => by cases h⟩, hb⟩
    · have hge : ¬ (i : Int) < (l.length : Int) := by omega
      by_cases hn : n ≤ 65536
      · by_cases hs : l.length ≤ 1024
        · have hs' : (l.length : Int) ≤ 1024 := by omega
          go_wp2
          go_ret
          exact ⟨⟨true, rfl, fun _ => hs⟩, hb⟩
        · have hs' : ¬ (l.length : Int) ≤ 1024 := by omega
          have hsd : decide ((l.length : Int) ≤ 1024) = false := by simpa using hs'
          go_wp2
          go_ret
          exact ⟨⟨false, rfl, fun h => by cases h⟩, hb⟩
      · have hnd : decide (n ≤ 65536) = false := by simpa using hn
        go_wp2
        go_ret
        exact ⟨⟨false, rfl, fun h => by cases h⟩, hb⟩
end Go.Proofs.YtemlbcagkjmjgaaDoor
