/- Lists of items in memory; whether two are the same. -/
import Derived.Test.YtncaimopkcnmbaaTRoot
namespace Go.Proofs.Ytncaimopkcnmbaa
open Go.RowKit
set_option linter.unusedVariables false
set_option linter.unusedSimpArgs false

/-- A list of items in memory. -/
def ItemsAt (w : World) (la : Option Addr) (l : List (Key × Key)) : Prop :=
  l = [] ∨ ∃ b off, la = some ⟨b, off, none⟩ ∧ b < w.heap.size ∧ ∀ i x, l[i]? = some x → w.cell? ⟨b, off + i * 2, none⟩ = some (.string (str x.1)) ∧ w.cell? ⟨b, off + i * 2 + 1, none⟩ = some (.string (str x.2))
theorem ItemsAt.below {w w' : World} {la : Option Addr} {l : List (Key × Key)} (h : ItemsAt w la l) (hb : Below w.heap.size w w') : ItemsAt w' la l := by
  rcases h with h | ⟨b, off, e, hl, hc⟩
  · exact .inl h
  · refine .inr ⟨b, off, e, Nat.lt_of_lt_of_le hl hb.size, fun i x hx => ?_⟩
    obtain ⟨h1, h2⟩ := hc i x hx
    exact ⟨by rw [hb.cell (p := ⟨b, off + i * 2, none⟩) hl]; exact h1, by rw [hb.cell (p := ⟨b, off + i * 2 + 1, none⟩) hl]; exact h2⟩

set_option maxHeartbeats 1600000 in
theorem sameItems_any (la lb : Option Addr) (ca cb : Nat) (l m : List (Key × Key)) (w : World) (hl : l.length ≤ 1000000) (hm : m.length ≤ 1000000) (h1 : ItemsAt w la l) (h2 : ItemsAt w lb m) :
    Calls Try.prog 12 #[.slice la l.length ca, .slice lb m.length cb] w fun e w' => e = .returned (.bool (decide (l = m))) ∧ Below w.heap.size w w' := by
  by_cases hlen : l.length = m.length
  rotate_left
  · have hne : ((l.length : Int) != (m.length : Int)) = true := by simp; omega
    have hd : decide (l = m) = false := by simp; intro e; exact hlen (by rw [e])
    rw [hd]
    go_enter Try.func12, Try.ntmps12
    go_wp2
    go_ret
    exact ⟨rfl, Below.refl _ _⟩
  · have hne : ((l.length : Int) != (m.length : Int)) = false := by simp; omega
    go_enter Try.func12, Try.ntmps12
    go_wp2_with fail
    go_loopw [5] (fun iv wv => ∃ i : Nat, i ≤ l.length ∧ iv = .int .i64 i ∧ Hid (l.take i = m.take i) ∧ Below w.heap.size w wv) (fun iv _ => l.length - (intOf iv).toNat)
    case atStart => exact ⟨0, Nat.zero_le _, rfl, rfl, Below.refl _ _⟩
    case round =>
      obtain ⟨i, hi, rfl, HT, hb⟩ := hrel
      by_cases hlt : i < l.length
      · have hlt' : (i : Int) < (l.length : Int) := by omega
        have hlm : i < m.length := by omega
        have hlm' : (i : Int) < (m.length : Int) := by omega
        rcases ItemsAt.below h1 hb with h0 | ⟨b1, o1, e1, z1, c1⟩
        · rw [h0] at hlt; simp at hlt
        rcases ItemsAt.below h2 hb with h0 | ⟨b2, o2, e2, z2, c2⟩
        · rw [h0] at hlm; simp at hlm
        subst e1
        subst e2
        obtain ⟨a1, a2⟩ := c1 i _ (List.getElem?_eq_getElem hlt)
        obtain ⟨d1, d2⟩ := c2 i _ (List.getElem?_eq_getElem hlm)
        have ht1 := List.take_succ_eq_append_getElem hlt
        have ht2 := List.take_succ_eq_append_getElem hlm
        obtain ⟨x, ex⟩ : ∃ x, l[i] = x := ⟨_, rfl⟩
        obtain ⟨y, ey⟩ : ∃ y, m[i] = y := ⟨_, rfl⟩
        rw [ex] at a1 a2 ht1
        rw [ey] at d1 d2 ht2
        have HX : Hid (l[i] = x) := ex
        have HY : Hid (m[i] = y) := ey
        clear c1 c2 ex ey
        obtain ⟨xk, xv⟩ := x
        obtain ⟨yk, yv⟩ := y
        simp only at a1 a2 d1 d2
        have s1 := str_toList xk
        have s2 := str_toList yk
        have s3 := str_toList xv
        have s4 := str_toList yv
        by_cases hxy : xk = yk ∧ xv = yv
        · obtain ⟨rfl, rfl⟩ := hxy
          have HT1 : Hid (l.take (i + 1) = m.take (i + 1)) := by
            show _ = _
            rw [ht1, ht2, HT.out]
          clear ht1 ht2
          go_upto_region 6 with fail
          go_quiet (fail)
          go_wp2
          exact ⟨⟨i + 1, by omega, by go_num, HT1, below_drewN hb _⟩, by simp [intOf]; omega⟩
        · have hd : decide (l = m) = false := by
            simp
            intro e
            apply hxy
            have h3 := HX.out
            have h4 := HY.out
            subst e
            rw [h3] at h4
            injection h4 with h5 h6
            exact ⟨h5, h6⟩
          have Hd : Hid (decide (l = m) = false) := hd
          clear ht1 ht2 hd
          by_cases g1 : xk = yk
          · have g2 : (xv == yv) = false := by simp; exact fun e => hxy ⟨g1, e⟩
            subst g1
            clear hxy HX HY
            go_upto_region 6 with fail
            go_quiet (fail)
            go_wp2
            go_ret
            exact ⟨by rw [Hd.out]; rfl, below_drewN hb _⟩
          · have g2 : (xk == yk) = false := by simpa using g1
            clear hxy HX HY g1
            go_upto_region 6 with fail
            go_quiet (fail)
            go_wp2
            go_ret
            exact ⟨by rw [Hd.out]; rfl, below_drewN hb _⟩
      · have hge : ¬ (i : Int) < (l.length : Int) := by omega
        have Hd : Hid (decide (l = m) = true) := by
          show _ = _
          have := HT.out
          rw [List.take_of_length_le (by omega), List.take_of_length_le (by omega)] at this
          simp [this]
        go_wp2
        go_ret
        exact ⟨by rw [Hd.out]; rfl, hb⟩
end Go.Proofs.Ytncaimopkcnmbaa
