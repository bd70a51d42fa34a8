/- Seats held against each other. -/
import Derived.Test.YtigbfbniicfpdaaGreatBFits
namespace Go.Proofs.YtigbfbniicfpdaaGreat
open Go.RowKit
set_option linter.unusedVariables false
set_option linter.unusedSimpArgs false

set_option maxHeartbeats 1600000 in
theorem sameSeats_any (la lb : Option Addr) (ca cb : Nat) (l m : List (Int × Int)) (w : World) (hl : l.length ≤ 1000000) (hm : m.length ≤ 1000000) (h1 : SeatsAt w la l) (h2 : SeatsAt w lb m) :
    Calls Tryz.prog 6 #[.slice la l.length ca, .slice lb m.length cb] w fun e w' => e = .returned (.bool (decide (l = m))) ∧ Below w.heap.size w w' := by
  by_cases hlen : l.length = m.length
  rotate_left
  · have hne : ((l.length : Int) != (m.length : Int)) = true := by simp; omega
    have hd : decide (l = m) = false := by simp; intro e; exact hlen (by rw [e])
    rw [hd]
    go_enter Tryz.func6, Tryz.ntmps6
    go_wp2
    go_ret
    exact ⟨rfl, Below.refl _ _⟩
  · have hne : ((l.length : Int) != (m.length : Int)) = false := by simp; omega
    go_enter Tryz.func6, Tryz.ntmps6
    go_wp2_with fail
    go_loopw [5] (fun iv wv => ∃ i : Nat, i ≤ l.length ∧ iv = .int .i64 i ∧ Hid (l.take i = m.take i) ∧ Below w.heap.size w wv) (fun iv _ => l.length - (intOf iv).toNat)
    case atStart => exact ⟨0, Nat.zero_le _, rfl, rfl, Below.refl _ _⟩
    case round =>
      obtain ⟨i, hi, rfl, HT, hb⟩ := hrel
      by_cases hlt : i < l.length
      · have hlt' : (i : Int) < (m.length : Int) := by omega
        have hlm : i < m.length := by omega
        obtain ⟨b1, o1, e1, z1, a1, a2⟩ := (h1.below hb).one hlt
        obtain ⟨b2, o2, e2, z2, d1, d2⟩ := (h2.below hb).one hlm
        subst e1
        subst e2
        have ht1 := List.take_succ_eq_append_getElem hlt
        have ht2 := List.take_succ_eq_append_getElem hlm
        obtain ⟨x, ex⟩ : ∃ x, l[i] = x := ⟨_, rfl⟩
        obtain ⟨y, ey⟩ : ∃ y, m[i] = y := ⟨_, rfl⟩
        rw [ex] at a1 a2 ht1
        rw [ey] at d1 d2 ht2
        have HX : Hid (l[i] = x) := ex
        have HY : Hid (m[i] = y) := ey
        clear ex ey
        obtain ⟨xk, xv⟩ := x
        obtain ⟨yk, yv⟩ := y
        simp only at a1 a2 d1 d2
        by_cases hxy : xk = yk ∧ xv = yv
        · obtain ⟨rfl, rfl⟩ := hxy
          have HT1 : Hid (l.take (i + 1) = m.take (i + 1)) := by
            show _ = _
            rw [ht1, ht2, HT.out]
          clear ht1 ht2
          go_upto_region 6 with fail
          go_quiet (fail)
          go_wp2
          exact ⟨⟨i + 1, by omega, by go_num, HT1, below_drewN hb _⟩, by simp [intOf]; omega⟩
        · have hd : decide (l = m) = false := by
            simp
            intro e
            apply hxy
            have h3 := HX.out
            have h4 := HY.out
            subst e
            rw [h3] at h4
            injection h4 with h5 h6
            exact ⟨h5, h6⟩
          have Hd : Hid (decide (l = m) = false) := hd
          clear ht1 ht2 hd
          by_cases g1 : xk = yk
          · have g2 : (xv == yv) = false := by simp; exact fun e => hxy ⟨g1, e⟩
            subst g1
            clear hxy HX HY
            go_upto_region 6 with fail
            go_quiet (fail)
            go_wp2
            go_ret
            exact ⟨by rw [Hd.out]; rfl, below_drewN hb _⟩
          · have g2 : (xk == yk) = false := by simpa using g1
            clear hxy HX HY g1
            go_upto_region 6 with fail
            go_quiet (fail)
            go_wp2
            go_ret
            exact ⟨by rw [Hd.out]; rfl, below_drewN hb _⟩
      · have hge : ¬ (i : Int) < (m.length : Int) := by omega
        have Hd : Hid (decide (l = m) = true) := by
          show _ = _
          have := HT.out
          rw [List.take_of_length_le (by omega), List.take_of_length_le (by omega)] at this
          simp [this]
        go_wp2
        go_ret
        exact ⟨by rw [Hd.out]; rfl, hb⟩
end Go.Proofs.YtigbfbniicfpdaaGreat
