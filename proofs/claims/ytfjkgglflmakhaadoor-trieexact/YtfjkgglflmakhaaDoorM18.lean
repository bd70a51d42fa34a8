/- The digest of a tree. -/
import Derived.Test.YtfjkgglflmakhaaDoorTPut4
import Derived.Test.YtfjkgglflmakhaaDoorTBit

namespace Go.Proofs.YtfjkgglflmakhaaDoor
open Go.RowKit
set_option linter.unusedVariables false
set_option linter.unusedSimpArgs false

set_option maxHeartbeats 1600000 in
theorem root_none (wd : Int) (w : World) (hw : okW wd) :
    Calls Tryd.prog 11 #[.agg #[.int .i64 wd, .pointer none]] w fun e w' => e = .returned (.int .u64 (rootP wd none)) ∧ Below w.heap.size w w' := by
  have bA : Below w.heap.size w (w.alloc (.cells #[.int .i64 wd, .pointer none] 27)) := (Below.refl _ _).alloc (Nat.le_refl _) _
  have kT := Blk.new w #[.int .i64 wd, .pointer none] 27
  go_enter Tryd.func11, Tryd.ntmps11
  go_upto_region 2 with fail
  generalize w.alloc (.cells #[.int .i64 wd, .pointer none] 27) = wA at *
  have t0 := kT.cell 0
  simp only [List.getElem?_toArray, List.getElem?_cons_succ, List.getElem?_cons_zero] at t0
  have T0 : ∀ w', Below wA.heap.size wA w' → w'.cell? ⟨w.heap.size, 0, none⟩ = some (.int .i64 wd) := fun w' h => by rw [h.cell (p := ⟨w.heap.size, 0, none⟩) kT.lt]; exact t0
  have bw : Below wA.heap.size wA wA := Below.refl _ _
  go_region_held3 (fun w' => Below wA.heap.size wA w') (repeat (first | exact bw.drew | exact hNext | assumption | refine Below.drew ?_ | exact bw))
    (first
    | (go_at_call 28
       refine (bareI_any _).mono ?_
       rintro e w3 ⟨v, rfl, ⟨a, cap, rfl, hs⟩, b3⟩
       have hNext : Below wA.heap.size wA w3 := Below.trans (by assumption) (b3.mono (Below.size (by assumption))))
    | (go_at_call 27
       refine (ofImg_any wd 5 [] _ _ hw (Nat.zero_le _) ⟨a, cap, rfl, hs⟩).mono ?_
       rintro e w4 ⟨rfl, b4⟩
       have hNext2 : Below wA.heap.size wA w4 := hNext.trans (b4.mono hNext.size)))
  all_goals
    go_wp2
    go_ret
    exact ⟨rfl, bA.trans (hNext2.mono bA.size)⟩

set_option maxHeartbeats 1600000 in
theorem root_some (wd : Int) (b : Nat) (t : Tr) (w : World) (hw : okW wd) (h : NodeAt wd w b t) :
    Calls Tryd.prog 11 #[.agg #[.int .i64 wd, .pointer (some ⟨b, 0, none⟩)]] w fun e w' => e = .returned (.int .u64 (rootP wd (some t))) ∧ Below w.heap.size w w' := by
  have bA : Below w.heap.size w (w.alloc (.cells #[.int .i64 wd, .pointer (some ⟨b, 0, none⟩)] 27)) := (Below.refl _ _).alloc (Nat.le_refl _) _
  have kT := Blk.new w #[.int .i64 wd, .pointer (some ⟨b, 0, none⟩)] 27
  have hA := NodeAt.below bA h
  go_enter Tryd.func11, Tryd.ntmps11
  go_upto_region 3 with fail
  generalize w.alloc (.cells #[.int .i64 wd, .pointer (some ⟨b, 0, none⟩)] 27) = wA at *
  have t0 := kT.cell 0
  have t1 := kT.cell 1
  simp only [List.getElem?_toArray, List.getElem?_cons_succ, List.getElem?_cons_zero] at t0 t1
  have T0 : ∀ w', Below wA.heap.size wA w' → w'.cell? ⟨w.heap.size, 0, none⟩ = some (.int .i64 wd) := fun w' h => by rw [h.cell (p := ⟨w.heap.size, 0, none⟩) kT.lt]; exact t0
  have T1 : ∀ w', Below wA.heap.size wA w' → w'.cell? ⟨w.heap.size, 1, none⟩ = some (.pointer (some ⟨b, 0, none⟩)) := fun w' h => by rw [h.cell (p := ⟨w.heap.size, 1, none⟩) kT.lt]; exact t1
  have D0 : ∀ w', Below wA.heap.size wA w' → w'.cell? ⟨b, 0, none⟩ = some (.int .u64 (t.dig wd)) := fun w' h => (NodeAt.below h hA).dig
  have bw : Below wA.heap.size wA wA := Below.refl _ _
  have hd := t.dig_bd wd
  obtain ⟨d, Hd⟩ : ∃ d, Hid (t.dig wd = d) := ⟨_, rfl⟩
  rw [Hd.out] at hd D0
  have HR : Hid (rootP wd (some t) = ofP wd 5 [str (be d 8)]) := by show _ = _; simp only [rootP]; rw [Hd.out]
  clear hA h t0 t1
  go_region_held3 (fun w' => Below wA.heap.size wA w') (repeat (first | exact bw.drew | exact hNext | assumption | refine Below.drew ?_ | exact bw))
    (first
    | (go_at_call 29
       refine (treeI_any d _ hd).mono ?_
       rintro e w3 ⟨v, rfl, ⟨a, cap, rfl, hs⟩, b3⟩
       have hNext : Below wA.heap.size wA w3 := Below.trans (by assumption) (b3.mono (Below.size (by assumption))))
    | (go_at_call 27
       refine (ofImg_any wd 5 [str (be d 8)] _ _ hw (by unfold maxLen; simp) ⟨a, cap, rfl, hs⟩).mono ?_
       rintro e w4 ⟨rfl, b4⟩
       have hNext2 : Below wA.heap.size wA w4 := hNext.trans (b4.mono hNext.size)))
  all_goals
    go_wp2
    go_ret
    exact ⟨by rw [HR.out]; rfl, bA.trans (hNext2.mono bA.size)⟩

theorem root_any (wd : Int) (q : Option Addr) (o : Option Tr) (w : World) (hw : okW wd) (h : TopAt wd w (.pointer q) o) :
    Calls Tryd.prog 11 #[.agg #[.int .i64 wd, .pointer q]] w fun e w' => e = .returned (.int .u64 (rootP wd o)) ∧ Below w.heap.size w w' := by
  cases o with
  | none =>
    have e : q = none := by have h : Value.pointer q = .pointer none := h; injection h
    subst e
    exact root_none wd w hw
  | some t =>
    obtain ⟨b, e, hn⟩ := h
    have e : q = some ⟨b, 0, none⟩ := by injection e
    subst e
    exact root_some wd b t w hw hn
end Go.Proofs.YtfjkgglflmakhaaDoor

namespace Go.Proofs.YtfjkgglflmakhaaDoor
open Go.RowKit
set_option linter.unusedVariables false
set_option linter.unusedSimpArgs false

/-- A list of items in memory. -/
def ItemsAt (w : World) (la : Option Addr) (l : List (Key × Key)) : Prop :=
  l = [] ∨ ∃ b off, la = some ⟨b, off, none⟩ ∧ b < w.heap.size ∧ ∀ i x, l[i]? = some x → w.cell? ⟨b, off + i * 2, none⟩ = some (.string (str x.1)) ∧ w.cell? ⟨b, off + i * 2 + 1, none⟩ = some (.string (str x.2))
theorem ItemsAt.below {w w' : World} {la : Option Addr} {l : List (Key × Key)} (h : ItemsAt w la l) (hb : Below w.heap.size w w') : ItemsAt w' la l := by
  rcases h with h | ⟨b, off, e, hl, hc⟩
  · exact .inl h
  · refine .inr ⟨b, off, e, Nat.lt_of_lt_of_le hl hb.size, fun i x hx => ?_⟩
    obtain ⟨h1, h2⟩ := hc i x hx
    exact ⟨by rw [hb.cell (p := ⟨b, off + i * 2, none⟩) hl]; exact h1, by rw [hb.cell (p := ⟨b, off + i * 2 + 1, none⟩) hl]; exact h2⟩

set_option maxHeartbeats 1600000 in
theorem sameItems_any (la lb : Option Addr) (ca cb : Nat) (l m : List (Key × Key)) (w : World) (hl : l.length ≤ 1000000) (hm : m.length ≤ 1000000) (h1 : ItemsAt w la l) (h2 : ItemsAt w lb m) :
    Calls Tryd.prog 15 #[.slice la l.length ca, .slice lb m.length cb] w fun e w' => e = .returned (.bool (decide (l = m))) ∧ Below w.heap.size w w' := by
  by_cases hlen : l.length = m.length
  rotate_left
  · have hne : ((l.length : Int) != (m.length : Int)) = true := by simp; omega
    have hd : decide (l = m) = false := by simp; intro e; exact hlen (by rw [e])
    rw [hd]
    go_enter Tryd.func15, Tryd.ntmps15
    go_wp2
    go_ret
    exact ⟨rfl, Below.refl _ _⟩
  · have hne : ((l.length : Int) != (m.length : Int)) = false := by simp; omega
    go_enter Tryd.func15, Tryd.ntmps15
    go_wp2_with fail
    go_loopw [5] (fun iv wv => ∃ i : Nat, i ≤ l.length ∧ iv = .int .i64 i ∧ Hid (l.take i = m.take i) ∧ Below w.heap.size w wv) (fun iv _ => l.length - (intOf iv).toNat)
    case atStart => exact ⟨0, Nat.zero_le _, rfl, rfl, Below.refl _ _⟩
    case round =>
      obtain ⟨i, hi, rfl, HT, hb⟩ := hrel
      by_cases hlt : i < l.length
      · have hlt' : (i : Int) < (l.length : Int) := by omega
        have hlm : i < m.length := by omega
        have hlm' : (i : Int) < (m.length : Int) := by omega
        rcases ItemsAt.below h1 hb with h0 | ⟨b1, o1, e1, z1, c1⟩
        · rw [h0] at hlt; simp at hlt
        rcases ItemsAt.below h2 hb with h0 | ⟨b2, o2, e2, z2, c2⟩
        · rw [h0] at hlm; simp at hlm
        subst e1
        subst e2
        obtain ⟨a1, a2⟩ := c1 i _ (List.getElem?_eq_getElem hlt)
        obtain ⟨d1, d2⟩ := c2 i _ (List.getElem?_eq_getElem hlm)
        have ht1 := List.take_succ_eq_append_getElem hlt
        have ht2 := List.take_succ_eq_append_getElem hlm
        obtain ⟨x, ex⟩ : ∃ x, l[i] = x := ⟨_, rfl⟩
        obtain ⟨y, ey⟩ : ∃ y, m[i] = y := ⟨_, rfl⟩
        rw [ex] at a1 a2 ht1
        rw [ey] at d1 d2 ht2
        have HX : Hid (l[i] = x) := ex
        have HY : Hid (m[i] = y) := ey
        clear c1 c2 ex ey
        obtain ⟨xk, xv⟩ := x
        obtain ⟨yk, yv⟩ := y
        simp only at a1 a2 d1 d2
        have s1 := str_toList xk
        have s2 := str_toList yk
        have s3 := str_toList xv
        have s4 := str_toList yv
        by_cases hxy : xk = yk ∧ xv = yv
        · obtain ⟨rfl, rfl⟩ := hxy
          have HT1 : Hid (l.take (i + 1) = m.take (i + 1)) := by
            show _ = _
            rw [ht1, ht2, HT.out]
          clear ht1 ht2
          go_upto_region 6 with fail
          go_quiet (fail)
          go_wp2
          exact ⟨⟨i + 1, by omega, by go_num, HT1, below_drewN hb _⟩, by simp [intOf]; omega⟩
        · have hd : decide (l = m) = false := by
            simp
            intro e
            apply hxy
            have h3 := HX.out
            have h4 := HY.out
            subst e
            rw [h3] at h4
            injection h4 with h5 h6
            exact ⟨h5, h6⟩
          have Hd : Hid (decide (l = m) = false) := hd
          clear ht1 ht2 hd
          by_cases g1 : xk = yk
          · have g2 : (xv == yv) = false := by simp; exact fun e => hxy ⟨g1, e⟩
            subst g1
            clear hxy HX HY
            go_upto_region 6 with fail
            go_quiet (fail)
            go_wp2
            go_ret
            exact ⟨by rw [Hd.out]; rfl, below_drewN hb _⟩
          · have g2 : (xk == yk) = false := by simpa using g1
            clear hxy HX HY g1
            go_upto_region 6 with fail
            go_quiet (fail)
            go_wp2
            go_ret
            exact ⟨by rw [Hd.out]; rfl, below_drewN hb _⟩
      · have hge : ¬ (i : Int) < (l.length : Int) := by omega
        have Hd : Hid (decide (l = m) = true) := by
          show _ = _
          have := HT.out
          rw [List.take_of_length_le (by omega), List.take_of_length_le (by omega)] at this
          simp [this]
        go_wp2
        go_ret
        exact ⟨by rw [Hd.out]; rfl, hb⟩
end Go.Proofs.YtfjkgglflmakhaaDoor

namespace Go.Proofs.YtfjkgglflmakhaaDoor
open Go.RowKit
set_option linter.unusedVariables false
set_option linter.unusedSimpArgs false

theorem rbit_in (k : Key) (P : Int) (i o : Nat) (w : World) (hk : k.length ≤ maxLen) (h0 : 0 ≤ P) (hP : P ≤ 100000000) (h1 : P / 9 = i) (h2 : P % 9 = o) (ho : ¬ o = 0) (ho9 : o < 9) (hi : i < k.length) :
    Calls Tryd.prog 40 #[.string (str k), .int .i64 P] w fun e w' => e = .returned (.int .i64 ((k[i]'hi).toNat / 2 ^ (8 - o) % 2 : Nat)) ∧ w = w' := by
  have hsz := str_size k
  unfold maxLen at hk
  have hge : ¬ (k.length : Int) ≤ (i : Int) := by omega
  have hoi : ¬ (o : Int) = 0 := by omega
  have hob : ((o : Int) == 0) = false := by simpa using hoi
  have e : ∀ h', ((str k)[i]'h').toNat = k[i].toNat := fun h' => by rw [str_get k i hi h']
  have hx := k[i].toNat_lt
  obtain ⟨X, HX⟩ : ∃ X : Nat, Hid (k[i].toNat = X) := ⟨k[i].toNat, show k[i].toNat = k[i].toNat from rfl⟩
  have e2 : ∀ h', ((str k)[i]'h').toNat = X := fun h' => (e h').trans HX.out
  rw [HX.out] at hx ⊢
  clear e
  go_enter Tryd.func40, Tryd.ntmps40
  go_wp2_with fail
  try simp only [e2]
  go_loopw [7, 8] (fun nv kv wv => ∃ j : Nat, o ≤ j ∧ j ≤ 8 ∧ kv = .int .i64 j ∧ nv = .int .i64 ((X / 2 ^ (j - o) : Nat) : Int) ∧ w = wv) (fun _ kv _ => 8 - (intOf kv).toNat)
  case atStart => exact ⟨o, Nat.le_refl _, by omega, rfl, by rw [Nat.sub_self]; simp, rfl⟩
  case round =>
    obtain ⟨j, hj1, hj2, rfl, rfl, rfl⟩ := hrel
    have hd : X / 2 ^ (j - o) ≤ X := Nat.div_le_self _ _
    by_cases hj8 : j < 8
    · have hj8' : (j : Int) < 8 := by omega
      have HN : Hid (X / 2 ^ (j - o) / 2 = X / 2 ^ (j + 1 - o)) := by
        show _ = _
        rw [Nat.div_div_eq_div_mul, show j + 1 - o = (j - o) + 1 by omega, Nat.pow_succ]
      generalize X / 2 ^ (j - o) = Y at *
      have hq : (Y : Int).tdiv 2 = ((Y / 2 : Nat) : Int) := by rw [Int.tdiv_eq_ediv_of_nonneg (by omega)]; omega
      go_wp2
      exact ⟨⟨j + 1, by omega, by omega, by go_num, by rw [← HN.out]; first | rfl | (simp; omega) | (congr 1; omega), by first | rfl | trivial⟩, by simp [intOf]; omega⟩
    · have hj8' : ¬ (j : Int) < 8 := by omega
      obtain rfl : j = 8 := by omega
      obtain ⟨Y, HY⟩ : ∃ Y : Nat, Hid (X / 2 ^ (8 - o) = Y) := ⟨_, rfl⟩
      rw [HY.out] at hd ⊢
      go_wp2
      go_ret
      refine ⟨ret_i64 ?_, rfl⟩
      have h9 := HY.out
      push_cast
      rw [← h9]
      push_cast
      rfl

theorem rbit_first (k : Key) (P : Int) (i o : Nat) (w : World) (hk : k.length ≤ maxLen) (h0 : 0 ≤ P) (hP : P ≤ 100000000) (h1 : P / 9 = i) (h2 : P % 9 = o) (ho : o = 0) (hi : i < k.length) :
    Calls Tryd.prog 40 #[.string (str k), .int .i64 P] w fun e w' => e = .returned (.int .i64 1) ∧ w = w' := by
  have hsz := str_size k
  unfold maxLen at hk
  have hge : ¬ (k.length : Int) ≤ (i : Int) := by omega
  have hP9 : P % 9 = 0 := by omega
  go_enter Tryd.func40, Tryd.ntmps40
  go_wp2
  go_ret
  exact ⟨rfl, rfl⟩
theorem rbit_off (k : Key) (P : Int) (i : Nat) (w : World) (hk : k.length ≤ maxLen) (h0 : 0 ≤ P) (hP : P ≤ 100000000) (h1 : P / 9 = i) (hi : ¬ i < k.length) :
    Calls Tryd.prog 40 #[.string (str k), .int .i64 P] w fun e w' => e = .returned (.int .i64 0) ∧ w = w' := by
  have hsz := str_size k
  unfold maxLen at hk
  have hge : (k.length : Int) ≤ (i : Int) := by omega
  go_enter Tryd.func40, Tryd.ntmps40
  go_wp2
  go_ret
  exact ⟨rfl, rfl⟩
theorem rbit_any (k : Key) (p : Nat) (w : World) (hk : k.length ≤ maxLen) (hp : p ≤ 100000000) :
    Calls Tryd.prog 40 #[.string (str k), .int .i64 p] w fun e w' => e = .returned (.int .i64 (bitP k p : Nat)) ∧ w = w' := by
  by_cases hi : p / 9 < k.length
  · by_cases ho : p % 9 = 0
    · have e : bitP k p = 1 := by simp [bitP, hi, ho]
      rw [e]
      exact rbit_first k p (p / 9) (p % 9) w hk (by omega) (by omega) (by omega) (by omega) ho hi
    · have e : bitP k p = (k[p / 9]'hi).toNat / 2 ^ (8 - p % 9) % 2 := by simp [bitP, hi, ho]
      rw [e]
      exact rbit_in k p (p / 9) (p % 9) w hk (by omega) (by omega) (by omega) (by omega) ho (by omega) hi
  · have e : bitP k p = 0 := by
      unfold bitP
      rw [List.getElem?_eq_none (by omega)]
    rw [e]
    exact rbit_off k p (p / 9) w hk (by omega) (by omega) (by omega) hi
end Go.Proofs.YtfjkgglflmakhaaDoor
