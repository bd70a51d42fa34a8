/- Whether two images are alike: the program's way and the answer's. -/
import Derived.Test.YtabimdlooddcoaaDigClashP
namespace Go.Proofs.Ytabimdlooddcoaa
open Go.RowKit
set_option linter.unusedVariables false

theorem Strs.at {w : World} {a : Option Addr} {ss : List ByteArray} (h : Strs w a ss) (k : Nat) (hk : k < ss.length) : ∃ b off, a = some ⟨b, off, none⟩ ∧ b < w.heap.size ∧ w.cell? ⟨b, off + k, none⟩ = some (.string ss[k]) := by
  rcases h.2 with h0 | ⟨b, off, rfl, hlt, hc⟩
  · subst h0; simp at hk
  · exact ⟨b, off, rfl, hlt, hc k hk⟩

theorem bytes_eq {x y : ByteArray} (h : x.toList = y.toList) : x = y := by
  have e : x.data.toList = y.data.toList := by rw [← ByteArray.toList_eq, ← ByteArray.toList_eq]; exact h
  exact WideShapes.bytes_inj e

theorem lists_eq (l m : List ByteArray) (h : l.length = m.length) (hh : ∀ j (h1 : j < l.length) (h2 : j < m.length), l[j] = m[j]) : l = m := List.ext_getElem h hh

set_option maxHeartbeats 800000 in
theorem equal_any (a1 a2 : Option Addr) (c1 c2 : Nat) (l m : List ByteArray) (w : World) (h1 : Strs w a1 l) (h2 : Strs w a2 m) (hl : l.length ≤ 4611686018427387904) (hm : m.length ≤ 4611686018427387904) :
    Calls Try.prog 48 #[.slice a1 l.length c1, .slice a2 m.length c2] w fun e w' => e = .returned (.bool (decide (l = m))) ∧ Below w.heap.size w w' := by
  by_cases hlen : l.length = m.length
  · have hlen' : ((l.length : Int) != (m.length : Int)) = false := by simp [hlen]
    have HLen := show Hid (_ = _) from hlen
    have hle1 : l.length ≤ m.length := by omega
    have hle2 : m.length ≤ l.length := by omega
    clear hlen
    go_enter Try.func48, Try.ntmps48
    go_wp2
    go_loopw [5, 13] (fun _ iv wv => ∃ k : Nat, k ≤ l.length ∧ iv = .int .i64 k ∧ Hid (∀ j (q1 : j < l.length) (q2 : j < m.length), j < k → l[j] = m[j]) ∧ Below w.heap.size w wv) (fun _ iv _ => l.length - (intOf iv).toNat)
    case atStart => exact ⟨0, Nat.zero_le _, rfl, fun j _ _ h => by omega, Below.refl _ _⟩
    case round =>
      obtain ⟨k, hk, rfl, HA, hb⟩ := hrel
      by_cases hlt : k < l.length
      · have hlt' : (k : Int) < (l.length : Int) := by omega
        have hlt2 : (k : Int) < (m.length : Int) := by omega
        have hkm : k < m.length := by omega
        obtain ⟨b1, o1, rfl, hl1, e1⟩ := (h1.below hb).at k hlt
        obtain ⟨b2, o2, rfl, hl2, e2⟩ := (h2.below hb).at k hkm
        have HE : Hid (l[k] = m[k] → ∀ j (q1 : j < l.length) (q2 : j < m.length), j < k + 1 → l[j] = m[j]) := fun he j q1 q2 hj => by
          by_cases h : j < k
          · exact HA.out j q1 q2 h
          · obtain rfl : j = k := by omega
            exact he
        have HN : Hid (l[k] ≠ m[k] → decide (l = m) = false) := fun hne => by
          simp only [decide_eq_false_iff_not]
          intro e; subst e; exact hne rfl
        generalize hx : l[k] = x at *
        generalize hy : m[k] = y at *
        clear hx hy
        by_cases hxy : x = y
        · subst hxy
          go_wp2_with fail
          go_quiet (fail)
          have hq := below_drewN hb nq
          go_wp2
          exact ⟨⟨k+1, hlt, by go_num, HE.out trivial, hq⟩, by simp [intOf]; omega⟩
        · have t1 : (!x.toList == y.toList) = true := by
            simp only [Bool.not_eq_true', beq_eq_false_iff_ne, ne_eq]
            exact fun e => hxy (bytes_eq e)
          go_wp2_with fail
          go_quiet (fail)
          have hq := below_drewN hb nq
          go_wp2
          go_ret
          exact ⟨by rw [HN.out hxy]; rfl, hq⟩
      · have hlt' : ¬ (k : Int) < (l.length : Int) := by omega
        have HD : Hid (decide (l = m) = true) := by
          simp only [decide_eq_true_eq]
          exact lists_eq l m HLen.out (fun j q1 q2 => HA.out j q1 q2 (by omega))
        go_wp2
        go_ret
        exact ⟨by rw [HD.out]; rfl, by assumption⟩
  · have hlen' : ((l.length : Int) != (m.length : Int)) = true := by simp; omega
    have HD : Hid (decide (l = m) = false) := by
      simp only [decide_eq_false_iff_not]
      intro e; subst e; exact hlen rfl
    clear hlen
    go_enter Try.func48, Try.ntmps48
    go_wp2
    go_ret
    exact ⟨by rw [HD.out]; rfl, Below.refl _ _⟩

theorem below_two (w : World) (o p : Obj) : Below w.heap.size w ((w.alloc o).alloc p) := ((Below.refl _ _).alloc (Nat.le_refl _) o).alloc (by simp) p

/-- Are two images alike? -/
def alikeP (i j : Int × List ByteArray) : Bool := decide (i = j)

theorem alikeP_eq (t u : Int) (l m : List ByteArray) : alikeP (t, l) (u, m) = (decide (t = u) && decide (l = m)) := by
  unfold alikeP
  by_cases h1 : t = u <;> by_cases h2 : l = m <;> simp [h1, h2]

set_option maxHeartbeats 800000 in
theorem alike_any (t u : Int) (a1 a2 : Option Addr) (c1 c2 : Nat) (l m : List ByteArray) (w : World) (h1 : Strs w a1 l) (h2 : Strs w a2 m) (hl : l.length ≤ 4611686018427387904) (hm : m.length ≤ 4611686018427387904) :
    Calls Try.prog 40 #[.agg #[.int .i64 t, .slice a1 l.length c1], .agg #[.int .i64 u, .slice a2 m.length c2]] w fun e w' => e = .returned (.bool (alikeP (t, l) (u, m))) ∧ Below w.heap.size w w' := by
  rw [alikeP_eq]
  by_cases h : t = u
  · have h' : (t == u) = true := by simp [h]
    have hd : decide (t = u) = true := by simp [h]
    rw [hd, Bool.true_and]
    clear hd h
    have bA := below_two w (.cells #[.int .i64 t, .slice a1 l.length c1] 30) (.cells #[.int .i64 u, .slice a2 m.length c2] 30)
    go_enter Try.func40, Try.ntmps40
    go_wp2_with fail
    refine (equal_any a1 a2 c1 c2 l m _ (h1.below bA) (h2.below bA) hl hm).mono ?_
    rintro e w1 ⟨rfl, b1⟩
    go_wp2
    go_ret
    exact ⟨rfl, bA.trans (b1.mono bA.size)⟩
  · have h' : (t == u) = false := by simp [h]
    have hd : decide (t = u) = false := by simp [h]
    rw [hd, Bool.false_and]
    clear hd h
    go_enter Try.func40, Try.ntmps40
    go_wp2_with fail
    go_ret
    exact ⟨rfl, below_two w _ _⟩

set_option maxHeartbeats 1600000 in
theorem same_any (t u : Int) (a1 a2 : Option Addr) (c1 c2 : Nat) (l m : List ByteArray) (w : World) (h1 : Strs w a1 l) (h2 : Strs w a2 m) (hl : l.length ≤ 4611686018427387904) (hm : m.length ≤ 4611686018427387904) :
    Calls Try.prog 21 #[.agg #[.int .i64 t, .slice a1 l.length c1], .agg #[.int .i64 u, .slice a2 m.length c2]] w fun e w' => e = .returned (.bool (alikeP (t, l) (u, m))) ∧ Below w.heap.size w w' := by
  rw [alikeP_eq]
  by_cases h : t = u
  · have h' : (t != u) = false := by simp [h]
    have hd : decide (t = u) = true := by simp [h]
    rw [hd, Bool.true_and]
    clear hd h
    have bA := below_two w (.cells #[.int .i64 t, .slice a1 l.length c1] 30) (.cells #[.int .i64 u, .slice a2 m.length c2] 30)
    by_cases hlen : l.length = m.length
    · have hlen' : ((l.length : Int) != (m.length : Int)) = false := by simp [hlen]
      have HLen := show Hid (_ = _) from hlen
      have hle1 : l.length ≤ m.length := by omega
      have hle2 : m.length ≤ l.length := by omega
      clear hlen
      have h1' := h1.below bA
      have h2' := h2.below bA
      have q1 : ((w.alloc (.cells #[.int .i64 t, .slice a1 l.length c1] 30)).alloc (.cells #[.int .i64 u, .slice a2 m.length c2] 30)).cell? ⟨w.heap.size, 1, none⟩ = some (.slice a1 l.length c1) := by simp [go_sem]
      have q2 : ((w.alloc (.cells #[.int .i64 t, .slice a1 l.length c1] 30)).alloc (.cells #[.int .i64 u, .slice a2 m.length c2] 30)).cell? ⟨w.heap.size + 1, 1, none⟩ = some (.slice a2 m.length c2) := by simp [go_sem]
      have qs : w.heap.size + 1 < ((w.alloc (.cells #[.int .i64 t, .slice a1 l.length c1] 30)).alloc (.cells #[.int .i64 u, .slice a2 m.length c2] 30)).heap.size := by simp
      go_enter Try.func21, Try.ntmps21
      go_wp2_with fail
      generalize ((w.alloc (.cells #[.int .i64 t, .slice a1 l.length c1] 30)).alloc (.cells #[.int .i64 u, .slice a2 m.length c2] 30)) = wl at *
      go_loopw [5] (fun iv wv => ∃ k : Nat, k ≤ l.length ∧ iv = .int .i64 k ∧ Hid (∀ j (q1 : j < l.length) (q2 : j < m.length), j < k → l[j] = m[j]) ∧ Below wl.heap.size wl wv) (fun iv _ => l.length - (intOf iv).toNat)
      case atStart => exact ⟨0, Nat.zero_le _, rfl, fun j _ _ h => by omega, Below.refl _ _⟩
      case round =>
        obtain ⟨k, hk, rfl, HA, hb⟩ := hrel
        have p1 : wr.cell? ⟨w.heap.size, 1, none⟩ = some (.slice a1 l.length c1) := by rw [hb.cell (by show w.heap.size < _; omega)]; exact q1
        have p2 : wr.cell? ⟨w.heap.size + 1, 1, none⟩ = some (.slice a2 m.length c2) := by rw [hb.cell (by show w.heap.size + 1 < _; omega)]; exact q2
        by_cases hlt : k < l.length
        · have hlt' : (k : Int) < (l.length : Int) := by omega
          have hlt2 : (k : Int) < (m.length : Int) := by omega
          have hkm : k < m.length := by omega
          obtain ⟨b1, o1, rfl, hl1, e1⟩ := (h1'.below hb).at k hlt
          obtain ⟨b2, o2, rfl, hl2, e2⟩ := (h2'.below hb).at k hkm
          have HE : Hid (l[k] = m[k] → ∀ j (q1 : j < l.length) (q2 : j < m.length), j < k + 1 → l[j] = m[j]) := fun he j q1 q2 hj => by
            by_cases h : j < k
            · exact HA.out j q1 q2 h
            · obtain rfl : j = k := by omega
              exact he
          have HN : Hid (l[k] ≠ m[k] → decide (l = m) = false) := fun hne => by
            simp only [decide_eq_false_iff_not]
            intro e; subst e; exact hne rfl
          generalize hx : l[k] = x at *
          generalize hy : m[k] = y at *
          clear hx hy
          by_cases hxy : x = y
          · subst hxy
            go_wp2_with fail
            go_quiet (fail)
            have hq := below_drewN hb nq
            go_wp2
            exact ⟨⟨k+1, hlt, by go_num, HE.out trivial, hq⟩, by simp [intOf]; omega⟩
          · have t1 : (!x.toList == y.toList) = true := by
              simp only [Bool.not_eq_true', beq_eq_false_iff_ne, ne_eq]
              exact fun e => hxy (bytes_eq e)
            go_wp2_with fail
            go_quiet (fail)
            have hq := below_drewN hb nq
            go_wp2
            go_ret
            exact ⟨by rw [HN.out hxy]; rfl, bA.trans (hq.mono bA.size)⟩
        · have hlt' : ¬ (k : Int) < (l.length : Int) := by omega
          have HD : Hid (decide (l = m) = true) := by
            simp only [decide_eq_true_eq]
            exact lists_eq l m HLen.out (fun j q1 q2 => HA.out j q1 q2 (by omega))
          go_wp2
          go_ret
          exact ⟨by rw [HD.out]; rfl, bA.trans (hb.mono bA.size)⟩
    · have hlen' : ((l.length : Int) != (m.length : Int)) = true := by simp; omega
      have HD : Hid (decide (l = m) = false) := by
        simp only [decide_eq_false_iff_not]
        intro e; subst e; exact hlen rfl
      clear hlen
      go_enter Try.func21, Try.ntmps21
      go_wp2
      go_ret
      exact ⟨by rw [HD.out]; rfl, bA⟩
  · have h' : (t != u) = true := by simp [h]
    have hd : decide (t = u) = false := by simp [h]
    rw [hd, Bool.false_and]
    clear hd h
    go_enter Try.func21, Try.ntmps21
    go_wp2
    go_ret
    exact ⟨rfl, below_two w _ _⟩
end Go.Proofs.Ytabimdlooddcoaa
