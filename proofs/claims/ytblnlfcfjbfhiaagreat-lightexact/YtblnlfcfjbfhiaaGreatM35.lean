/- Names of headers, digests of benches, epochs. -/
import Derived.Test.YtblnlfcfjbfhiaaGreatM04
import Derived.Test.YtblnlfcfjbfhiaaGreatDigOf
import Derived.Test.YtblnlfcfjbfhiaaGreatXTop
import Derived.Test.YtblnlfcfjbfhiaaGreatM34

namespace Go.Proofs.YtblnlfcfjbfhiaaGreat
open Go.RowKit
set_option linter.unusedVariables false
set_option linter.unusedSimpArgs false

theorem strs_of_blk {w : World} {b : Nat} {s : ByteArray} (h : Blk w b #[.string s] 9) (hs : s.size ≤ maxLen) : Strs w (some ⟨b, 0, none⟩) [s] := by
  refine ⟨by simpa using hs, .inr ⟨b, 0, rfl, h.lt, fun i hi => ?_⟩⟩
  obtain rfl : i = 0 := by simp at hi; omega
  exact (h.cell 0).trans rfl

theorem name_any (wd : Int) (x : Array Value) (w : World) (S : ByteArray) (E : Int) (hw : -9223372036854775808 ≤ wd ∧ wd ≤ 9223372036854775807) (hS : S.size ≤ maxLen) (c h pa tx gu st re be_ pr : Int) (hx : x = #[.int .i64 c, .int .i64 h, .int .u64 pa, .int .u64 tx, .int .u64 gu, .int .u64 st, .int .u64 re, .int .u64 be_, .int .i64 pr])
    (K : ∀ y : World, Calls Tryz.prog 20 #[.agg x] y fun e w' => e = .returned (.tuple #[.string S, .int .i64 E]) ∧ Below y.heap.size y w') :
    Calls Tryz.prog 10 #[.int .i64 wd, .agg x] w fun e w' => e = .returned (.int .u64 (ofP wd 6 [S])) ∧ Below w.heap.size w w' := by
  subst hx
  have bA : Below w.heap.size w (w.alloc (.cells #[.int .i64 c, .int .i64 h, .int .u64 pa, .int .u64 tx, .int .u64 gu, .int .u64 st, .int .u64 re, .int .u64 be_, .int .i64 pr] 29)) := (Below.refl _ _).alloc (Nat.le_refl _) _
  go_enter Tryz.func10, Tryz.ntmps10
  go_wp2_with fail
  refine (K _).mono ?_
  rintro e w1 ⟨rfl, b1⟩
  have B1 := bA.trans (b1.mono bA.size)
  have bS : Below w1.heap.size w1 (w1.alloc (.cells #[.string S] 9)) := (Below.refl _ _).alloc (Nat.le_refl _) _
  go_wp2_with fail
  refine (of_any wd 6 _ 1 1 [S] _ hw rfl (by decide) (strs_of_blk (Blk.new _ _ _) hS)).mono ?_
  rintro e w2 ⟨rfl, b2⟩
  have B2 := B1.trans ((bS.trans (b2.mono bS.size)).mono B1.size)
  go_wp2
  go_ret
  exact ⟨rfl, B2⟩
theorem rname_any (wd : Int) (x : Array Value) (w : World) (S : ByteArray) (E : Int) (hw : -9223372036854775808 ≤ wd ∧ wd ≤ 9223372036854775807) (hS : S.size ≤ maxLen) (c h pa tx gu st re be_ pr : Int) (hx : x = #[.int .i64 c, .int .i64 h, .int .u64 pa, .int .u64 tx, .int .u64 gu, .int .u64 st, .int .u64 re, .int .u64 be_, .int .i64 pr])
    (K : ∀ y : World, Calls Tryz.prog 22 #[.agg x] y fun e w' => e = .returned (.tuple #[.string S, .int .i64 E]) ∧ Below y.heap.size y w') :
    Calls Tryz.prog 11 #[.int .i64 wd, .agg x] w fun e w' => e = .returned (.int .u64 (ofP wd 6 [S])) ∧ Below w.heap.size w w' := by
  subst hx
  have bA : Below w.heap.size w (w.alloc (.cells #[.int .i64 c, .int .i64 h, .int .u64 pa, .int .u64 tx, .int .u64 gu, .int .u64 st, .int .u64 re, .int .u64 be_, .int .i64 pr] 29)) := (Below.refl _ _).alloc (Nat.le_refl _) _
  go_enter Tryz.func11, Tryz.ntmps11
  go_wp2_with fail
  refine (K _).mono ?_
  rintro e w1 ⟨rfl, b1⟩
  have B1 := bA.trans (b1.mono bA.size)
  have bS : Below w1.heap.size w1 (w1.alloc (.cells #[.string S] 9)) := (Below.refl _ _).alloc (Nat.le_refl _) _
  go_wp2_with fail
  refine (rof_any wd 6 _ 1 1 [S] _ hw rfl (by decide) (strs_of_blk (Blk.new _ _ _) hS)).mono ?_
  rintro e w2 ⟨rfl, b2⟩
  have B2 := B1.trans ((bS.trans (b2.mono bS.size)).mono B1.size)
  go_wp2
  go_ret
  exact ⟨rfl, B2⟩

theorem bdig_any (wd : Int) (la : Option Addr) (n cap : Nat) (w : World) (S : ByteArray) (E : Int) (hw : -9223372036854775808 ≤ wd ∧ wd ≤ 9223372036854775807) (hS : S.size ≤ maxLen)
    (K : Calls Tryz.prog 49 #[.slice la n cap] w fun e w' => e = .returned (.tuple #[.string S, .int .i64 E]) ∧ Below w.heap.size w w') :
    Calls Tryz.prog 51 #[.int .i64 wd, .slice la n cap] w fun e w' => e = .returned (.int .u64 (ofP wd 7 [S])) ∧ Below w.heap.size w w' := by
  go_enter Tryz.func51, Tryz.ntmps51
  go_wp2_with fail
  refine K.mono ?_
  rintro e w1 ⟨rfl, b1⟩
  have B1 := b1
  have bS : Below w1.heap.size w1 (w1.alloc (.cells #[.string S] 9)) := (Below.refl _ _).alloc (Nat.le_refl _) _
  go_wp2_with fail
  refine (of_any wd 7 _ 1 1 [S] _ hw rfl (by decide) (strs_of_blk (Blk.new _ _ _) hS)).mono ?_
  rintro e w2 ⟨rfl, b2⟩
  have B2 := B1.trans ((bS.trans (b2.mono bS.size)).mono B1.size)
  go_wp2
  go_ret
  exact ⟨rfl, B2⟩

theorem rbdig_any (wd : Int) (la : Option Addr) (n cap : Nat) (w : World) (S : ByteArray) (E : Int) (hw : -9223372036854775808 ≤ wd ∧ wd ≤ 9223372036854775807) (hS : S.size ≤ maxLen)
    (K : Calls Tryz.prog 30 #[.slice la n cap] w fun e w' => e = .returned (.tuple #[.string S, .int .i64 E]) ∧ Below w.heap.size w w') :
    Calls Tryz.prog 16 #[.int .i64 wd, .slice la n cap] w fun e w' => e = .returned (.int .u64 (ofP wd 7 [S])) ∧ Below w.heap.size w w' := by
  go_enter Tryz.func16, Tryz.ntmps16
  go_wp2_with fail
  refine K.mono ?_
  rintro e w1 ⟨rfl, b1⟩
  have B1 := b1
  have bS : Below w1.heap.size w1 (w1.alloc (.cells #[.string S] 9)) := (Below.refl _ _).alloc (Nat.le_refl _) _
  go_wp2_with fail
  refine (rof_any wd 7 _ 1 1 [S] _ hw rfl (by decide) (strs_of_blk (Blk.new _ _ _) hS)).mono ?_
  rintro e w2 ⟨rfl, b2⟩
  have B2 := B1.trans ((bS.trans (b2.mono bS.size)).mono B1.size)
  go_wp2
  go_ret
  exact ⟨rfl, B2⟩

/-- The epoch of a height. -/
def epochP (h e : Int) : Int := if h < 1 ∨ e < 1 then 0 else (h - 1) / e
theorem epoch_any (h ep : Int) (w : World) (bh : -9223372036854775808 ≤ h ∧ h ≤ 9223372036854775807) (be_ : -9223372036854775808 ≤ ep ∧ ep ≤ 9223372036854775807) :
    Calls Tryz.prog 14 #[.int .i64 h, .int .i64 ep] w fun e w' => e = .returned (.int .i64 (epochP h ep)) ∧ w = w' := by
  go_enter Tryz.func14, Tryz.ntmps14
  by_cases h1 : h < 1
  · have e1 : epochP h ep = 0 := by unfold epochP; rw [if_pos (.inl h1)]
    rw [e1]
    go_wp2
    go_ret
    exact ⟨rfl, rfl⟩
  · have h1d : decide (h < 1) = false := by simpa using h1
    by_cases h2 : ep < 1
    · have e1 : epochP h ep = 0 := by unfold epochP; rw [if_pos (.inr h2)]
      rw [e1]
      go_wp2
      go_ret
      exact ⟨rfl, rfl⟩
    · have h2d : decide (ep < 1) = false := by simpa using h2
      have e1 : epochP h ep = (h - 1) / ep := by unfold epochP; rw [if_neg (by omega)]
      have e2 : (h - 1).tdiv ep = (h - 1) / ep := Int.tdiv_eq_ediv_of_nonneg (by omega)
      have e3 : 0 ≤ (h - 1) / ep := Int.ediv_nonneg (by omega) (by omega)
      have e4 : (h - 1) / ep ≤ h - 1 := Int.ediv_le_self _ (by omega)
      have HE : Hid (epochP h ep = (h - 1) / ep) := e1
      clear e1
      go_wp2
      go_ret
      exact ⟨by rw [HE.out]; first | rfl | (simp; omega), rfl⟩

theorem repoch_any (h ep : Int) (w : World) (bh : 1 ≤ h ∧ h ≤ 9223372036854775807) (be_ : 1 ≤ ep ∧ ep ≤ 9223372036854775807) :
    Calls Tryz.prog 15 #[.int .i64 h, .int .i64 ep] w fun e w' => e = .returned (.int .i64 (epochP h ep)) ∧ w = w' := by
  have e1 : epochP h ep = (h - 1) / ep := by unfold epochP; rw [if_neg (by omega)]
  have e2 : (h - 1).tdiv ep = (h - 1) / ep := Int.tdiv_eq_ediv_of_nonneg (by omega)
  have e3 : 0 ≤ (h - 1) / ep := Int.ediv_nonneg (by omega) (by omega)
  have e4 : (h - 1) / ep ≤ h - 1 := Int.ediv_le_self _ (by omega)
  have HE : Hid (epochP h ep = (h - 1) / ep) := e1
  clear e1
  go_enter Tryz.func15, Tryz.ntmps15
  go_wp2
  go_ret
  exact ⟨by rw [HE.out]; first | rfl | (simp; omega), rfl⟩
end Go.Proofs.YtblnlfcfjbfhiaaGreat

namespace Go.Proofs.YtblnlfcfjbfhiaaGreat
open Go.RowKit
set_option linter.unusedVariables false
set_option linter.unusedSimpArgs false

/-- Somebody has a seat. -/
def hasP (l : List (Int × Int)) (v : Int) : Bool := l.any fun x => decide (x.1 = v)
theorem hasP_take {l : List (Int × Int)} {v : Int} {i : Nat} (h : i < l.length) : hasP (l.take (i + 1)) v = (hasP (l.take i) v || decide (l[i].1 = v)) := by
  unfold hasP
  rw [List.take_succ_eq_append_getElem h, List.any_append]
  simp
theorem hasP_at {l : List (Int × Int)} {v : Int} {i : Nat} (h : i < l.length) (e : l[i].1 = v) : hasP l v = true := by
  unfold hasP
  rw [List.any_eq_true]
  exact ⟨l[i], List.getElem_mem h, by simpa using e⟩

theorem rhas_any (la : Option Addr) (ca : Nat) (l : List (Int × Int)) (v : Int) (w : World) (hl : l.length ≤ maxLen) (h1 : SeatsAt w la l) :
    Calls Tryz.prog 55 #[.slice la l.length ca, .int .i64 v] w fun e w' => e = .returned (.bool (hasP l v)) ∧ w = w' := by
  unfold maxLen at hl
  go_enter Tryz.func55, Tryz.ntmps55
  go_wp2_with fail
  go_loopw [5] (fun iv wv => ∃ i : Nat, i ≤ l.length ∧ iv = .int .i64 i ∧ Hid (hasP (l.take i) v = false) ∧ w = wv) (fun iv _ => l.length - (intOf iv).toNat)
  case atStart => exact ⟨0, Nat.zero_le _, rfl, rfl, rfl⟩
  case round =>
    obtain ⟨i, hi, rfl, HT, rfl⟩ := hrel
    by_cases hlt : i < l.length
    · have hlt' : (i : Int) < (l.length : Int) := by omega
      obtain ⟨b1, o1, e1, z1, a1, a2⟩ := h1.one hlt
      subst e1
      have ht := hasP_take (v := v) hlt
      have hp := hasP_at (v := v) hlt
      rw [HT.out] at ht
      generalize l[i] = x at *
      obtain ⟨xk, xv⟩ := x
      simp only at a1 a2 ht hp
      by_cases hxy : xk = v
      · have HR : Hid (hasP l v = true) := hp hxy
        subst hxy
        clear ht HT hp
        go_wp2
        go_ret
        exact ⟨by rw [HR.out]; rfl, rfl⟩
      · have HN : Hid (hasP (l.take (i + 1)) v = false) := by show _ = _; rw [ht]; simp [hxy]
        have hxd : (xk == v) = false := by simpa using hxy
        clear ht HT hp
        go_wp2
        exact ⟨⟨i + 1, by omega, by go_num, HN, trivial⟩, by simp [intOf]; omega⟩
    · have hge : ¬ (i : Int) < (l.length : Int) := by omega
      have HN : Hid (hasP l v = false) := by
        have := HT.out
        rwa [List.take_of_length_le (by omega)] at this
      go_wp2
      go_ret
      exact ⟨by rw [HN.out]; rfl, rfl⟩

theorem rin_any (la : Option Addr) (ca : Nat) (l : List Int) (v : Int) (w : World) (hl : l.length ≤ maxLen) (h1 : IntsAt w la l) :
    Calls Tryz.prog 103 #[.int .i64 v, .slice la l.length ca] w fun e w' => e = .returned (.bool (decide (v ∈ l))) ∧ w = w' := by
  unfold maxLen at hl
  go_enter Tryz.func103, Tryz.ntmps103
  go_wp2_with fail
  go_loopw [5] (fun iv wv => ∃ i : Nat, i ≤ l.length ∧ iv = .int .i64 i ∧ Hid (v ∉ l.take i) ∧ w = wv) (fun iv _ => l.length - (intOf iv).toNat)
  case atStart => exact ⟨0, Nat.zero_le _, rfl, by show _ ∉ _; simp, rfl⟩
  case round =>
    obtain ⟨i, hi, rfl, HT, rfl⟩ := hrel
    by_cases hlt : i < l.length
    · have hlt' : (i : Int) < (l.length : Int) := by omega
      obtain ⟨b1, o1, e1, z1, a1⟩ := h1.one hlt
      subst e1
      have HX : Hid (l[i] ∈ l) := List.getElem_mem hlt
      have ht1 := List.take_succ_eq_append_getElem hlt
      generalize l[i] = x at *
      by_cases hxy : x = v
      · subst hxy
        have HR : Hid (decide (x ∈ l) = true) := decide_eq_true HX.out
        clear ht1 HX HT
        go_wp2
        go_ret
        exact ⟨by rw [HR.out]; rfl, rfl⟩
      · have HN : Hid (v ∉ l.take (i + 1)) := by
          show _ ∉ _
          rw [ht1]
          simp only [List.mem_append, List.mem_singleton, not_or]
          exact ⟨HT.out, fun e => hxy e.symm⟩
        have hxd : (x == v) = false := by simpa using hxy
        clear ht1 HX HT
        go_wp2
        exact ⟨⟨i + 1, by omega, by go_num, HN, trivial⟩, by simp [intOf]; omega⟩
    · have hge : ¬ (i : Int) < (l.length : Int) := by omega
      have HN : Hid (decide (v ∈ l) = false) := by
        have := HT.out
        rw [List.take_of_length_le (by omega)] at this
        exact decide_eq_false this
      go_wp2
      go_ret
      exact ⟨by rw [HN.out]; rfl, rfl⟩

theorem has1_any (v : Int) (w : World) (b : Nat) (x y : Int) (k1 : Blk w b #[.int .i64 v] 3) :
    Calls Tryz.prog 100 #[.agg #[.int .i64 x, .int .i64 y], .pointer (some ⟨b, 0, none⟩)] w fun e w' => e = .returned (.bool (decide (x = v))) ∧ Below w.heap.size w w' := by
  have bA : Below w.heap.size w (w.alloc (.cells #[.int .i64 x, .int .i64 y] 52)) := (Below.refl _ _).alloc (Nat.le_refl _) _
  have k2 := k1.below bA k1.lt
  have c0 := (k2.cell 0).trans rfl
  have z0 := k2.lt
  have z1 := k1.lt
  by_cases hx : x = v
  · subst hx
    go_enter Tryz.func100, Tryz.ntmps100
    go_wp2
    go_ret
    exact ⟨by simp, bA⟩
  · have hd : (x == v) = false := by simpa using hx
    go_enter Tryz.func100, Tryz.ntmps100
    go_wp2
    go_ret
    exact ⟨by simp [hx], bA⟩

theorem idxfunc_any (la : Option Addr) (ca b : Nat) (l : List (Int × Int)) (v : Int) (w : World) (hl : l.length ≤ maxLen) (h1 : SeatsAt w la l) (k1 : Blk w b #[.int .i64 v] 3) :
    Calls Tryz.prog 110 #[.slice la l.length ca, .func (.func 100) #[] #[.pointer (some ⟨b, 0, none⟩)]] w fun e w' => (∃ n : Int, e = .returned (.int .i64 n) ∧ (0 ≤ n ↔ hasP l v = true)) ∧ Below w.heap.size w w' := by
  unfold maxLen at hl
  go_enter Tryz.func110, Tryz.ntmps110
  go_wp2_with fail
  go_loopw [8] (fun iv wv => ∃ i : Nat, i ≤ l.length ∧ iv = .int .i64 i ∧ Hid (hasP (l.take i) v = false) ∧ Below w.heap.size w wv) (fun iv _ => l.length - (intOf iv).toNat)
  case atStart => exact ⟨0, Nat.zero_le _, rfl, rfl, Below.refl _ _⟩
  case round =>
    obtain ⟨i, hi, rfl, HT, hb⟩ := hrel
    by_cases hlt : i < l.length
    · have hlt' : (i : Int) < (l.length : Int) := by omega
      obtain ⟨b1, o1, e1, z1, a1, a2⟩ := (h1.below hb).one hlt
      subst e1
      have ht := hasP_take (v := v) hlt
      have hp := hasP_at (v := v) hlt
      rw [HT.out] at ht
      generalize l[i] = x at *
      obtain ⟨xk, xv⟩ := x
      simp only at a1 a2 ht hp
      go_wp2_with fail
      refine (has1_any v wr b xk xv (k1.below hb k1.lt)).mono ?_
      rintro e w1 ⟨rfl, b1'⟩
      have hB1 := hb.trans (b1'.mono hb.size)
      by_cases hxy : xk = v
      · have HR : Hid (hasP l v = true) := hp hxy
        rw [decide_eq_true hxy]
        clear ht HT hp
        go_wp2
        go_ret
        exact ⟨⟨_, rfl, ⟨fun _ => HR.out, fun _ => by omega⟩⟩, hB1⟩
      · have HN : Hid (hasP (l.take (i + 1)) v = false) := by show _ = _; rw [ht]; simp [hxy]
        rw [decide_eq_false hxy]
        clear ht HT hp
        go_wp2
        exact ⟨⟨i + 1, by omega, by go_num, HN, hB1⟩, by simp [intOf]; omega⟩
    · have hge : ¬ (i : Int) < (l.length : Int) := by omega
      have HN : Hid (hasP l v = false) := by
        have := HT.out
        rwa [List.take_of_length_le (by omega)] at this
      go_wp2
      go_ret
      exact ⟨⟨_, rfl, ⟨fun h => by omega, fun h => by rw [HN.out] at h; cases h⟩⟩, hb⟩

theorem contfunc_any (la : Option Addr) (ca b : Nat) (l : List (Int × Int)) (v : Int) (w : World) (hl : l.length ≤ maxLen) (h1 : SeatsAt w la l) (k1 : Blk w b #[.int .i64 v] 3) :
    Calls Tryz.prog 99 #[.slice la l.length ca, .func (.func 100) #[] #[.pointer (some ⟨b, 0, none⟩)]] w fun e w' => e = .returned (.bool (hasP l v)) ∧ Below w.heap.size w w' := by
  go_enter Tryz.func99, Tryz.ntmps99
  go_wp2_with fail
  refine (idxfunc_any la ca b l v w hl h1 k1).mono ?_
  rintro e w1 ⟨⟨n, rfl, hn⟩, b1⟩
  have HE : Hid (decide (0 ≤ n) = hasP l v) := by
    show _ = _
    by_cases h : hasP l v = true
    · rw [h]; exact decide_eq_true (hn.2 h)
    · rw [Bool.not_eq_true] at h
      rw [h]
      exact decide_eq_false fun h2 => by rw [hn.1 h2] at h; cases h
  clear hn
  go_wp2
  go_ret
  exact ⟨by rw [← HE.out]; rfl, b1⟩

theorem has_any (la : Option Addr) (ca : Nat) (l : List (Int × Int)) (v : Int) (w : World) (hl : l.length ≤ maxLen) (h1 : SeatsAt w la l) :
    Calls Tryz.prog 75 #[.slice la l.length ca, .int .i64 v] w fun e w' => e = .returned (.bool (hasP l v)) ∧ Below w.heap.size w w' := by
  have bA : Below w.heap.size w (w.alloc (.cells #[.int .i64 v] 3)) := (Below.refl _ _).alloc (Nat.le_refl _) _
  go_enter Tryz.func75, Tryz.ntmps75
  go_wp2_with fail
  refine (contfunc_any la ca w.heap.size l v _ hl (h1.below bA) (Blk.new _ _ _)).mono ?_
  rintro e w1 ⟨rfl, b1⟩
  go_wp2
  go_ret
  exact ⟨rfl, bA.trans (b1.mono bA.size)⟩

theorem rweight_any (la na : Option Addr) (ca cn : Nat) (l : List (Int × Int)) (named : List Int) (w : World) (hl : l.length ≤ 64) (hn : named.length ≤ maxLen) (hw : ∀ x ∈ l, 0 ≤ x.2 ∧ x.2 ≤ 1099511627775) (h1 : SeatsAt w la l) (h2 : IntsAt w na named) :
    Calls Tryz.prog 80 #[.slice la l.length ca, .slice na named.length cn] w fun e w' => e = .returned (.int .i64 (wtP l named)) ∧ Below w.heap.size w w' := by
  go_enter Tryz.func80, Tryz.ntmps80
  go_wp2_with fail
  go_loopw [5, 6] (fun nv iv wv => ∃ (i : Nat) (n : Int), i ≤ l.length ∧ iv = .int .i64 i ∧ nv = .int .i64 n ∧ Hid (n = wtP (l.take i) named) ∧ Below w.heap.size w wv) (fun _ iv _ => l.length - (intOf iv).toNat)
  case atStart => exact ⟨0, _, Nat.zero_le _, rfl, rfl, rfl, Below.refl _ _⟩
  case round =>
    obtain ⟨i, n, hi, rfl, rfl, HT, hb⟩ := hrel
    obtain ⟨p1, p2⟩ := totP_bound (w0_take hw i)
    obtain ⟨p4, p5⟩ := wtP_bound named (w0_take hw i)
    have p3 : (l.take i).length ≤ 64 := by rw [List.length_take]; omega
    rw [← HT.out] at p4 p5
    have p6 : n ≤ 1099511627775 * 64 := by omega
    clear p1 p2 p3 p5
    by_cases hlt : i < l.length
    · have hlt' : (i : Int) < (l.length : Int) := by omega
      obtain ⟨b1, o1, e1, z1, a1, a2⟩ := (h1.below hb).one hlt
      subst e1
      have ht := wtP_take (named := named) hlt
      have hx := hw _ (List.getElem_mem hlt)
      rw [← HT.out] at ht
      generalize l[i] = x at *
      obtain ⟨xk, xv⟩ := x
      simp only at a1 a2 hx ht
      have hn2 := h2.below hb
      have K := rin_any na cn named xk _ hn hn2
      by_cases hin : xk ∈ named
      · rw [if_pos hin] at ht
        have HN : Hid (n + xv = wtP (l.take (i + 1)) named) := ht.symm
        have hd : decide (xk ∈ named) = true := by simpa using hin
        rw [hd] at K
        clear ht HT hin hd
        go_wp2_with fail
        refine K.mono ?_
        rintro e w1 ⟨rfl, rfl⟩
        go_wp2
        exact ⟨⟨i + 1, _, by omega, by go_num, by go_num, HN, hb⟩, by simp [intOf]; omega⟩
      · rw [if_neg hin] at ht
        have HN : Hid (n = wtP (l.take (i + 1)) named) := by show _ = _; omega
        have hd : decide (xk ∈ named) = false := by simpa using hin
        rw [hd] at K
        clear ht HT hin hd
        go_wp2_with fail
        refine K.mono ?_
        rintro e w1 ⟨rfl, rfl⟩
        go_wp2
        exact ⟨⟨i + 1, _, by omega, by go_num, by go_num, HN, hb⟩, by simp [intOf]; omega⟩
    · have hge : ¬ (i : Int) < (l.length : Int) := by omega
      have HN : Hid (n = wtP l named) := by
        have := HT.out
        rwa [List.take_of_length_le (by omega)] at this
      go_wp2
      go_ret
      exact ⟨by rw [HN.out]; rfl, hb⟩

theorem rquorum_any (la na : Option Addr) (ca cn : Nat) (l : List (Int × Int)) (named : List Int) (w : World) (hl : l.length ≤ 64) (hn : named.length ≤ maxLen) (hw : ∀ x ∈ l, 0 ≤ x.2 ∧ x.2 ≤ 1099511627775) (h1 : SeatsAt w la l) (h2 : IntsAt w na named) :
    Calls Tryz.prog 56 #[.slice la l.length ca, .slice na named.length cn] w fun e w' => e = .returned (.bool (decide (2 * totP l < 3 * wtP l named))) ∧ Below w.heap.size w w' := by
  obtain ⟨p1, p2⟩ := totP_bound hw
  obtain ⟨p4, p5⟩ := wtP_bound named hw
  have p3 : totP l ≤ 1099511627775 * 64 := by omega
  go_enter Tryz.func56, Tryz.ntmps56
  go_wp2_with fail
  refine (rweight_any la na ca cn l named w hl hn hw h1 h2).mono ?_
  rintro e w1 ⟨rfl, b1⟩
  go_wp2_with fail
  refine (rtotal_any la ca l w1 hl hw (h1.below b1)).mono ?_
  rintro e w2 ⟨rfl, b2⟩
  go_wp2
  go_ret
  exact ⟨rfl, b1.trans (b2.mono b1.size)⟩

end Go.Proofs.YtblnlfcfjbfhiaaGreat
