/- What is a decision: the program's and the answer's. -/
import Derived.Test.YtblnlfcfjbfhiaaGreatM35
import Derived.Test.YtblnlfcfjbfhiaaGreatXTop

namespace Go.Proofs.YtblnlfcfjbfhiaaGreat
open Go.RowKit
set_option linter.unusedVariables false
set_option linter.unusedSimpArgs false

/-- What Check says of those who voted. -/
def chkP (E es ew : Int) (x : List (Int × Int)) (fr : List Int) : Int := if E = 0 then (if fr.all (hasP x) then (if 2 * totP x < 3 * wtP x fr then 0 else ew) else es) else E

theorem all_take {x : List (Int × Int)} {fr : List Int} {i : Nat} (h : i < fr.length) : (fr.take (i + 1)).all (hasP x) = ((fr.take i).all (hasP x) && hasP x fr[i]) := by
  rw [List.take_succ_eq_append_getElem h, List.all_append]
  simp
theorem all_not {x : List (Int × Int)} {fr : List Int} {i : Nat} (h : i < fr.length) (e : hasP x fr[i] = false) : fr.all (hasP x) = false := by
  rw [List.all_eq_false]
  exact ⟨fr[i], List.getElem_mem h, by rw [e]; simp⟩

set_option maxHeartbeats 1600000 in
theorem check_any (xa fa : Option Addr) (xc fc : Nat) (x : List (Int × Int)) (fr : List Int) (h r s : Int) (has : Bool) (bl : Int) (w : World) (S : ByteArray) (E : Int) (hx : x.length ≤ 64) (hw : ∀ z ∈ x, 0 ≤ z.2 ∧ z.2 ≤ 1099511627775) (h1 : SeatsAt w xa x) (hf : fr.length ≤ 4096) (h2 : IntsAt w fa fr)
    (K : ∀ y : World, Below w.heap.size w y → Calls Tryz.prog 48 #[.agg #[.int .i64 h, .int .i64 r, .int .i64 s, .bool has, .int .u64 bl, .slice fa fr.length fc]] y fun e w' => e = .returned (.tuple #[.string S, .int .i64 E]) ∧ Below y.heap.size y w') :
    Calls Tryz.prog 50 #[.slice xa x.length xc, .agg #[.int .i64 h, .int .i64 r, .int .i64 s, .bool has, .int .u64 bl, .slice fa fr.length fc]] w fun e w' => e = .returned (.int .i64 (chkP E 17 18 x fr)) ∧ Below w.heap.size w w' := by
  have bA : Below w.heap.size w (w.alloc (.cells #[.int .i64 h, .int .i64 r, .int .i64 s, .bool has, .int .u64 bl, .slice fa fr.length fc] 32)) := (Below.refl _ _).alloc (Nat.le_refl _) _
  have kG := Blk.new w #[.int .i64 h, .int .i64 r, .int .i64 s, .bool has, .int .u64 bl, .slice fa fr.length fc] 32
  have KA := K _ bA
  go_enter Tryz.func50, Tryz.ntmps50
  go_wp2_with fail
  refine KA.mono ?_
  rintro e w1 ⟨rfl, b1⟩
  have kG1 := kG.below b1 kG.lt
  have B1 := bA.trans (b1.mono bA.size)
  have c5 := (kG1.cell 5).trans rfl
  have zG := kG1.lt
  clear K KA kG b1 bA
  by_cases hE : E = 0
  rotate_left
  · have HF : Hid (chkP E 17 18 x fr = E) := by show _ = _; unfold chkP; rw [if_neg hE]
    have hEd : (E != 0) = true := by simpa using hE
    go_wp2
    go_ret
    exact ⟨by rw [HF.out]; rfl, B1⟩
  subst hE
  go_wp2_with fail
  go_loopw [20] (fun iv wv => ∃ i : Nat, i ≤ fr.length ∧ iv = .int .i64 i ∧ Hid ((fr.take i).all (hasP x) = true) ∧ Below w1.heap.size w1 wv) (fun iv _ => fr.length - (intOf iv).toNat)
  case atStart => exact ⟨0, Nat.zero_le _, rfl, rfl, Below.refl _ _⟩
  case round =>
    obtain ⟨i, hi, rfl, HT, hb⟩ := hrel
    have hB := B1.trans (hb.mono B1.size)
    have c5 := ((kG1.below hb kG1.lt).cell 5).trans rfl
    have zG := (kG1.below hb kG1.lt).lt
    by_cases hlt : i < fr.length
    · have hlt' : (i : Int) < (fr.length : Int) := by omega
      obtain ⟨b1, o1, e1, z1, a1⟩ := (h2.below hB).one hlt
      subst e1
      have ht := all_take (x := x) hlt
      have hn := all_not (x := x) hlt
      rw [HT.out] at ht
      generalize fr[i] = y at *
      go_wp2_with fail
      refine (has_any xa xc x y wr (by unfold maxLen; omega) (h1.below hB)).mono ?_
      rintro e w2 ⟨rfl, b2⟩
      have hq1 := hb.trans (b2.mono hb.size)
      cases hh : hasP x y with
      | true =>
        have HN : Hid ((fr.take (i + 1)).all (hasP x) = true) := by show _ = _; rw [ht, hh]; rfl
        clear ht hn HT hh
        go_wp2
        exact ⟨⟨i + 1, by omega, by go_num, HN, hq1⟩, by simp [intOf]; omega⟩
      | false =>
        have HF : Hid (chkP 0 17 18 x fr = 17) := by show _ = _; unfold chkP; rw [if_pos rfl, hn hh]; rfl
        clear ht hn HT hh
        go_wp2
        go_ret
        exact ⟨by rw [HF.out]; rfl, B1.trans (hq1.mono B1.size)⟩
    · have hge : ¬ (i : Int) < (fr.length : Int) := by omega
      have hall : fr.all (hasP x) = true := by
        have := HT.out
        rwa [List.take_of_length_le (by omega)] at this
      have HF : Hid (chkP 0 17 18 x fr = if 2 * totP x < 3 * wtP x fr then 0 else 18) := by show _ = _; unfold chkP; rw [if_pos rfl, hall]; rfl
      clear HT hall
      go_wp2_with fail
      refine (quorum_any xa fa xc fc x fr wr hx (by unfold maxLen; omega) hw (h1.below hB) (h2.below hB)).mono ?_
      rintro e w2 ⟨rfl, b2⟩
      by_cases hq : 2 * totP x < 3 * wtP x fr
      · have HG : Hid (chkP 0 17 18 x fr = 0) := by show _ = _; rw [HF.out, if_pos hq]
        rw [decide_eq_true hq]
        clear HF hq
        go_wp2
        go_ret
        exact ⟨by rw [HG.out]; rfl, hB.trans (b2.mono hB.size)⟩
      · have HG : Hid (chkP 0 17 18 x fr = 18) := by show _ = _; rw [HF.out, if_neg hq]
        rw [decide_eq_false hq]
        clear HF hq
        go_wp2
        go_ret
        exact ⟨by rw [HG.out]; rfl, hB.trans (b2.mono hB.size)⟩

set_option maxHeartbeats 1600000 in
theorem rcheck_any (xa fa : Option Addr) (xc fc : Nat) (x : List (Int × Int)) (fr : List Int) (h r s : Int) (has : Bool) (bl : Int) (w : World) (S : ByteArray) (E : Int) (hx : x.length ≤ 64) (hw : ∀ z ∈ x, 0 ≤ z.2 ∧ z.2 ≤ 1099511627775) (h1 : SeatsAt w xa x) (hf : fr.length ≤ 4096) (h2 : IntsAt w fa fr)
    (K : ∀ y : World, Below w.heap.size w y → Calls Tryz.prog 29 #[.agg #[.int .i64 h, .int .i64 r, .int .i64 s, .bool has, .int .u64 bl, .slice fa fr.length fc]] y fun e w' => e = .returned (.tuple #[.string S, .int .i64 E]) ∧ Below y.heap.size y w') :
    Calls Tryz.prog 31 #[.slice xa x.length xc, .agg #[.int .i64 h, .int .i64 r, .int .i64 s, .bool has, .int .u64 bl, .slice fa fr.length fc]] w fun e w' => e = .returned (.int .i64 (chkP E 17 18 x fr)) ∧ Below w.heap.size w w' := by
  have bA : Below w.heap.size w (w.alloc (.cells #[.int .i64 h, .int .i64 r, .int .i64 s, .bool has, .int .u64 bl, .slice fa fr.length fc] 32)) := (Below.refl _ _).alloc (Nat.le_refl _) _
  have kG := Blk.new w #[.int .i64 h, .int .i64 r, .int .i64 s, .bool has, .int .u64 bl, .slice fa fr.length fc] 32
  have KA := K _ bA
  go_enter Tryz.func31, Tryz.ntmps31
  go_wp2_with fail
  refine KA.mono ?_
  rintro e w1 ⟨rfl, b1⟩
  have kG1 := kG.below b1 kG.lt
  have B1 := bA.trans (b1.mono bA.size)
  have c5 := (kG1.cell 5).trans rfl
  have zG := kG1.lt
  clear K KA kG b1 bA
  by_cases hE : E = 0
  rotate_left
  · have HF : Hid (chkP E 17 18 x fr = E) := by show _ = _; unfold chkP; rw [if_neg hE]
    have hEd : (E != 0) = true := by simpa using hE
    go_wp2
    go_ret
    exact ⟨by rw [HF.out]; rfl, B1⟩
  subst hE
  go_wp2_with fail
  go_loopw [7] (fun iv wv => ∃ i : Nat, i ≤ fr.length ∧ iv = .int .i64 i ∧ Hid ((fr.take i).all (hasP x) = true) ∧ Below w1.heap.size w1 wv) (fun iv _ => fr.length - (intOf iv).toNat)
  case atStart => exact ⟨0, Nat.zero_le _, rfl, rfl, Below.refl _ _⟩
  case round =>
    obtain ⟨i, hi, rfl, HT, hb⟩ := hrel
    have hB := B1.trans (hb.mono B1.size)
    have c5 := ((kG1.below hb kG1.lt).cell 5).trans rfl
    have zG := (kG1.below hb kG1.lt).lt
    by_cases hlt : i < fr.length
    · have hlt' : (i : Int) < (fr.length : Int) := by omega
      obtain ⟨b1, o1, e1, z1, a1⟩ := (h2.below hB).one hlt
      subst e1
      have ht := all_take (x := x) hlt
      have hn := all_not (x := x) hlt
      rw [HT.out] at ht
      generalize fr[i] = y at *
      go_wp2_with fail
      refine (rhas_any xa xc x y wr (by unfold maxLen; omega) (h1.below hB)).mono ?_
      rintro e w2 ⟨rfl, rfl⟩
      have hq1 := hb
      cases hh : hasP x y with
      | true =>
        have HN : Hid ((fr.take (i + 1)).all (hasP x) = true) := by show _ = _; rw [ht, hh]; rfl
        clear ht hn HT hh
        go_wp2
        exact ⟨⟨i + 1, by omega, by go_num, HN, hq1⟩, by simp [intOf]; omega⟩
      | false =>
        have HF : Hid (chkP 0 17 18 x fr = 17) := by show _ = _; unfold chkP; rw [if_pos rfl, hn hh]; rfl
        clear ht hn HT hh
        go_wp2
        go_ret
        exact ⟨by rw [HF.out]; rfl, B1.trans (hq1.mono B1.size)⟩
    · have hge : ¬ (i : Int) < (fr.length : Int) := by omega
      have hall : fr.all (hasP x) = true := by
        have := HT.out
        rwa [List.take_of_length_le (by omega)] at this
      have HF : Hid (chkP 0 17 18 x fr = if 2 * totP x < 3 * wtP x fr then 0 else 18) := by show _ = _; unfold chkP; rw [if_pos rfl, hall]; rfl
      clear HT hall
      go_wp2_with fail
      refine (rquorum_any xa fa xc fc x fr wr hx (by unfold maxLen; omega) hw (h1.below hB) (h2.below hB)).mono ?_
      rintro e w2 ⟨rfl, b2⟩
      by_cases hq : 2 * totP x < 3 * wtP x fr
      · have HG : Hid (chkP 0 17 18 x fr = 0) := by show _ = _; rw [HF.out, if_pos hq]
        rw [decide_eq_true hq]
        clear HF hq
        go_wp2
        go_ret
        exact ⟨by rw [HG.out]; rfl, hB.trans (b2.mono hB.size)⟩
      · have HG : Hid (chkP 0 17 18 x fr = 18) := by show _ = _; rw [HF.out, if_neg hq]
        rw [decide_eq_false hq]
        clear HF hq
        go_wp2
        go_ret
        exact ⟨by rw [HG.out]; rfl, hB.trans (b2.mono hB.size)⟩
end Go.Proofs.YtblnlfcfjbfhiaaGreat

namespace Go.Proofs.YtblnlfcfjbfhiaaGreat
open Go.RowKit
set_option linter.unusedVariables false
set_option linter.unusedSimpArgs false

/-- A list of seats in memory, and its slice. -/
structure SL (w : World) (la : Option Addr) (l : List (Int × Int)) (cap : Nat) : Prop where
  at_ : SeatsAt w la l
  le : l.length ≤ cap
  cm : cap ≤ maxLen
theorem SL.below {w w' : World} {la : Option Addr} {l : List (Int × Int)} {cap : Nat} (h : SL w la l cap) (hb : Below w.heap.size w w') : SL w' la l cap := ⟨h.at_.below hb, h.le, h.cm⟩
theorem SeatsAt.setCell {w : World} {la : Option Addr} {l : List (Int × Int)} (h : SeatsAt w la l) {a : Addr} (hne : ∀ x, la = some x → a.block ≠ x.block) (v : Value) : SeatsAt (w.setCell a v) la l := by
  rcases h with h | ⟨b, off, e, hl, hc⟩
  · exact .inl h
  · have hn : a.block ≠ b := hne _ e
    have hz : (w.setCell a v).heap.size = w.heap.size := by simp [World.setCell]
    refine .inr ⟨b, off, e, by rw [hz]; exact hl, fun i x hx => ?_⟩
    obtain ⟨h1, h2⟩ := hc i x hx
    exact ⟨by rw [World.cell?_setCell_other _ _ _ _ (fun e => hn (by rw [e]))]; exact h1, by rw [World.cell?_setCell_other _ _ _ _ (fun e => hn (by rw [e]))]; exact h2⟩
theorem SL.setCell {w : World} {la : Option Addr} {l : List (Int × Int)} {cap : Nat} (h : SL w la l cap) {a : Addr} (hne : ∀ x, la = some x → a.block ≠ x.block) (v : Value) : SL (w.setCell a v) la l cap := ⟨h.at_.setCell hne v, h.le, h.cm⟩

/-- The same seats, in new memory. -/
def Cloned (l : List (Int × Int)) (w : World) (e : Ending) (w' : World) : Prop := ∃ lb cb, e = .returned (.slice lb l.length cb) ∧ SL w' lb l cb ∧ Below w.heap.size w w' ∧ (∀ a, lb = some a → w.heap.size ≤ a.block)
theorem eq_nil (c : Nat) (w : World) : (binOp .eql 24 (.slice none 0 c) (.slice none 0 0)).run Tryz.prog w = .ok (.bool true) w := by kernel_rfl
theorem ne_nil (a : Addr) (n c : Nat) (w : World) : (binOp .eql 24 (.slice (some a) n c) (.slice none 0 0)).run Tryz.prog w = .ok (.bool false) w := by kernel_rfl
set_option maxRecDepth 4000 in
theorem SL.of_owns {w : World} {base : Nat} {sv : Value} {m : List (Int × Int)} (h : w.ownsRow base 52 2 sv m.length (flatS m)) : ∃ la cap, sv = .slice la m.length cap ∧ SL w la m cap ∧ (∀ a, la = some a → base ≤ a.block) := by
  obtain ⟨la, cap, rfl, hs⟩ := SeatsAt.of_owns h
  rcases h.2 with ⟨e, h0⟩ | ⟨g, c2, cur, e, hb, hg, hle, hcm, _⟩
  · injection e with e1 e2 e3
    subst e1
    subst e3
    exact ⟨none, 0, rfl, ⟨hs, by omega, by unfold maxLen; omega⟩, (fun a h => by cases h)⟩
  · injection e with e1 e2 e3
    subst e1
    subst e3
    exact ⟨_, cap, rfl, ⟨hs, hle, hcm⟩, (fun a h => by injection h with h; subst h; exact hb)⟩
theorem clone_any (la : Option Addr) (ca : Nat) (l : List (Int × Int)) (w : World) (hl : l.length ≤ 4096) (h1 : SL w la l ca) :
    Calls Tryz.prog 18 #[.slice la l.length ca] w fun e w' => Cloned l w e w' := by
  have z1 := eq_nil
  have z2 := ne_nil
  cases la with
  | none =>
    have hz : l = [] := by
      rcases h1.at_ with e | ⟨b, off, e, _⟩
      · exact e
      · cases e
    subst hz
    clear h1
    go_enter Tryz.func18, Tryz.ntmps18
    go_wp2
    go_ret
    exact ⟨none, 0, rfl, ⟨.inl rfl, Nat.le_refl _, Nat.zero_le _⟩, Below.refl _ _, (fun a h => by cases h)⟩
  | some a =>
    have bA : Below w.heap.size w (w.alloc (.cells #[] 52)) := (Below.refl _ _).alloc (Nat.le_refl _) _
    obtain ⟨v, w', hr, ho, hg⟩ := app_seats (w.alloc (.cells #[] 52)) w.heap.size _ [] (World.ownsRow_made w #[] 0 (Nat.le_refl _) (Nat.zero_le _) rfl) (some a) ca l (h1.at_.below bA) (by simp) (by omega) bA.size l.length rfl
    simp only [List.nil_append] at ho
    have bw : Below w.heap.size w w' := bA.grown hg bA.size (fun k e => by simp [Value.ownBlock] at e; omega)
    obtain ⟨lb, cb, rfl, hs, hf⟩ := SL.of_owns ho
    clear h1
    go_enter Tryz.func18, Tryz.ntmps18
    go_wp2_with (at_builtin; refine wpList_append_run rfl _ _ 24 rfl _ _ _ w' rfl rfl hr ?_)
    go_ret
    exact ⟨lb, cb, rfl, hs, bw, hf⟩

set_option maxHeartbeats 1600000 in
theorem sameSeats_any (la lb : Option Addr) (ca cb : Nat) (l m : List (Int × Int)) (w : World) (hl : l.length ≤ 1000000) (hm : m.length ≤ 1000000) (h1 : SeatsAt w la l) (h2 : SeatsAt w lb m) :
    Calls Tryz.prog 19 #[.slice la l.length ca, .slice lb m.length cb] w fun e w' => e = .returned (.bool (decide (l = m))) ∧ Below w.heap.size w w' := by
  by_cases hlen : l.length = m.length
  rotate_left
  · have hne : ((l.length : Int) != (m.length : Int)) = true := by simp; omega
    have hd : decide (l = m) = false := by simp; intro e; exact hlen (by rw [e])
    rw [hd]
    go_enter Tryz.func19, Tryz.ntmps19
    go_wp2
    go_ret
    exact ⟨rfl, Below.refl _ _⟩
  · have hne : ((l.length : Int) != (m.length : Int)) = false := by simp; omega
    go_enter Tryz.func19, Tryz.ntmps19
    go_wp2_with fail
    go_loopw [5] (fun iv wv => ∃ i : Nat, i ≤ l.length ∧ iv = .int .i64 i ∧ Hid (l.take i = m.take i) ∧ Below w.heap.size w wv) (fun iv _ => l.length - (intOf iv).toNat)
    case atStart => exact ⟨0, Nat.zero_le _, rfl, rfl, Below.refl _ _⟩
    case round =>
      obtain ⟨i, hi, rfl, HT, hb⟩ := hrel
      by_cases hlt : i < l.length
      · have hlt' : (i : Int) < (m.length : Int) := by omega
        have hlm : i < m.length := by omega
        obtain ⟨b1, o1, e1, z1, a1, a2⟩ := (h1.below hb).one hlt
        obtain ⟨b2, o2, e2, z2, d1, d2⟩ := (h2.below hb).one hlm
        subst e1
        subst e2
        have ht1 := List.take_succ_eq_append_getElem hlt
        have ht2 := List.take_succ_eq_append_getElem hlm
        obtain ⟨x, ex⟩ : ∃ x, l[i] = x := ⟨_, rfl⟩
        obtain ⟨y, ey⟩ : ∃ y, m[i] = y := ⟨_, rfl⟩
        rw [ex] at a1 a2 ht1
        rw [ey] at d1 d2 ht2
        have HX : Hid (l[i] = x) := ex
        have HY : Hid (m[i] = y) := ey
        clear ex ey
        obtain ⟨xk, xv⟩ := x
        obtain ⟨yk, yv⟩ := y
        simp only at a1 a2 d1 d2
        by_cases hxy : xk = yk ∧ xv = yv
        · obtain ⟨rfl, rfl⟩ := hxy
          have HT1 : Hid (l.take (i + 1) = m.take (i + 1)) := by
            show _ = _
            rw [ht1, ht2, HT.out]
          clear ht1 ht2
          go_upto_region 6 with fail
          go_quiet (fail)
          go_wp2
          exact ⟨⟨i + 1, by omega, by go_num, HT1, below_drewN hb _⟩, by simp [intOf]; omega⟩
        · have hd : decide (l = m) = false := by
            simp
            intro e
            apply hxy
            have h3 := HX.out
            have h4 := HY.out
            subst e
            rw [h3] at h4
            injection h4 with h5 h6
            exact ⟨h5, h6⟩
          have Hd : Hid (decide (l = m) = false) := hd
          clear ht1 ht2 hd
          by_cases g1 : xk = yk
          · have g2 : (xv == yv) = false := by simp; exact fun e => hxy ⟨g1, e⟩
            subst g1
            clear hxy HX HY
            go_upto_region 6 with fail
            go_quiet (fail)
            go_wp2
            go_ret
            exact ⟨by rw [Hd.out]; rfl, below_drewN hb _⟩
          · have g2 : (xk == yk) = false := by simpa using g1
            clear hxy HX HY g1
            go_upto_region 6 with fail
            go_quiet (fail)
            go_wp2
            go_ret
            exact ⟨by rw [Hd.out]; rfl, below_drewN hb _⟩
      · have hge : ¬ (i : Int) < (m.length : Int) := by omega
        have Hd : Hid (decide (l = m) = true) := by
          show _ = _
          have := HT.out
          rw [List.take_of_length_le (by omega), List.take_of_length_le (by omega)] at this
          simp [this]
        go_wp2
        go_ret
        exact ⟨by rw [Hd.out]; rfl, hb⟩
end Go.Proofs.YtblnlfcfjbfhiaaGreat
