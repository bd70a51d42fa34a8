/- What is a decision: the program's and the answer's. -/
import Derived.Test.YtomkiglagpfnoaaVHas
import Derived.Test.YtomkiglagpfnoaaXTop
namespace Go.Proofs.Ytomkiglagpfnoaa
open Go.RowKit
set_option linter.unusedVariables false
set_option linter.unusedSimpArgs false

/-- What Check says of those who voted. -/
def chkP (E es ew : Int) (x : List (Int × Int)) (fr : List Int) : Int := if E = 0 then (if fr.all (hasP x) then (if 2 * totP x < 3 * wtP x fr then 0 else ew) else es) else E

theorem all_take {x : List (Int × Int)} {fr : List Int} {i : Nat} (h : i < fr.length) : (fr.take (i + 1)).all (hasP x) = ((fr.take i).all (hasP x) && hasP x fr[i]) := by
  rw [List.take_succ_eq_append_getElem h, List.all_append]
  simp
theorem all_not {x : List (Int × Int)} {fr : List Int} {i : Nat} (h : i < fr.length) (e : hasP x fr[i] = false) : fr.all (hasP x) = false := by
  rw [List.all_eq_false]
  exact ⟨fr[i], List.getElem_mem h, by rw [e]; simp⟩

set_option maxHeartbeats 1600000 in
theorem check_any (xa fa : Option Addr) (xc fc : Nat) (x : List (Int × Int)) (fr : List Int) (h r s : Int) (has : Bool) (bl : Int) (w : World) (S : ByteArray) (E : Int) (hx : x.length ≤ 64) (hw : ∀ z ∈ x, 0 ≤ z.2 ∧ z.2 ≤ 1099511627775) (h1 : SeatsAt w xa x) (hf : fr.length ≤ 4096) (h2 : IntsAt w fa fr)
    (K : ∀ y : World, Below w.heap.size w y → Calls Try.prog 14 #[.agg #[.int .i64 h, .int .i64 r, .int .i64 s, .bool has, .int .u64 bl, .slice fa fr.length fc]] y fun e w' => e = .returned (.tuple #[.string S, .int .i64 E]) ∧ Below y.heap.size y w') :
    Calls Try.prog 7 #[.slice xa x.length xc, .agg #[.int .i64 h, .int .i64 r, .int .i64 s, .bool has, .int .u64 bl, .slice fa fr.length fc]] w fun e w' => e = .returned (.int .i64 (chkP E 17 18 x fr)) ∧ Below w.heap.size w w' := by
  have bA : Below w.heap.size w (w.alloc (.cells #[.int .i64 h, .int .i64 r, .int .i64 s, .bool has, .int .u64 bl, .slice fa fr.length fc] 27)) := (Below.refl _ _).alloc (Nat.le_refl _) _
  have kG := Blk.new w #[.int .i64 h, .int .i64 r, .int .i64 s, .bool has, .int .u64 bl, .slice fa fr.length fc] 27
  have KA := K _ bA
  go_enter Try.func7, Try.ntmps7
  go_wp2_with fail
  refine KA.mono ?_
  rintro e w1 ⟨rfl, b1⟩
  have kG1 := kG.below b1 kG.lt
  have B1 := bA.trans (b1.mono bA.size)
  have c5 := (kG1.cell 5).trans rfl
  have zG := kG1.lt
  clear K KA kG b1 bA
  by_cases hE : E = 0
  rotate_left
  · have HF : Hid (chkP E 17 18 x fr = E) := by show _ = _; unfold chkP; rw [if_neg hE]
    have hEd : (E != 0) = true := by simpa using hE
    go_wp2
    go_ret
    exact ⟨by rw [HF.out]; rfl, B1⟩
  subst hE
  go_wp2_with fail
  go_loopw [20] (fun iv wv => ∃ i : Nat, i ≤ fr.length ∧ iv = .int .i64 i ∧ Hid ((fr.take i).all (hasP x) = true) ∧ Below w1.heap.size w1 wv) (fun iv _ => fr.length - (intOf iv).toNat)
  case atStart => exact ⟨0, Nat.zero_le _, rfl, rfl, Below.refl _ _⟩
  case round =>
    obtain ⟨i, hi, rfl, HT, hb⟩ := hrel
    have hB := B1.trans (hb.mono B1.size)
    have c5 := ((kG1.below hb kG1.lt).cell 5).trans rfl
    have zG := (kG1.below hb kG1.lt).lt
    by_cases hlt : i < fr.length
    · have hlt' : (i : Int) < (fr.length : Int) := by omega
      obtain ⟨b1, o1, e1, z1, a1⟩ := (h2.below hB).one hlt
      subst e1
      have ht := all_take (x := x) hlt
      have hn := all_not (x := x) hlt
      rw [HT.out] at ht
      generalize fr[i] = y at *
      go_wp2_with fail
      refine (has_any xa xc x y wr (by unfold maxLen; omega) (h1.below hB)).mono ?_
      rintro e w2 ⟨rfl, b2⟩
      have hq1 := hb.trans (b2.mono hb.size)
      cases hh : hasP x y with
      | true =>
        have HN : Hid ((fr.take (i + 1)).all (hasP x) = true) := by show _ = _; rw [ht, hh]; rfl
        clear ht hn HT hh
        go_wp2
        exact ⟨⟨i + 1, by omega, by go_num, HN, hq1⟩, by simp [intOf]; omega⟩
      | false =>
        have HF : Hid (chkP 0 17 18 x fr = 17) := by show _ = _; unfold chkP; rw [if_pos rfl, hn hh]; rfl
        clear ht hn HT hh
        go_wp2
        go_ret
        exact ⟨by rw [HF.out]; rfl, B1.trans (hq1.mono B1.size)⟩
    · have hge : ¬ (i : Int) < (fr.length : Int) := by omega
      have hall : fr.all (hasP x) = true := by
        have := HT.out
        rwa [List.take_of_length_le (by omega)] at this
      have HF : Hid (chkP 0 17 18 x fr = if 2 * totP x < 3 * wtP x fr then 0 else 18) := by show _ = _; unfold chkP; rw [if_pos rfl, hall]; rfl
      clear HT hall
      go_wp2_with fail
      refine (quorum_any xa fa xc fc x fr wr hx (by unfold maxLen; omega) hw (h1.below hB) (h2.below hB)).mono ?_
      rintro e w2 ⟨rfl, b2⟩
      by_cases hq : 2 * totP x < 3 * wtP x fr
      · have HG : Hid (chkP 0 17 18 x fr = 0) := by show _ = _; rw [HF.out, if_pos hq]
        rw [decide_eq_true hq]
        clear HF hq
        go_wp2
        go_ret
        exact ⟨by rw [HG.out]; rfl, hB.trans (b2.mono hB.size)⟩
      · have HG : Hid (chkP 0 17 18 x fr = 18) := by show _ = _; rw [HF.out, if_neg hq]
        rw [decide_eq_false hq]
        clear HF hq
        go_wp2
        go_ret
        exact ⟨by rw [HG.out]; rfl, hB.trans (b2.mono hB.size)⟩

set_option maxHeartbeats 1600000 in
theorem rcheck_any (xa fa : Option Addr) (xc fc : Nat) (x : List (Int × Int)) (fr : List Int) (h r s : Int) (has : Bool) (bl : Int) (w : World) (S : ByteArray) (E : Int) (hx : x.length ≤ 64) (hw : ∀ z ∈ x, 0 ≤ z.2 ∧ z.2 ≤ 1099511627775) (h1 : SeatsAt w xa x) (hf : fr.length ≤ 4096) (h2 : IntsAt w fa fr)
    (K : ∀ y : World, Below w.heap.size w y → Calls Try.prog 17 #[.agg #[.int .i64 h, .int .i64 r, .int .i64 s, .bool has, .int .u64 bl, .slice fa fr.length fc]] y fun e w' => e = .returned (.tuple #[.string S, .int .i64 E]) ∧ Below y.heap.size y w') :
    Calls Try.prog 8 #[.slice xa x.length xc, .agg #[.int .i64 h, .int .i64 r, .int .i64 s, .bool has, .int .u64 bl, .slice fa fr.length fc]] w fun e w' => e = .returned (.int .i64 (chkP E 17 18 x fr)) ∧ Below w.heap.size w w' := by
  have bA : Below w.heap.size w (w.alloc (.cells #[.int .i64 h, .int .i64 r, .int .i64 s, .bool has, .int .u64 bl, .slice fa fr.length fc] 27)) := (Below.refl _ _).alloc (Nat.le_refl _) _
  have kG := Blk.new w #[.int .i64 h, .int .i64 r, .int .i64 s, .bool has, .int .u64 bl, .slice fa fr.length fc] 27
  have KA := K _ bA
  go_enter Try.func8, Try.ntmps8
  go_wp2_with fail
  refine KA.mono ?_
  rintro e w1 ⟨rfl, b1⟩
  have kG1 := kG.below b1 kG.lt
  have B1 := bA.trans (b1.mono bA.size)
  have c5 := (kG1.cell 5).trans rfl
  have zG := kG1.lt
  clear K KA kG b1 bA
  by_cases hE : E = 0
  rotate_left
  · have HF : Hid (chkP E 17 18 x fr = E) := by show _ = _; unfold chkP; rw [if_neg hE]
    have hEd : (E != 0) = true := by simpa using hE
    go_wp2
    go_ret
    exact ⟨by rw [HF.out]; rfl, B1⟩
  subst hE
  go_wp2_with fail
  go_loopw [7] (fun iv wv => ∃ i : Nat, i ≤ fr.length ∧ iv = .int .i64 i ∧ Hid ((fr.take i).all (hasP x) = true) ∧ Below w1.heap.size w1 wv) (fun iv _ => fr.length - (intOf iv).toNat)
  case atStart => exact ⟨0, Nat.zero_le _, rfl, rfl, Below.refl _ _⟩
  case round =>
    obtain ⟨i, hi, rfl, HT, hb⟩ := hrel
    have hB := B1.trans (hb.mono B1.size)
    have c5 := ((kG1.below hb kG1.lt).cell 5).trans rfl
    have zG := (kG1.below hb kG1.lt).lt
    by_cases hlt : i < fr.length
    · have hlt' : (i : Int) < (fr.length : Int) := by omega
      obtain ⟨b1, o1, e1, z1, a1⟩ := (h2.below hB).one hlt
      subst e1
      have ht := all_take (x := x) hlt
      have hn := all_not (x := x) hlt
      rw [HT.out] at ht
      generalize fr[i] = y at *
      go_wp2_with fail
      refine (rhas_any xa xc x y wr (by unfold maxLen; omega) (h1.below hB)).mono ?_
      rintro e w2 ⟨rfl, rfl⟩
      have hq1 := hb
      cases hh : hasP x y with
      | true =>
        have HN : Hid ((fr.take (i + 1)).all (hasP x) = true) := by show _ = _; rw [ht, hh]; rfl
        clear ht hn HT hh
        go_wp2
        exact ⟨⟨i + 1, by omega, by go_num, HN, hq1⟩, by simp [intOf]; omega⟩
      | false =>
        have HF : Hid (chkP 0 17 18 x fr = 17) := by show _ = _; unfold chkP; rw [if_pos rfl, hn hh]; rfl
        clear ht hn HT hh
        go_wp2
        go_ret
        exact ⟨by rw [HF.out]; rfl, B1.trans (hq1.mono B1.size)⟩
    · have hge : ¬ (i : Int) < (fr.length : Int) := by omega
      have hall : fr.all (hasP x) = true := by
        have := HT.out
        rwa [List.take_of_length_le (by omega)] at this
      have HF : Hid (chkP 0 17 18 x fr = if 2 * totP x < 3 * wtP x fr then 0 else 18) := by show _ = _; unfold chkP; rw [if_pos rfl, hall]; rfl
      clear HT hall
      go_wp2_with fail
      refine (rquorum_any xa fa xc fc x fr wr hx (by unfold maxLen; omega) hw (h1.below hB) (h2.below hB)).mono ?_
      rintro e w2 ⟨rfl, b2⟩
      by_cases hq : 2 * totP x < 3 * wtP x fr
      · have HG : Hid (chkP 0 17 18 x fr = 0) := by show _ = _; rw [HF.out, if_pos hq]
        rw [decide_eq_true hq]
        clear HF hq
        go_wp2
        go_ret
        exact ⟨by rw [HG.out]; rfl, hB.trans (b2.mono hB.size)⟩
      · have HG : Hid (chkP 0 17 18 x fr = 18) := by show _ = _; rw [HF.out, if_neg hq]
        rw [decide_eq_false hq]
        clear HF hq
        go_wp2
        go_ret
        exact ⟨by rw [HG.out]; rfl, hB.trans (b2.mono hB.size)⟩
end Go.Proofs.Ytomkiglagpfnoaa
