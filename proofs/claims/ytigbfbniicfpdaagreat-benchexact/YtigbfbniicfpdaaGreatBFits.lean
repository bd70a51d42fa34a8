/- Whether a bench may be: the program's and the answer's. -/
import Derived.Test.YtigbfbniicfpdaaGreatBSeat
namespace Go.Proofs.YtigbfbniicfpdaaGreat
open Go.RowKit
set_option linter.unusedVariables false
set_option linter.unusedSimpArgs false

/-- The first i may be, and rise. -/
def OkT (l : List (Int × Int)) (i : Nat) : Prop := (∀ x ∈ l.take i, MayS x) ∧ Rises (l.take i)
/-- The who ahead of i. -/
def aheadP (l : List (Int × Int)) (i : Nat) : Int := if i = 0 then 0 else (l.getD (i - 1) (0, 0)).1
theorem rises_last : ∀ {l : List (Int × Int)} {x : Int × Int}, Rises (l ++ [x]) → ∀ a ∈ l, a.1 < x.1 := by
  intro l x h a ha
  exact (List.pairwise_append.1 h).2.2 a ha x (by simp)
theorem OkT_zero (l : List (Int × Int)) : OkT l 0 := ⟨by simp, by simp [Rises]⟩
theorem OkT_succ {l : List (Int × Int)} {i : Nat} (hi : i < l.length) : OkT l (i + 1) ↔ OkT l i ∧ MayS l[i] ∧ aheadP l i < l[i].1 := by
  have ht := List.take_succ_eq_append_getElem hi
  constructor
  · intro ⟨h1, h2⟩
    rw [ht] at h1 h2
    have hm := h1 l[i] (List.mem_append_right _ (List.mem_singleton.2 rfl))
    refine ⟨⟨fun x hx => h1 x (List.mem_append_left _ hx), (List.pairwise_append.1 h2).1⟩, hm, ?_⟩
    unfold aheadP
    split
    · have := hm.1.1; omega
    · rename_i h0
      have hj : i - 1 < l.length := by omega
      have e : l.getD (i - 1) (0, 0) = l[i - 1] := by simp [List.getD, hj]
      rw [e]
      refine rises_last h2 _ ?_
      have : (l.take i)[i - 1]? = some l[i - 1] := by rw [List.getElem?_take_of_lt (by omega), List.getElem?_eq_getElem hj]
      exact List.mem_of_getElem? this
  · rintro ⟨⟨h1, h2⟩, hm, hl⟩
    refine ⟨?_, ?_⟩
    · rw [ht]
      intro x hx
      rcases List.mem_append.1 hx with hx | hx
      · exact h1 x hx
      · simp only [List.mem_singleton] at hx
        subst hx
        exact hm
    · unfold Rises
      rw [ht]
      refine List.pairwise_append.2 ⟨h2, by simp, fun a ha b hb => ?_⟩
      simp only [List.mem_singleton] at hb
      subst hb
      unfold aheadP at hl
      split at hl
      · rename_i h0
        subst h0
        simp at ha
      · rename_i h0
        have hj : i - 1 < l.length := by omega
        have e : l.getD (i - 1) (0, 0) = l[i - 1] := by simp [List.getD, hj]
        rw [e] at hl
        have e2 : l.take i = l.take (i - 1) ++ [l[i - 1]] := by
          have := List.take_succ_eq_append_getElem hj
          rwa [show i - 1 + 1 = i by omega] at this
        rw [e2] at ha h2
        rcases List.mem_append.1 ha with ha | ha
        · have := rises_last h2 a ha
          omega
        · simp only [List.mem_singleton] at ha
          subst ha
          exact hl
theorem OkT_mono {l : List (Int × Int)} : ∀ {i j : Nat}, i ≤ j → OkT l j → OkT l i := by
  intro i j h ⟨h1, h2⟩
  have hs := List.take_sublist_take_left (l := l) h
  exact ⟨fun x hx => h1 x (hs.subset hx), h2.sublist hs⟩
theorem good_iff (l : List (Int × Int)) : GoodB l ↔ (1 ≤ l.length ∧ l.length ≤ 7) ∧ OkT l l.length := by
  unfold OkT
  rw [List.take_length]
  exact ⟨fun h => ⟨⟨h.pos, h.few⟩, h.may, h.rises⟩, fun h => ⟨h.1.1, h.1.2, h.2.2, h.2.1⟩⟩

/-- Whether a bench may be, said as a flag. -/
noncomputable def fitB (l : List (Int × Int)) : Bool := @decide (GoodB l) (Classical.propDecidable _)
theorem fitB_true {l : List (Int × Int)} (h : GoodB l) : fitB l = true := by unfold fitB; exact @decide_eq_true _ (Classical.propDecidable _) h
theorem fitB_false {l : List (Int × Int)} (h : ¬ GoodB l) : fitB l = false := by unfold fitB; exact @decide_eq_false _ (Classical.propDecidable _) h
theorem fitB_iff (l : List (Int × Int)) : fitB l = true ↔ GoodB l := by
  constructor
  · intro h
    apply Classical.byContradiction
    intro hc
    rw [fitB_false hc] at h
    cases h
  · exact fitB_true
theorem not_good {l : List (Int × Int)} {i : Nat} (hi : i < l.length) (h : ¬ (MayS l[i] ∧ aheadP l i < l[i].1)) : fitB l = false :=
  fitB_false fun hg => h ((OkT_succ hi).1 (OkT_mono (by omega) ((good_iff l).1 hg).2)).2
theorem aheadP_succ {l : List (Int × Int)} {i : Nat} (hi : i < l.length) : aheadP l (i + 1) = l[i].1 := by simp [aheadP, List.getD, hi]
theorem aheadP_pred {l : List (Int × Int)} {i : Nat} (hi : i < l.length) (h0 : 0 < i) : aheadP l i = (l[i - 1]'(by omega)).1 := by
  have : aheadP l (i - 1 + 1) = _ := aheadP_succ (l := l) (i := i - 1) (by omega)
  rwa [show i - 1 + 1 = i by omega] at this

set_option maxHeartbeats 800000 in
theorem fits_any (la : Option Addr) (ca : Nat) (l : List (Int × Int)) (w : World) (hl : l.length ≤ maxLen) (h1 : SeatsAt w la l) :
    Calls Tryz.prog 7 #[.slice la l.length ca] w fun e w' => e = .returned (.bool (fitB l)) ∧ Below w.heap.size w w' := by
  unfold maxLen at hl
  by_cases hr : 1 ≤ l.length ∧ l.length ≤ 7
  rotate_left
  · have HF : Hid (fitB l = false) := fitB_false fun h => hr ⟨h.pos, h.few⟩
    by_cases h0 : l.length < 1
    · have h0' : (l.length : Int) < 1 := by omega
      go_enter Tryz.func7, Tryz.ntmps7
      go_wp2
      go_ret
      exact ⟨by rw [HF.out]; rfl, Below.refl _ _⟩
    · have h0' : ¬ (l.length : Int) < 1 := by omega
      have h7' : (7 : Int) < (l.length : Int) := by omega
      go_enter Tryz.func7, Tryz.ntmps7
      go_wp2
      go_ret
      exact ⟨by rw [HF.out]; rfl, Below.refl _ _⟩
  obtain ⟨r1, r7⟩ := hr
  have h0' : ¬ (l.length : Int) < 1 := by omega
  have h7' : ¬ (7 : Int) < (l.length : Int) := by omega
  go_enter Tryz.func7, Tryz.ntmps7
  go_wp2_with fail
  go_loopw [3, 16] (fun lv iv wv => ∃ (i : Nat) (ls : Int), i ≤ l.length ∧ iv = .int .i64 i ∧ lv = .int .i64 ls ∧ Hid (ls = aheadP l i) ∧ Hid (OkT l i) ∧ Below w.heap.size w wv) (fun _ iv _ => l.length - (intOf iv).toNat)
  case atStart => exact ⟨0, _, Nat.zero_le _, rfl, rfl, rfl, OkT_zero l, Below.refl _ _⟩
  case round =>
    obtain ⟨i, ls, hi, rfl, rfl, HL, HO, hb⟩ := hrel
    by_cases hlt : i < l.length
    · have hlt' : (i : Int) < (l.length : Int) := by omega
      obtain ⟨b1, o1, e1, z1, a1, a2⟩ := (h1.below hb).one hlt
      subst e1
      have hno := not_good hlt
      have hok := OkT_succ hlt
      have hls := aheadP_succ hlt
      rw [← HL.out] at hno hok
      generalize l[i] = x at *
      obtain ⟨xk, xv⟩ := x
      simp only at a1 a2 hno hok hls
      have bA : Below w.heap.size w (wr.alloc (.cells #[.int .i64 xk, .int .i64 xv] 39)) := hb.alloc hb.size _
      have kS := Blk.new wr #[.int .i64 xk, .int .i64 xv] 39
      go_upto_region 7 with fail
      generalize wr.alloc (.cells #[.int .i64 xk, .int .i64 xv] 39) = wA at *
      have y0 := (kS.cell 0).trans rfl
      have y1 := (kS.cell 1).trans rfl
      have zs := kS.lt
      go_wp2_with fail
      refine (mayBe_any xk xv wA).mono ?_
      rintro e w1 ⟨rfl, b1⟩
      have k1 := kS.below b1 kS.lt
      have s0 := (k1.cell 0).trans rfl
      have zs1 := k1.lt
      have hB1 := bA.trans (b1.mono bA.size)
      clear y0 y1
      by_cases hm : MayS (xk, xv)
      · rw [decide_eq_true hm]
        by_cases hle : xk ≤ ls
        · have HF : Hid (fitB l = false) := hno fun h => by have := h.2; omega
          clear hno hok hls HL HO hm
          go_wp2
          go_ret
          exact ⟨by rw [HF.out]; rfl, hB1⟩
        · have hd : decide (xk ≤ ls) = false := by simpa using hle
          have HO2 : Hid (OkT l (i + 1)) := hok.2 ⟨HO.out, hm, by omega⟩
          have HL2 : Hid (xk = aheadP l (i + 1)) := hls.symm
          clear hno hok hls HL HO hm
          go_wp2
          exact ⟨⟨i + 1, _, by omega, by go_num, rfl, HL2, HO2, hB1⟩, by simp [intOf]; omega⟩
      · rw [decide_eq_false hm]
        have HF : Hid (fitB l = false) := hno fun h => hm h.1
        clear hno hok hls HL HO hm
        go_wp2
        go_ret
        exact ⟨by rw [HF.out]; rfl, hB1⟩
    · have hge : ¬ (i : Int) < (l.length : Int) := by omega
      have HF : Hid (fitB l = true) := fitB_true ((good_iff l).2 ⟨⟨r1, r7⟩, by have := HO.out; rwa [show i = l.length by omega] at this⟩)
      clear HL HO
      go_wp2
      go_ret
      exact ⟨by rw [HF.out]; rfl, hb⟩

set_option maxHeartbeats 800000 in
theorem rfits_any (la : Option Addr) (ca : Nat) (l : List (Int × Int)) (w : World) (hl : l.length ≤ maxLen) (h1 : SeatsAt w la l) :
    Calls Tryz.prog 8 #[.slice la l.length ca] w fun e w' => e = .returned (.bool (fitB l)) ∧ Below w.heap.size w w' := by
  unfold maxLen at hl
  go_enter Tryz.func8, Tryz.ntmps8
  go_wp2_with fail
  go_loopw [3] (fun iv wv => ∃ (i : Nat), i ≤ l.length ∧ iv = .int .i64 i ∧ Hid (OkT l i) ∧ Below w.heap.size w wv) (fun iv _ => l.length - (intOf iv).toNat)
  case atStart => exact ⟨0, Nat.zero_le _, rfl, OkT_zero l, Below.refl _ _⟩
  case round =>
    obtain ⟨i, hi, rfl, HO, hb⟩ := hrel
    by_cases hlt : i < l.length
    · have hlt' : (i : Int) < (l.length : Int) := by omega
      have A : ∀ w', Below w.heap.size w w' → ∃ b o, la = some ⟨b, o, none⟩ ∧ b < w'.heap.size ∧ w'.cell? ⟨b, o + i * 2, none⟩ = some (.int .i64 l[i].1) ∧ w'.cell? ⟨b, o + i * 2 + 1, none⟩ = some (.int .i64 l[i].2) := fun w' hb => (h1.below hb).one hlt
      have hno := not_good hlt
      have hok := OkT_succ hlt
      have hpr := aheadP_pred hlt
      generalize l[i] = x at *
      obtain ⟨xk, xv⟩ := x
      simp only at hno hok
      obtain ⟨b1, o1, e1, z1, a1, a2⟩ := A _ hb
      subst e1
      try simp only at a1 a2
      go_upto_region 4 with fail
      go_wp2_with fail
      refine (rmay_any xk xv wr).mono ?_
      rintro e w1 ⟨rfl, b1'⟩
      have hB1 := hb.trans (b1'.mono hb.size)
      clear a1 a2 z1
      obtain ⟨b2, o2, e2, z1, a1, a2⟩ := A _ hB1
      injection e2 with e2
      injection e2 with e2 e3
      rw [← e2, ← e3] at a1 a2
      rw [← e2] at z1
      clear e2 e3 A
      by_cases hm : MayS (xk, xv)
      · rw [decide_eq_true hm]
        by_cases h0 : i = 0
        · have HO2 : Hid (OkT l (i + 1)) := hok.2 ⟨HO.out, hm, by unfold aheadP; rw [if_pos h0]; have := hm.1.1; omega⟩
          clear hno hok hpr HO hm a1 a2 hlt'
          subst h0
          go_upto_region 5 with fail
          go_quiet (fail)
          go_wp2
          exact ⟨⟨0 + 1, by omega, by go_num, HO2, below_drewN hB1 _⟩, by simp [intOf]; omega⟩
        · have hp := hpr (by omega)
          have h0' : (0 : Int) < (i : Int) := by omega
          have hj : i - 1 < l.length := by omega
          obtain ⟨b3, o3, e3, z3, c1, c2⟩ := (h1.below hB1).one hj
          injection e3 with e3
          injection e3 with e3 e4
          rw [← e3, ← e4] at c1 c2
          clear e3 e4 z3
          rw [hp] at hno hok
          generalize l[i - 1] = y at *
          obtain ⟨yk, yv⟩ := y
          obtain ⟨j, rfl⟩ : ∃ j, i = j + 1 := ⟨i - 1, by omega⟩
          simp only [Nat.add_sub_cancel] at c1 c2 hno hok
          have hsub : ((j + 1 : Nat) : Int) - 1 = (j : Int) := by omega
          by_cases hle : xk ≤ yk
          · have HF : Hid (fitB l = false) := hno fun h => by have := h.2; omega
            clear hno hok hpr HO hm hp
            go_upto_region 5 with fail
            go_quiet (fail)
            go_wp2
            go_ret
            exact ⟨by rw [HF.out]; rfl, below_drewN hB1 _⟩
          · have hd : decide (xk ≤ yk) = false := by simpa using hle
            have HO2 : Hid (OkT l (j + 1 + 1)) := hok.2 ⟨HO.out, hm, by omega⟩
            clear hno hok hpr HO hm hp
            go_upto_region 5 with fail
            go_quiet (fail)
            go_wp2
            exact ⟨⟨j + 1 + 1, by omega, by go_num, HO2, below_drewN hB1 _⟩, by simp [intOf]; omega⟩
      · rw [decide_eq_false hm]
        have HF : Hid (fitB l = false) := hno fun h => hm h.1
        clear hno hok hpr HO hm
        go_upto_region 5 with fail
        go_quiet (fail)
        go_wp2
        go_ret
        exact ⟨by rw [HF.out]; rfl, below_drewN hB1 _⟩
    · have hge : ¬ (i : Int) < (l.length : Int) := by omega
      have hgi := good_iff l
      have hO := HO.out
      rw [show i = l.length by omega] at hO
      by_cases h0 : 0 < l.length
      · have h0' : (0 : Int) < (l.length : Int) := by omega
        by_cases h7 : l.length ≤ 7
        · have h7' : (l.length : Int) ≤ 7 := by omega
          have HF : Hid (fitB l = true) := fitB_true (hgi.2 ⟨⟨h0, h7⟩, hO⟩)
          clear HO hO hgi
          go_wp2
          go_ret
          exact ⟨by rw [HF.out]; rfl, hb⟩
        · have h7' : ¬ (l.length : Int) ≤ 7 := by omega
          have h7d : decide ((l.length : Int) ≤ 7) = false := by simpa using h7'
          have HF : Hid (fitB l = false) := fitB_false fun h => h7 h.few
          clear HO hO hgi
          go_wp2
          go_ret
          exact ⟨by rw [HF.out]; rfl, hb⟩
      · have h0' : ¬ (0 : Int) < (l.length : Int) := by omega
        have h0d : decide ((0 : Int) < (l.length : Int)) = false := by simpa using h0'
        have HF : Hid (fitB l = false) := fitB_false fun h => by have := h.pos; omega
        clear HO hO hgi
        go_wp2
        go_ret
        exact ⟨by rw [HF.out]; rfl, hb⟩
end Go.Proofs.YtigbfbniicfpdaaGreat
