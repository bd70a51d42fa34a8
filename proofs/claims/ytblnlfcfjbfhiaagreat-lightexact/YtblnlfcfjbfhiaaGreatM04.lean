/- Benches that may be, of raw numbers. -/
import Derived.Test.YtblnlfcfjbfhiaaGreatBCho

namespace Go.Proofs.YtblnlfcfjbfhiaaGreat
open Go.RowKit
set_option linter.unusedVariables false
set_option linter.unusedSimpArgs false

/-- Who rises. -/
def Rises (l : List (Int × Int)) : Prop := l.Pairwise fun a b => a.1 < b.1
/-- No two have one who. -/
def Apart (l : List (Int × Int)) : Prop := l.Pairwise fun a b => a.1 ≠ b.1
theorem insP_mem (s x : Int × Int) : ∀ l, x ∈ insP s l ↔ x = s ∨ x ∈ l
  | [] => by simp [insP]
  | y :: r => by
    unfold insP
    split
    · rw [List.mem_cons, insP_mem s x r, List.mem_cons]
      constructor
      · rintro (h | h | h)
        · exact .inr (.inl h)
        · exact .inl h
        · exact .inr (.inr h)
      · rintro (h | h | h)
        · exact .inr (.inl h)
        · exact .inl h
        · exact .inr (.inr h)
    · simp
theorem insP_rises (s : Int × Int) : ∀ l, Rises l → (∀ x ∈ l, x.1 ≠ s.1) → Rises (insP s l)
  | [], _, _ => by simp [insP, Rises]
  | y :: r, h, hn => by
    obtain ⟨h1, h2⟩ := List.pairwise_cons.1 h
    unfold insP
    split
    · rename_i hy
      refine List.pairwise_cons.2 ⟨fun z hz => ?_, insP_rises s r h2 fun x hx => hn x (by simp [hx])⟩
      rcases (insP_mem s z r).1 hz with rfl | hz
      · exact hy
      · exact h1 z hz
    · rename_i hy
      have hy2 : s.1 < y.1 := by have := hn y (by simp); omega
      refine List.pairwise_cons.2 ⟨fun z hz => ?_, h⟩
      rcases List.mem_cons.1 hz with rfl | hz
      · exact hy2
      · have := h1 z hz; omega
theorem cutP_sub (l : List (Int × Int)) (b : Nat) : (cutP l b).Sublist l := by
  unfold cutP
  conv => rhs; rw [← List.take_append_drop b l]
  refine List.Sublist.append (List.Sublist.refl _) ?_
  rw [← List.drop_drop]
  exact List.drop_sublist _ _
theorem cutP_apart {l : List (Int × Int)} {b : Nat} (h : Apart l) (hb : b < l.length) : ∀ x ∈ cutP l b, x.1 ≠ l[b].1 := by
  intro x hx
  have e : l = l.take b ++ l[b] :: l.drop (b + 1) := by rw [← List.drop_eq_getElem_cons hb, List.take_append_drop]
  unfold Apart at h
  have h' := h
  rw [e] at h'
  obtain ⟨_, h2, h3⟩ := List.pairwise_append.1 h'
  rcases List.mem_append.1 hx with hx | hx
  · exact h3 x hx _ List.mem_cons_self
  · exact fun e => (List.pairwise_cons.1 h2).1 x hx e.symm
theorem leftN_mem (l : List (Int × Int)) : ∀ n x, x ∈ leftN l n → x ∈ l.take n ∧ MayS x
  | 0, x, h => by simp [leftN] at h
  | n + 1, x, h => by
    unfold leftN at h
    rcases List.mem_append.1 h with h | h
    · have := leftN_mem l n x h
      exact ⟨List.Sublist.subset (List.take_sublist_take_left (Nat.le_succ n)) this.1, this.2⟩
    · split at h
      · rename_i hn
        split at h
        · rename_i hc
          simp only [List.mem_singleton] at h
          subst h
          refine ⟨?_, hc.2⟩
          rw [List.take_succ_eq_append_getElem hn]
          exact List.mem_append_right _ (List.mem_singleton.2 rfl)
        · simp at h
      · simp at h
theorem leftN_apart (l : List (Int × Int)) : ∀ n, Apart (leftN l n)
  | 0 => by simp [leftN, Apart]
  | n + 1 => by
    unfold leftN
    refine List.pairwise_append.2 ⟨leftN_apart l n, ?_, ?_⟩
    · split
      · split <;> simp
      · simp
    · intro x hx y hy
      split at hy
      · split at hy
        · rename_i hc
          simp only [List.mem_singleton] at hy
          subst hy
          exact hc.1 x (leftN_mem l n x hx).1
        · simp at hy
      · simp at hy
theorem choGo_good : ∀ (n : Nat) (out left : List (Int × Int)), Rises out → Apart left → (∀ x ∈ out, ∀ y ∈ left, x.1 ≠ y.1) → (∀ x ∈ out, MayS x) → (∀ x ∈ left, MayS x) →
    Rises (choGo n out left) ∧ (∀ x ∈ choGo n out left, MayS x) ∧ (choGo n out left).length ≤ out.length + n
  | 0, out, left, h1, h2, h3, h4, h5 => ⟨h1, h4, by simp [choGo]⟩
  | n + 1, out, left, h1, h2, h3, h4, h5 => by
    unfold choGo
    split
    · exact ⟨h1, h4, by omega⟩
    · rename_i hz
      have hpos : 0 < left.length := List.length_pos_iff.2 hz
      have hb : bestN left (left.length - 1) < left.length := by have := bestN_le left (left.length - 1); omega
      generalize bestN left (left.length - 1) = b at *
      have hg : left.getD b (0, 0) = left[b] := by simp [List.getD, hb]
      rw [hg]
      have hm := List.getElem_mem hb
      have hsub := (cutP_sub left b).subset
      have key := choGo_good n (insP left[b] out) (cutP left b) (insP_rises _ _ h1 fun x hx => h3 x hx _ hm) (h2.sublist (cutP_sub left b)) (fun x hx y hy => ?_) (fun x hx => ?_) (fun x hx => h5 x (hsub hx))
      · rw [insP_len] at key
        exact ⟨key.1, key.2.1, by omega⟩
      · rcases (insP_mem _ x out).1 hx with rfl | hx
        · exact fun e => cutP_apart h2 hb y hy e.symm
        · exact h3 x hx y (hsub hy)
      · rcases (insP_mem _ x out).1 hx with rfl | hx
        · exact h5 _ hm
        · exact h4 x hx

/-- A bench that may be. -/
structure GoodB (l : List (Int × Int)) : Prop where
  pos : 1 ≤ l.length
  few : l.length ≤ 7
  rises : Rises l
  may : ∀ x ∈ l, MayS x
theorem GoodB.w {l : List (Int × Int)} (h : GoodB l) : ∀ x ∈ l, 0 ≤ x.2 ∧ x.2 ≤ 1099511627775 := fun x hx => by have := (h.may x hx).2; omega
theorem choP_good (l : List (Int × Int)) (hz : choP l ≠ []) : GoodB (choP l) := by
  obtain ⟨h1, h2, h3⟩ := choGo_good 7 [] (leftN l l.length) (by simp [Rises]) (leftN_apart l _) (by simp) (by simp) (fun x hx => (leftN_mem l _ x hx).2)
  exact ⟨List.length_pos_iff.2 hz, by simp only [List.length_nil, Nat.zero_add] at h3; exact h3, h1, h2⟩
theorem good_one : GoodB [(1, 1)] := ⟨by simp, by simp, by simp [Rises], by simp [MayS]⟩

theorem pick_any (c n : Int) (w : World) (hc : -9223372036854775808 ≤ c ∧ c ≤ 9223372036854775807) (hn : 1 ≤ n ∧ n ≤ 9223372036854775807) :
    Calls Tryz.prog 4 #[.int .i64 c, .int .i64 n] w fun e w' => (∃ r, e = .returned (.int .i64 r) ∧ 0 ≤ r ∧ r < n) ∧ w = w' := by
  by_cases h : c < 0
  · have hq := Int.emod_nonneg (-(c + 1)) (show n ≠ 0 by omega)
    have hq2 := Int.emod_lt_of_pos (-(c + 1)) (show 0 < n by omega)
    go_enter Tryz.func4, Tryz.ntmps4
    go_wp2
    go_ret
    have e : -((c + 1).tmod n) = -(c + 1) % n := by rw [← Int.neg_tmod, Int.tmod_eq_emod_of_nonneg (by omega)]
    rw [← e] at hq hq2
    exact ⟨⟨_, rfl, hq, hq2⟩, rfl⟩
  · have hq := Int.emod_nonneg c (show n ≠ 0 by omega)
    have hq2 := Int.emod_lt_of_pos c (show 0 < n by omega)
    go_enter Tryz.func4, Tryz.ntmps4
    go_wp2
    go_ret
    exact ⟨⟨_, rfl, hq, hq2⟩, rfl⟩

theorem wrapI (n : Int) (h1 : -9223372036854775808 ≤ n) (h2 : n ≤ 9223372036854775807) : IntKind.i64.wrap n = n := by
  simp [IntKind.wrap, IntKind.min, IntKind.max, IntKind.signed, IntKind.bits]
  omega

set_option maxRecDepth 4000 in
set_option maxHeartbeats 1600000 in
theorem seated_any (la : Option Addr) (ca : Nat) (l : List (Int × Int)) (w : World) (hl : l.length ≤ maxLen) (hw : ∀ x ∈ l, (-9223372036854775808 ≤ x.1 ∧ x.1 ≤ 9223372036854775807) ∧ -9223372036854775808 ≤ x.2 ∧ x.2 ≤ 9223372036854775807) (h1 : SeatsAt w la l) :
    Calls Tryz.prog 6 #[.slice la l.length ca] w fun e w' => (∃ v x, e = .returned v ∧ GoodB x ∧ w'.ownsRow w.heap.size 52 2 v x.length (flatS x)) ∧ Below w.heap.size w w' := by
  unfold maxLen at hl
  go_enter Tryz.func6, Tryz.ntmps6
  go_wp2_with fail
  go_loopw [3, 4] (fun ov iv wv => ∃ (i : Nat) (out : List (Int × Int)), i ≤ l.length ∧ i ≤ 64 ∧ iv = .int .i64 i ∧ out.length = i ∧ wv.ownsRow w.heap.size 52 2 ov out.length (flatS out) ∧ Below w.heap.size w wv) (fun _ iv _ => l.length - (intOf iv).toNat)
  case atStart => exact ⟨0, [], Nat.zero_le _, Nat.zero_le _, rfl, rfl, World.ownsRow_nil _ _ _ _, Below.refl _ _⟩
  case round =>
    obtain ⟨i, out, hi, hi6, rfl, hol, hown, hb⟩ := hrel
    by_cases hgo : i < l.length ∧ i < 64
    · obtain ⟨hlt, h64⟩ := hgo
      have hlt' : (i : Int) < (l.length : Int) := by omega
      have h64' : (i : Int) < 64 := by omega
      have hx := hw _ (List.getElem_mem hlt)
      have A : ∀ w', Below w.heap.size w w' → ∃ b o, la = some ⟨b, o, none⟩ ∧ b < w'.heap.size ∧ w'.cell? ⟨b, o + i * 2, none⟩ = some (.int .i64 l[i].1) ∧ w'.cell? ⟨b, o + i * 2 + 1, none⟩ = some (.int .i64 l[i].2) := fun w' hb => (h1.below hb).one hlt
      generalize l[i] = x at *
      obtain ⟨xk, xv⟩ := x
      obtain ⟨b1, o1, e1, z1, a1, a2⟩ := A _ hb
      subst e1
      try simp only at a1 a2 hx
      obtain ⟨hx1, hx2⟩ := hx
      clear A h1 hw
      have hownD : wr.drew.ownsRow w.heap.size 52 2 u3 out.length (flatS out) := owns_keep hown ((Below.refl _ _).drew)
      go_upto_region 5 with fail
      go_region_law
        (first
        | (refine step_app_seats (by rfl) _ _ (by rfl) (by rfl) w.heap.size u3 out (by rfl) (by first | exact hownD.alloc _ | exact hown.alloc _) (some ⟨wr.heap.size, 0, none⟩) 1 [(1 + r1, 1 + r2)] 1 (by rfl) (by first | exact SeatsAt.blk (Blk.new _ _ _) | exact SeatsAt.blk (Blk.drew (Blk.new _ _ _))) (by omega) (by simp) (by have := hb.size; simp; omega) (by rfl) ?_
           intro v9 w9 ho9 hg9)
        | (go_simp
           with_reducible refine (pick_any xk 12 _ hx1 (by omega)).mono ?_
           rintro e w9 ⟨⟨r1, rfl, p1, p2⟩, rfl⟩
           have wr1 := wrapI (1 + r1) (by omega) (by omega))
        | (go_simp
           with_reducible refine (pick_any xv 40 _ hx2 (by omega)).mono ?_
           rintro e w9 ⟨⟨r2, rfl, q1, q2⟩, rfl⟩
           have wr2 := wrapI (1 + r2) (by omega) (by omega)))
      all_goals
        have b9 : Below w.heap.size w w9 := by
          first
          | exact (hb.alloc hb.size _).grown hg9 (by have := hb.size; simp; omega) (fun k e => (hown.lt k e).1)
          | exact (hb.drew.alloc hb.size _).grown hg9 (by have := hb.size; simp; omega) (fun k e => (hown.lt k e).1)
          | exact (hb.drew.drew.alloc hb.size _).grown hg9 (by have := hb.size; simp; omega) (fun k e => (hown.lt k e).1)
        simp only [Act.put, List.getElem_toArray, List.getElem_cons_succ, List.getElem_cons_zero, List.setIfInBounds_toArray, List.set_cons_zero, List.set_cons_succ]
        clear wr1 wr2 hg9 hownD hown
        go_wp2
        exact ⟨⟨i + 1, out ++ [(1 + r1, 1 + r2)], by omega, by omega, by go_num, by simp; omega, ho9, b9⟩, by simp [intOf]; omega⟩
    · by_cases hlt : i < l.length
      · have hlt' : (i : Int) < (l.length : Int) := by omega
        have h64' : ¬ (i : Int) < 64 := by omega
        have h64d : decide ((i : Int) < 64) = false := by simpa using h64'
        clear hgo h1 hw
        go_wp2_with fail
        obtain ⟨oa, oc, rfl, hso⟩ := SeatsAt.of_owns hown
        refine (rchoose_any oa oc out wr (by omega) hso).mono ?_
        rintro e w1 ⟨⟨v, rfl, ho1⟩, b1⟩
        obtain ⟨va, vc, rfl, _⟩ := SeatsAt.of_owns ho1
        have hB1 := hb.trans (b1.mono hb.size)
        have hz := choP_good out
        have ho2 := owns_base ho1 hb.size
        clear ho1 hown hso
        generalize choP out = x at *
        by_cases hx : x = []
        · subst hx
          clear hz ho2
          go_wp2
          go_ret
          refine ⟨⟨_, [(1, 1)], rfl, good_one, ?_⟩, hB1.alloc hB1.size _⟩
          exact ⟨by simp [flatS], .inr ⟨w1.heap.size, 1, _, rfl, hB1.size, Blk.new _ _ _, Nat.le_refl _, by decide, rfl, rfl⟩⟩
        · have hg := hz hx
          have hp := hg.pos
          have hp' : ((x.length : Int) == 0) = false := by simp; omega
          clear hz hx
          go_wp2
          go_ret
          exact ⟨⟨_, x, rfl, hg, ho2⟩, hB1⟩
      · have hlt' : ¬ (i : Int) < (l.length : Int) := by omega
        clear hgo h1 hw
        go_wp2_with fail
        obtain ⟨oa, oc, rfl, hso⟩ := SeatsAt.of_owns hown
        refine (rchoose_any oa oc out wr (by omega) hso).mono ?_
        rintro e w1 ⟨⟨v, rfl, ho1⟩, b1⟩
        obtain ⟨va, vc, rfl, _⟩ := SeatsAt.of_owns ho1
        have hB1 := hb.trans (b1.mono hb.size)
        have hz := choP_good out
        have ho2 := owns_base ho1 hb.size
        clear ho1 hown hso
        generalize choP out = x at *
        by_cases hx : x = []
        · subst hx
          clear hz ho2
          go_wp2
          go_ret
          refine ⟨⟨_, [(1, 1)], rfl, good_one, ?_⟩, hB1.alloc hB1.size _⟩
          exact ⟨by simp [flatS], .inr ⟨w1.heap.size, 1, _, rfl, hB1.size, Blk.new _ _ _, Nat.le_refl _, by decide, rfl, rfl⟩⟩
        · have hg := hz hx
          have hp := hg.pos
          have hp' : ((x.length : Int) == 0) = false := by simp; omega
          clear hz hx
          go_wp2
          go_ret
          exact ⟨⟨_, x, rfl, hg, ho2⟩, hB1⟩
end Go.Proofs.YtblnlfcfjbfhiaaGreat

namespace Go.Proofs.YtblnlfcfjbfhiaaGreat
open Go.RowKit
set_option linter.unusedVariables false
set_option linter.unusedSimpArgs false

/-- The first i may be, and rise. -/
def OkT (l : List (Int × Int)) (i : Nat) : Prop := (∀ x ∈ l.take i, MayS x) ∧ Rises (l.take i)
/-- The who ahead of i. -/
def aheadP (l : List (Int × Int)) (i : Nat) : Int := if i = 0 then 0 else (l.getD (i - 1) (0, 0)).1
theorem rises_last : ∀ {l : List (Int × Int)} {x : Int × Int}, Rises (l ++ [x]) → ∀ a ∈ l, a.1 < x.1 := by
  intro l x h a ha
  exact (List.pairwise_append.1 h).2.2 a ha x (by simp)
theorem OkT_zero (l : List (Int × Int)) : OkT l 0 := ⟨by simp, by simp [Rises]⟩
theorem OkT_succ {l : List (Int × Int)} {i : Nat} (hi : i < l.length) : OkT l (i + 1) ↔ OkT l i ∧ MayS l[i] ∧ aheadP l i < l[i].1 := by
  have ht := List.take_succ_eq_append_getElem hi
  constructor
  · intro ⟨h1, h2⟩
    rw [ht] at h1 h2
    have hm := h1 l[i] (List.mem_append_right _ (List.mem_singleton.2 rfl))
    refine ⟨⟨fun x hx => h1 x (List.mem_append_left _ hx), (List.pairwise_append.1 h2).1⟩, hm, ?_⟩
    unfold aheadP
    split
    · have := hm.1.1; omega
    · rename_i h0
      have hj : i - 1 < l.length := by omega
      have e : l.getD (i - 1) (0, 0) = l[i - 1] := by simp [List.getD, hj]
      rw [e]
      refine rises_last h2 _ ?_
      have : (l.take i)[i - 1]? = some l[i - 1] := by rw [List.getElem?_take_of_lt (by omega), List.getElem?_eq_getElem hj]
      exact List.mem_of_getElem? this
  · rintro ⟨⟨h1, h2⟩, hm, hl⟩
    refine ⟨?_, ?_⟩
    · rw [ht]
      intro x hx
      rcases List.mem_append.1 hx with hx | hx
      · exact h1 x hx
      · simp only [List.mem_singleton] at hx
        subst hx
        exact hm
    · unfold Rises
      rw [ht]
      refine List.pairwise_append.2 ⟨h2, by simp, fun a ha b hb => ?_⟩
      simp only [List.mem_singleton] at hb
      subst hb
      unfold aheadP at hl
      split at hl
      · rename_i h0
        subst h0
        simp at ha
      · rename_i h0
        have hj : i - 1 < l.length := by omega
        have e : l.getD (i - 1) (0, 0) = l[i - 1] := by simp [List.getD, hj]
        rw [e] at hl
        have e2 : l.take i = l.take (i - 1) ++ [l[i - 1]] := by
          have := List.take_succ_eq_append_getElem hj
          rwa [show i - 1 + 1 = i by omega] at this
        rw [e2] at ha h2
        rcases List.mem_append.1 ha with ha | ha
        · have := rises_last h2 a ha
          omega
        · simp only [List.mem_singleton] at ha
          subst ha
          exact hl
theorem OkT_mono {l : List (Int × Int)} : ∀ {i j : Nat}, i ≤ j → OkT l j → OkT l i := by
  intro i j h ⟨h1, h2⟩
  have hs := List.take_sublist_take_left (l := l) h
  exact ⟨fun x hx => h1 x (hs.subset hx), h2.sublist hs⟩
theorem good_iff (l : List (Int × Int)) : GoodB l ↔ (1 ≤ l.length ∧ l.length ≤ 7) ∧ OkT l l.length := by
  unfold OkT
  rw [List.take_length]
  exact ⟨fun h => ⟨⟨h.pos, h.few⟩, h.may, h.rises⟩, fun h => ⟨h.1.1, h.1.2, h.2.2, h.2.1⟩⟩

/-- Whether a bench may be, said as a flag. -/
noncomputable def fitB (l : List (Int × Int)) : Bool := @decide (GoodB l) (Classical.propDecidable _)
theorem fitB_true {l : List (Int × Int)} (h : GoodB l) : fitB l = true := by unfold fitB; exact @decide_eq_true _ (Classical.propDecidable _) h
theorem fitB_false {l : List (Int × Int)} (h : ¬ GoodB l) : fitB l = false := by unfold fitB; exact @decide_eq_false _ (Classical.propDecidable _) h
theorem fitB_iff (l : List (Int × Int)) : fitB l = true ↔ GoodB l := by
  constructor
  · intro h
    apply Classical.byContradiction
    intro hc
    rw [fitB_false hc] at h
    cases h
  · exact fitB_true
theorem not_good {l : List (Int × Int)} {i : Nat} (hi : i < l.length) (h : ¬ (MayS l[i] ∧ aheadP l i < l[i].1)) : fitB l = false :=
  fitB_false fun hg => h ((OkT_succ hi).1 (OkT_mono (by omega) ((good_iff l).1 hg).2)).2
theorem aheadP_succ {l : List (Int × Int)} {i : Nat} (hi : i < l.length) : aheadP l (i + 1) = l[i].1 := by simp [aheadP, List.getD, hi]
theorem aheadP_pred {l : List (Int × Int)} {i : Nat} (hi : i < l.length) (h0 : 0 < i) : aheadP l i = (l[i - 1]'(by omega)).1 := by
  have : aheadP l (i - 1 + 1) = _ := aheadP_succ (l := l) (i := i - 1) (by omega)
  rwa [show i - 1 + 1 = i by omega] at this

set_option maxHeartbeats 800000 in
theorem fits_any (la : Option Addr) (ca : Nat) (l : List (Int × Int)) (w : World) (hl : l.length ≤ maxLen) (h1 : SeatsAt w la l) :
    Calls Tryz.prog 47 #[.slice la l.length ca] w fun e w' => e = .returned (.bool (fitB l)) ∧ Below w.heap.size w w' := by
  unfold maxLen at hl
  by_cases hr : 1 ≤ l.length ∧ l.length ≤ 7
  rotate_left
  · have HF : Hid (fitB l = false) := fitB_false fun h => hr ⟨h.pos, h.few⟩
    by_cases h0 : l.length < 1
    · have h0' : (l.length : Int) < 1 := by omega
      go_enter Tryz.func47, Tryz.ntmps47
      go_wp2
      go_ret
      exact ⟨by rw [HF.out]; rfl, Below.refl _ _⟩
    · have h0' : ¬ (l.length : Int) < 1 := by omega
      have h7' : (7 : Int) < (l.length : Int) := by omega
      go_enter Tryz.func47, Tryz.ntmps47
      go_wp2
      go_ret
      exact ⟨by rw [HF.out]; rfl, Below.refl _ _⟩
  obtain ⟨r1, r7⟩ := hr
  have h0' : ¬ (l.length : Int) < 1 := by omega
  have h7' : ¬ (7 : Int) < (l.length : Int) := by omega
  go_enter Tryz.func47, Tryz.ntmps47
  go_wp2_with fail
  go_loopw [3, 16] (fun lv iv wv => ∃ (i : Nat) (ls : Int), i ≤ l.length ∧ iv = .int .i64 i ∧ lv = .int .i64 ls ∧ Hid (ls = aheadP l i) ∧ Hid (OkT l i) ∧ Below w.heap.size w wv) (fun _ iv _ => l.length - (intOf iv).toNat)
  case atStart => exact ⟨0, _, Nat.zero_le _, rfl, rfl, rfl, OkT_zero l, Below.refl _ _⟩
  case round =>
    obtain ⟨i, ls, hi, rfl, rfl, HL, HO, hb⟩ := hrel
    by_cases hlt : i < l.length
    · have hlt' : (i : Int) < (l.length : Int) := by omega
      obtain ⟨b1, o1, e1, z1, a1, a2⟩ := (h1.below hb).one hlt
      subst e1
      have hno := not_good hlt
      have hok := OkT_succ hlt
      have hls := aheadP_succ hlt
      rw [← HL.out] at hno hok
      generalize l[i] = x at *
      obtain ⟨xk, xv⟩ := x
      simp only at a1 a2 hno hok hls
      have bA : Below w.heap.size w (wr.alloc (.cells #[.int .i64 xk, .int .i64 xv] 52)) := hb.alloc hb.size _
      have kS := Blk.new wr #[.int .i64 xk, .int .i64 xv] 52
      go_upto_region 7 with fail
      generalize wr.alloc (.cells #[.int .i64 xk, .int .i64 xv] 52) = wA at *
      have y0 := (kS.cell 0).trans rfl
      have y1 := (kS.cell 1).trans rfl
      have zs := kS.lt
      go_wp2_with fail
      refine (mayBe_any xk xv wA).mono ?_
      rintro e w1 ⟨rfl, b1⟩
      have k1 := kS.below b1 kS.lt
      have s0 := (k1.cell 0).trans rfl
      have zs1 := k1.lt
      have hB1 := bA.trans (b1.mono bA.size)
      clear y0 y1
      by_cases hm : MayS (xk, xv)
      · rw [decide_eq_true hm]
        by_cases hle : xk ≤ ls
        · have HF : Hid (fitB l = false) := hno fun h => by have := h.2; omega
          clear hno hok hls HL HO hm
          go_wp2
          go_ret
          exact ⟨by rw [HF.out]; rfl, hB1⟩
        · have hd : decide (xk ≤ ls) = false := by simpa using hle
          have HO2 : Hid (OkT l (i + 1)) := hok.2 ⟨HO.out, hm, by omega⟩
          have HL2 : Hid (xk = aheadP l (i + 1)) := hls.symm
          clear hno hok hls HL HO hm
          go_wp2
          exact ⟨⟨i + 1, _, by omega, by go_num, rfl, HL2, HO2, hB1⟩, by simp [intOf]; omega⟩
      · rw [decide_eq_false hm]
        have HF : Hid (fitB l = false) := hno fun h => hm h.1
        clear hno hok hls HL HO hm
        go_wp2
        go_ret
        exact ⟨by rw [HF.out]; rfl, hB1⟩
    · have hge : ¬ (i : Int) < (l.length : Int) := by omega
      have HF : Hid (fitB l = true) := fitB_true ((good_iff l).2 ⟨⟨r1, r7⟩, by have := HO.out; rwa [show i = l.length by omega] at this⟩)
      clear HL HO
      go_wp2
      go_ret
      exact ⟨by rw [HF.out]; rfl, hb⟩

set_option maxHeartbeats 800000 in
theorem rfits_any (la : Option Addr) (ca : Nat) (l : List (Int × Int)) (w : World) (hl : l.length ≤ maxLen) (h1 : SeatsAt w la l) :
    Calls Tryz.prog 28 #[.slice la l.length ca] w fun e w' => e = .returned (.bool (fitB l)) ∧ Below w.heap.size w w' := by
  unfold maxLen at hl
  go_enter Tryz.func28, Tryz.ntmps28
  go_wp2_with fail
  go_loopw [3] (fun iv wv => ∃ (i : Nat), i ≤ l.length ∧ iv = .int .i64 i ∧ Hid (OkT l i) ∧ Below w.heap.size w wv) (fun iv _ => l.length - (intOf iv).toNat)
  case atStart => exact ⟨0, Nat.zero_le _, rfl, OkT_zero l, Below.refl _ _⟩
  case round =>
    obtain ⟨i, hi, rfl, HO, hb⟩ := hrel
    by_cases hlt : i < l.length
    · have hlt' : (i : Int) < (l.length : Int) := by omega
      have A : ∀ w', Below w.heap.size w w' → ∃ b o, la = some ⟨b, o, none⟩ ∧ b < w'.heap.size ∧ w'.cell? ⟨b, o + i * 2, none⟩ = some (.int .i64 l[i].1) ∧ w'.cell? ⟨b, o + i * 2 + 1, none⟩ = some (.int .i64 l[i].2) := fun w' hb => (h1.below hb).one hlt
      have hno := not_good hlt
      have hok := OkT_succ hlt
      have hpr := aheadP_pred hlt
      generalize l[i] = x at *
      obtain ⟨xk, xv⟩ := x
      simp only at hno hok
      obtain ⟨b1, o1, e1, z1, a1, a2⟩ := A _ hb
      subst e1
      try simp only at a1 a2
      go_upto_region 4 with fail
      go_wp2_with fail
      refine (rmay_any xk xv wr).mono ?_
      rintro e w1 ⟨rfl, b1'⟩
      have hB1 := hb.trans (b1'.mono hb.size)
      clear a1 a2 z1
      obtain ⟨b2, o2, e2, z1, a1, a2⟩ := A _ hB1
      injection e2 with e2
      injection e2 with e2 e3
      rw [← e2, ← e3] at a1 a2
      rw [← e2] at z1
      clear e2 e3 A
      by_cases hm : MayS (xk, xv)
      · rw [decide_eq_true hm]
        by_cases h0 : i = 0
        · have HO2 : Hid (OkT l (i + 1)) := hok.2 ⟨HO.out, hm, by unfold aheadP; rw [if_pos h0]; have := hm.1.1; omega⟩
          clear hno hok hpr HO hm a1 a2 hlt'
          subst h0
          go_upto_region 5 with fail
          go_quiet (fail)
          go_wp2
          exact ⟨⟨0 + 1, by omega, by go_num, HO2, below_drewN hB1 _⟩, by simp [intOf]; omega⟩
        · have hp := hpr (by omega)
          have h0' : (0 : Int) < (i : Int) := by omega
          have hj : i - 1 < l.length := by omega
          obtain ⟨b3, o3, e3, z3, c1, c2⟩ := (h1.below hB1).one hj
          injection e3 with e3
          injection e3 with e3 e4
          rw [← e3, ← e4] at c1 c2
          clear e3 e4 z3
          rw [hp] at hno hok
          generalize l[i - 1] = y at *
          obtain ⟨yk, yv⟩ := y
          obtain ⟨j, rfl⟩ : ∃ j, i = j + 1 := ⟨i - 1, by omega⟩
          simp only [Nat.add_sub_cancel] at c1 c2 hno hok
          have hsub : ((j + 1 : Nat) : Int) - 1 = (j : Int) := by omega
          by_cases hle : xk ≤ yk
          · have HF : Hid (fitB l = false) := hno fun h => by have := h.2; omega
            clear hno hok hpr HO hm hp
            go_upto_region 5 with fail
            go_quiet (fail)
            go_wp2
            go_ret
            exact ⟨by rw [HF.out]; rfl, below_drewN hB1 _⟩
          · have hd : decide (xk ≤ yk) = false := by simpa using hle
            have HO2 : Hid (OkT l (j + 1 + 1)) := hok.2 ⟨HO.out, hm, by omega⟩
            clear hno hok hpr HO hm hp
            go_upto_region 5 with fail
            go_quiet (fail)
            go_wp2
            exact ⟨⟨j + 1 + 1, by omega, by go_num, HO2, below_drewN hB1 _⟩, by simp [intOf]; omega⟩
      · rw [decide_eq_false hm]
        have HF : Hid (fitB l = false) := hno fun h => hm h.1
        clear hno hok hpr HO hm
        go_upto_region 5 with fail
        go_quiet (fail)
        go_wp2
        go_ret
        exact ⟨by rw [HF.out]; rfl, below_drewN hB1 _⟩
    · have hge : ¬ (i : Int) < (l.length : Int) := by omega
      have hgi := good_iff l
      have hO := HO.out
      rw [show i = l.length by omega] at hO
      by_cases h0 : 0 < l.length
      · have h0' : (0 : Int) < (l.length : Int) := by omega
        by_cases h7 : l.length ≤ 7
        · have h7' : (l.length : Int) ≤ 7 := by omega
          have HF : Hid (fitB l = true) := fitB_true (hgi.2 ⟨⟨h0, h7⟩, hO⟩)
          clear HO hO hgi
          go_wp2
          go_ret
          exact ⟨by rw [HF.out]; rfl, hb⟩
        · have h7' : ¬ (l.length : Int) ≤ 7 := by omega
          have h7d : decide ((l.length : Int) ≤ 7) = false := by simpa using h7'
          have HF : Hid (fitB l = false) := fitB_false fun h => h7 h.few
          clear HO hO hgi
          go_wp2
          go_ret
          exact ⟨by rw [HF.out]; rfl, hb⟩
      · have h0' : ¬ (0 : Int) < (l.length : Int) := by omega
        have h0d : decide ((0 : Int) < (l.length : Int)) = false := by simpa using h0'
        have HF : Hid (fitB l = false) := fitB_false fun h => by have := h.pos; omega
        clear HO hO hgi
        go_wp2
        go_ret
        exact ⟨by rw [HF.out]; rfl, hb⟩
end Go.Proofs.YtblnlfcfjbfhiaaGreat
