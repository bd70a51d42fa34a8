/- Benches that may be, of raw numbers. -/
import Derived.Test.YtimcddknoanghaaBCho
namespace Go.Proofs.Ytimcddknoanghaa
open Go.RowKit
set_option linter.unusedVariables false
set_option linter.unusedSimpArgs false

/-- Who rises. -/
def Rises (l : List (Int × Int)) : Prop := l.Pairwise fun a b => a.1 < b.1
/-- No two have one who. -/
def Apart (l : List (Int × Int)) : Prop := l.Pairwise fun a b => a.1 ≠ b.1
theorem insP_mem (s x : Int × Int) : ∀ l, x ∈ insP s l ↔ x = s ∨ x ∈ l
  | [] => by simp [insP]
  | y :: r => by
    unfold insP
    split
    · rw [List.mem_cons, insP_mem s x r, List.mem_cons]
      constructor
      · rintro (h | h | h)
        · exact .inr (.inl h)
        · exact .inl h
        · exact .inr (.inr h)
      · rintro (h | h | h)
        · exact .inr (.inl h)
        · exact .inl h
        · exact .inr (.inr h)
    · simp
theorem insP_rises (s : Int × Int) : ∀ l, Rises l → (∀ x ∈ l, x.1 ≠ s.1) → Rises (insP s l)
  | [], _, _ => by simp [insP, Rises]
  | y :: r, h, hn => by
    obtain ⟨h1, h2⟩ := List.pairwise_cons.1 h
    unfold insP
    split
    · rename_i hy
      refine List.pairwise_cons.2 ⟨fun z hz => ?_, insP_rises s r h2 fun x hx => hn x (by simp [hx])⟩
      rcases (insP_mem s z r).1 hz with rfl | hz
      · exact hy
      · exact h1 z hz
    · rename_i hy
      have hy2 : s.1 < y.1 := by have := hn y (by simp); omega
      refine List.pairwise_cons.2 ⟨fun z hz => ?_, h⟩
      rcases List.mem_cons.1 hz with rfl | hz
      · exact hy2
      · have := h1 z hz; omega
theorem cutP_sub (l : List (Int × Int)) (b : Nat) : (cutP l b).Sublist l := by
  unfold cutP
  conv => rhs; rw [← List.take_append_drop b l]
  refine List.Sublist.append (List.Sublist.refl _) ?_
  rw [← List.drop_drop]
  exact List.drop_sublist _ _
theorem cutP_apart {l : List (Int × Int)} {b : Nat} (h : Apart l) (hb : b < l.length) : ∀ x ∈ cutP l b, x.1 ≠ l[b].1 := by
  intro x hx
  have e : l = l.take b ++ l[b] :: l.drop (b + 1) := by rw [← List.drop_eq_getElem_cons hb, List.take_append_drop]
  unfold Apart at h
  have h' := h
  rw [e] at h'
  obtain ⟨_, h2, h3⟩ := List.pairwise_append.1 h'
  rcases List.mem_append.1 hx with hx | hx
  · exact h3 x hx _ List.mem_cons_self
  · exact fun e => (List.pairwise_cons.1 h2).1 x hx e.symm
theorem leftN_mem (l : List (Int × Int)) : ∀ n x, x ∈ leftN l n → x ∈ l.take n ∧ MayS x
  | 0, x, h => by simp [leftN] at h
  | n + 1, x, h => by
    unfold leftN at h
    rcases List.mem_append.1 h with h | h
    · have := leftN_mem l n x h
      exact ⟨List.Sublist.subset (List.take_sublist_take_left (Nat.le_succ n)) this.1, this.2⟩
    · split at h
      · rename_i hn
        split at h
        · rename_i hc
          simp only [List.mem_singleton] at h
          subst h
          refine ⟨?_, hc.2⟩
          rw [List.take_succ_eq_append_getElem hn]
          exact List.mem_append_right _ (List.mem_singleton.2 rfl)
        · simp at h
      · simp at h
theorem leftN_apart (l : List (Int × Int)) : ∀ n, Apart (leftN l n)
  | 0 => by simp [leftN, Apart]
  | n + 1 => by
    unfold leftN
    refine List.pairwise_append.2 ⟨leftN_apart l n, ?_, ?_⟩
    · split
      · split <;> simp
      · simp
    · intro x hx y hy
      split at hy
      · split at hy
        · rename_i hc
          simp only [List.mem_singleton] at hy
          subst hy
          exact hc.1 x (leftN_mem l n x hx).1
        · simp at hy
      · simp at hy
theorem choGo_good : ∀ (n : Nat) (out left : List (Int × Int)), Rises out → Apart left → (∀ x ∈ out, ∀ y ∈ left, x.1 ≠ y.1) → (∀ x ∈ out, MayS x) → (∀ x ∈ left, MayS x) →
    Rises (choGo n out left) ∧ (∀ x ∈ choGo n out left, MayS x) ∧ (choGo n out left).length ≤ out.length + n
  | 0, out, left, h1, h2, h3, h4, h5 => ⟨h1, h4, by simp [choGo]⟩
  | n + 1, out, left, h1, h2, h3, h4, h5 => by
    unfold choGo
    split
    · exact ⟨h1, h4, by omega⟩
    · rename_i hz
      have hpos : 0 < left.length := List.length_pos_iff.2 hz
      have hb : bestN left (left.length - 1) < left.length := by have := bestN_le left (left.length - 1); omega
      generalize bestN left (left.length - 1) = b at *
      have hg : left.getD b (0, 0) = left[b] := by simp [List.getD, hb]
      rw [hg]
      have hm := List.getElem_mem hb
      have hsub := (cutP_sub left b).subset
      have key := choGo_good n (insP left[b] out) (cutP left b) (insP_rises _ _ h1 fun x hx => h3 x hx _ hm) (h2.sublist (cutP_sub left b)) (fun x hx y hy => ?_) (fun x hx => ?_) (fun x hx => h5 x (hsub hx))
      · rw [insP_len] at key
        exact ⟨key.1, key.2.1, by omega⟩
      · rcases (insP_mem _ x out).1 hx with rfl | hx
        · exact fun e => cutP_apart h2 hb y hy e.symm
        · exact h3 x hx y (hsub hy)
      · rcases (insP_mem _ x out).1 hx with rfl | hx
        · exact h5 _ hm
        · exact h4 x hx

/-- A bench that may be. -/
structure GoodB (l : List (Int × Int)) : Prop where
  pos : 1 ≤ l.length
  few : l.length ≤ 7
  rises : Rises l
  may : ∀ x ∈ l, MayS x
theorem GoodB.w {l : List (Int × Int)} (h : GoodB l) : ∀ x ∈ l, 0 ≤ x.2 ∧ x.2 ≤ 1099511627775 := fun x hx => by have := (h.may x hx).2; omega
theorem choP_good (l : List (Int × Int)) (hz : choP l ≠ []) : GoodB (choP l) := by
  obtain ⟨h1, h2, h3⟩ := choGo_good 7 [] (leftN l l.length) (by simp [Rises]) (leftN_apart l _) (by simp) (by simp) (fun x hx => (leftN_mem l _ x hx).2)
  exact ⟨List.length_pos_iff.2 hz, by simp only [List.length_nil, Nat.zero_add] at h3; exact h3, h1, h2⟩
theorem good_one : GoodB [(1, 1)] := ⟨by simp, by simp, by simp [Rises], by simp [MayS]⟩

theorem pick_any (c n : Int) (w : World) (hc : -9223372036854775808 ≤ c ∧ c ≤ 9223372036854775807) (hn : 1 ≤ n ∧ n ≤ 9223372036854775807) :
    Calls Try.prog 12 #[.int .i64 c, .int .i64 n] w fun e w' => (∃ r, e = .returned (.int .i64 r) ∧ 0 ≤ r ∧ r < n) ∧ w = w' := by
  by_cases h : c < 0
  · have hq := Int.emod_nonneg (-(c + 1)) (show n ≠ 0 by omega)
    have hq2 := Int.emod_lt_of_pos (-(c + 1)) (show 0 < n by omega)
    go_enter Try.func12, Try.ntmps12
    go_wp2
    go_ret
    have e : -((c + 1).tmod n) = -(c + 1) % n := by rw [← Int.neg_tmod, Int.tmod_eq_emod_of_nonneg (by omega)]
    rw [← e] at hq hq2
    exact ⟨⟨_, rfl, hq, hq2⟩, rfl⟩
  · have hq := Int.emod_nonneg c (show n ≠ 0 by omega)
    have hq2 := Int.emod_lt_of_pos c (show 0 < n by omega)
    go_enter Try.func12, Try.ntmps12
    go_wp2
    go_ret
    exact ⟨⟨_, rfl, hq, hq2⟩, rfl⟩

theorem wrapI (n : Int) (h1 : -9223372036854775808 ≤ n) (h2 : n ≤ 9223372036854775807) : IntKind.i64.wrap n = n := by
  simp [IntKind.wrap, IntKind.min, IntKind.max, IntKind.signed, IntKind.bits]
  omega

set_option maxRecDepth 4000 in
set_option maxHeartbeats 1600000 in
theorem seated_any (la : Option Addr) (ca : Nat) (l : List (Int × Int)) (w : World) (hl : l.length ≤ maxLen) (hw : ∀ x ∈ l, (-9223372036854775808 ≤ x.1 ∧ x.1 ≤ 9223372036854775807) ∧ -9223372036854775808 ≤ x.2 ∧ x.2 ≤ 9223372036854775807) (h1 : SeatsAt w la l) :
    Calls Try.prog 4 #[.slice la l.length ca] w fun e w' => (∃ v x, e = .returned v ∧ GoodB x ∧ w'.ownsRow w.heap.size 53 2 v x.length (flatS x)) ∧ Below w.heap.size w w' := by
  unfold maxLen at hl
  go_enter Try.func4, Try.ntmps4
  go_wp2_with fail
  go_loopw [3, 4] (fun ov iv wv => ∃ (i : Nat) (out : List (Int × Int)), i ≤ l.length ∧ i ≤ 64 ∧ iv = .int .i64 i ∧ out.length = i ∧ wv.ownsRow w.heap.size 53 2 ov out.length (flatS out) ∧ Below w.heap.size w wv) (fun _ iv _ => l.length - (intOf iv).toNat)
  case atStart => exact ⟨0, [], Nat.zero_le _, Nat.zero_le _, rfl, rfl, World.ownsRow_nil _ _ _ _, Below.refl _ _⟩
  case round =>
    obtain ⟨i, out, hi, hi6, rfl, hol, hown, hb⟩ := hrel
    by_cases hgo : i < l.length ∧ i < 64
    · obtain ⟨hlt, h64⟩ := hgo
      have hlt' : (i : Int) < (l.length : Int) := by omega
      have h64' : (i : Int) < 64 := by omega
      have hx := hw _ (List.getElem_mem hlt)
      have A : ∀ w', Below w.heap.size w w' → ∃ b o, la = some ⟨b, o, none⟩ ∧ b < w'.heap.size ∧ w'.cell? ⟨b, o + i * 2, none⟩ = some (.int .i64 l[i].1) ∧ w'.cell? ⟨b, o + i * 2 + 1, none⟩ = some (.int .i64 l[i].2) := fun w' hb => (h1.below hb).one hlt
      generalize l[i] = x at *
      obtain ⟨xk, xv⟩ := x
      obtain ⟨b1, o1, e1, z1, a1, a2⟩ := A _ hb
      subst e1
      try simp only at a1 a2 hx
      obtain ⟨hx1, hx2⟩ := hx
      clear A h1 hw
      have hownD : wr.drew.ownsRow w.heap.size 53 2 u3 out.length (flatS out) := owns_keep hown ((Below.refl _ _).drew)
      go_upto_region 5 with fail
      go_region_law
        (first
        | (refine step_app_seats (by rfl) _ _ (by rfl) (by rfl) w.heap.size u3 out (by rfl) (by first | exact hownD.alloc _ | exact hown.alloc _) (some ⟨wr.heap.size, 0, none⟩) 1 [(1 + r1, 1 + r2)] 1 (by rfl) (by first | exact SeatsAt.blk (Blk.new _ _ _) | exact SeatsAt.blk (Blk.drew (Blk.new _ _ _))) (by omega) (by simp) (by have := hb.size; simp; omega) (by rfl) ?_
           intro v9 w9 ho9 hg9)
        | (go_simp
           with_reducible refine (pick_any xk 12 _ hx1 (by omega)).mono ?_
           rintro e w9 ⟨⟨r1, rfl, p1, p2⟩, rfl⟩
           have wr1 := wrapI (1 + r1) (by omega) (by omega))
        | (go_simp
           with_reducible refine (pick_any xv 40 _ hx2 (by omega)).mono ?_
           rintro e w9 ⟨⟨r2, rfl, q1, q2⟩, rfl⟩
           have wr2 := wrapI (1 + r2) (by omega) (by omega)))
      all_goals
        have b9 : Below w.heap.size w w9 := by
          first
          | exact (hb.alloc hb.size _).grown hg9 (by have := hb.size; simp; omega) (fun k e => (hown.lt k e).1)
          | exact (hb.drew.alloc hb.size _).grown hg9 (by have := hb.size; simp; omega) (fun k e => (hown.lt k e).1)
          | exact (hb.drew.drew.alloc hb.size _).grown hg9 (by have := hb.size; simp; omega) (fun k e => (hown.lt k e).1)
        simp only [Act.put, List.getElem_toArray, List.getElem_cons_succ, List.getElem_cons_zero, List.setIfInBounds_toArray, List.set_cons_zero, List.set_cons_succ]
        clear wr1 wr2 hg9 hownD hown
        go_wp2
        exact ⟨⟨i + 1, out ++ [(1 + r1, 1 + r2)], by omega, by omega, by go_num, by simp; omega, ho9, b9⟩, by simp [intOf]; omega⟩
    · by_cases hlt : i < l.length
      · have hlt' : (i : Int) < (l.length : Int) := by omega
        have h64' : ¬ (i : Int) < 64 := by omega
        have h64d : decide ((i : Int) < 64) = false := by simpa using h64'
        clear hgo h1 hw
        go_wp2_with fail
        obtain ⟨oa, oc, rfl, hso⟩ := SeatsAt.of_owns hown
        refine (rchoose_any oa oc out wr (by omega) hso).mono ?_
        rintro e w1 ⟨⟨v, rfl, ho1⟩, b1⟩
        obtain ⟨va, vc, rfl, _⟩ := SeatsAt.of_owns ho1
        have hB1 := hb.trans (b1.mono hb.size)
        have hz := choP_good out
        have ho2 := owns_base ho1 hb.size
        clear ho1 hown hso
        generalize choP out = x at *
        by_cases hx : x = []
        · subst hx
          clear hz ho2
          go_wp2
          go_ret
          refine ⟨⟨_, [(1, 1)], rfl, good_one, ?_⟩, hB1.alloc hB1.size _⟩
          exact ⟨by simp [flatS], .inr ⟨w1.heap.size, 1, _, rfl, hB1.size, Blk.new _ _ _, Nat.le_refl _, by decide, rfl, rfl⟩⟩
        · have hg := hz hx
          have hp := hg.pos
          have hp' : ((x.length : Int) == 0) = false := by simp; omega
          clear hz hx
          go_wp2
          go_ret
          exact ⟨⟨_, x, rfl, hg, ho2⟩, hB1⟩
      · have hlt' : ¬ (i : Int) < (l.length : Int) := by omega
        clear hgo h1 hw
        go_wp2_with fail
        obtain ⟨oa, oc, rfl, hso⟩ := SeatsAt.of_owns hown
        refine (rchoose_any oa oc out wr (by omega) hso).mono ?_
        rintro e w1 ⟨⟨v, rfl, ho1⟩, b1⟩
        obtain ⟨va, vc, rfl, _⟩ := SeatsAt.of_owns ho1
        have hB1 := hb.trans (b1.mono hb.size)
        have hz := choP_good out
        have ho2 := owns_base ho1 hb.size
        clear ho1 hown hso
        generalize choP out = x at *
        by_cases hx : x = []
        · subst hx
          clear hz ho2
          go_wp2
          go_ret
          refine ⟨⟨_, [(1, 1)], rfl, good_one, ?_⟩, hB1.alloc hB1.size _⟩
          exact ⟨by simp [flatS], .inr ⟨w1.heap.size, 1, _, rfl, hB1.size, Blk.new _ _ _, Nat.le_refl _, by decide, rfl, rfl⟩⟩
        · have hg := hz hx
          have hp := hg.pos
          have hp' : ((x.length : Int) == 0) = false := by simp; omega
          clear hz hx
          go_wp2
          go_ret
          exact ⟨⟨_, x, rfl, hg, ho2⟩, hB1⟩
end Go.Proofs.Ytimcddknoanghaa
