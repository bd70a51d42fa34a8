/- Votes in order, and what both make of them: no program. -/
import Derived.Test.YtimcddknoanghaaKAhead
import Derived.Test.YtimcddknoanghaaKRAhead
import Derived.Test.YtimcddknoanghaaKRBest
namespace Go.Proofs.Ytimcddknoanghaa
open Go.RowKit Go.Maps
set_option linter.unusedVariables false
set_option linter.unusedSimpArgs false

theorem sorted_ext {α : Type} {lt : α → α → Prop} (irr : ∀ a, ¬ lt a a) (tr : ∀ a b c, lt a b → lt b c → lt a c) : ∀ (l1 l2 : List α), l1.Pairwise lt → l2.Pairwise lt → (∀ x, x ∈ l1 ↔ x ∈ l2) → l1 = l2
  | [], [], _, _, _ => rfl
  | [], b :: u, _, _, h => absurd ((h b).2 (List.mem_cons_self)) (by simp)
  | a :: t, [], _, _, h => absurd ((h a).1 (List.mem_cons_self)) (by simp)
  | a :: t, b :: u, h1, h2, h => by
    obtain ⟨p1, p2⟩ := List.pairwise_cons.1 h1
    obtain ⟨q1, q2⟩ := List.pairwise_cons.1 h2
    have hab : a = b := by
      rcases List.mem_cons.1 ((h a).1 List.mem_cons_self) with e | e
      · exact e
      · rcases List.mem_cons.1 ((h b).2 List.mem_cons_self) with e2 | e2
        · exact e2.symm
        · exact absurd (tr _ _ _ (p1 b e2) (q1 a e)) (irr a)
    subst hab
    rw [sorted_ext irr tr t u p2 q2 (fun y => ⟨fun hy => by
      rcases List.mem_cons.1 ((h y).1 (List.mem_cons_of_mem _ hy)) with e | e
      · rw [e] at hy; exact absurd (p1 a hy) (irr a)
      · exact e, fun hy => by
      rcases List.mem_cons.1 ((h y).2 (List.mem_cons_of_mem _ hy)) with e | e
      · rw [e] at hy; exact absurd (q1 a hy) (irr a)
      · exact e⟩)]

/-- One stands ahead of another, as a proposition. -/
def aheadQ (a b : Vt) : Prop := a.r < b.r ∨ a.r = b.r ∧ (a.s < b.s ∨ a.s = b.s ∧ a.f < b.f)
theorem aheadV_iff (a b : Vt) : aheadV a b = true ↔ aheadQ a b := by
  unfold aheadV aheadQ
  by_cases h1 : a.r = b.r
  · by_cases h2 : a.s = b.s
    · simp [h1, h2]
    · simp [h1, h2]
  · simp [h1]
theorem aheadQ_irr (a : Vt) : ¬ aheadQ a a := by unfold aheadQ; omega
theorem aheadQ_tr (a b c : Vt) (h1 : aheadQ a b) (h2 : aheadQ b c) : aheadQ a c := by unfold aheadQ at *; omega
theorem aheadQ_tri (a b : Vt) : aheadQ a b ∨ (a.r = b.r ∧ a.s = b.s ∧ a.f = b.f) ∨ aheadQ b a := by unfold aheadQ; omega

/-- What both counts have: L in order, m as they came, the rounds. -/
structure Cnt (x : List (Int × Int)) (ht : Int) (m L : List Vt) (rs : List Int) : Prop where
  sort : L.Pairwise aheadQ
  same : ∀ v, v ∈ m ↔ v ∈ L
  plc : Plc m
  rsort : rs.Pairwise (· < ·)
  rmem : ∀ r, r ∈ rs ↔ ∃ v ∈ L, v.r = r
  ok : ∀ v ∈ L, v.h = ht ∧ hasP x v.f = true ∧ 0 ≤ v.s ∧ v.s ≤ 2 ∧ InN3 v.r v.s v.f

theorem mem_ofRS {L : List Vt} {r s : Int} {v : Vt} : v ∈ ofRS L r s ↔ v ∈ L ∧ v.r = r ∧ v.s = s := by
  unfold ofRS; rw [List.mem_filter]; simp
theorem mem_atP {m : List Vt} (hp : Plc m) {x : List (Int × Int)} {r s : Int} {v : Vt} : v ∈ atP m x r s ↔ v ∈ m ∧ v.r = r ∧ v.s = s ∧ ∃ z ∈ x, z.1 = v.f := by
  unfold atP
  rw [List.mem_filterMap]
  constructor
  · rintro ⟨z, hz, h⟩
    have hm : v ∈ m := List.mem_of_find?_eq_some h
    have := List.find?_some h
    simp only [Bool.and_eq_true, decide_eq_true_eq] at this
    exact ⟨hm, this.1.1, this.1.2, z, hz, this.2.symm⟩
  · rintro ⟨hm, h1, h2, z, hz, h3⟩
    exact ⟨z, hz, atPl_some hp hm ⟨h1, h2, h3.symm⟩⟩
theorem hasP_mem {x : List (Int × Int)} {f : Int} (h : hasP x f = true) : ∃ z ∈ x, z.1 = f := by
  unfold hasP at h
  simpa using h
theorem atP_eq {x : List (Int × Int)} {ht : Int} {m L : List Vt} {rs : List Int} (C : Cnt x ht m L rs) (hx : x.Pairwise fun a b => a.1 < b.1) (r s : Int) : atP m x r s = ofRS L r s := by
  refine sorted_ext (lt := fun a b : Vt => a.f < b.f) (fun a => by omega) (fun a b c h1 h2 => by omega) _ _ ?_ ?_ (fun v => ?_)
  · unfold atP
    rw [List.pairwise_filterMap]
    refine hx.imp (fun {a b} h p hp q hq => ?_)
    have h1 := List.find?_some hp
    have h2 := List.find?_some hq
    simp only [Bool.and_eq_true, decide_eq_true_eq] at h1 h2
    omega
  · unfold ofRS
    rw [List.pairwise_filter]
    refine C.sort.imp (fun {a b} h h1 h2 => ?_)
    simp only [Bool.and_eq_true, decide_eq_true_eq] at h1 h2
    unfold aheadQ at h
    omega
  · rw [mem_atP C.plc, mem_ofRS, C.same]
    exact ⟨fun h => ⟨h.1, h.2.1, h.2.2.1⟩, fun h => ⟨h.1, h.2.1, h.2.2, hasP_mem (C.ok v h.1).2.1⟩⟩
theorem rnd_eq {x : List (Int × Int)} {ht : Int} {m L : List Vt} {rs : List Int} (C : Cnt x ht m L rs) (hx : x.Pairwise fun a b => a.1 < b.1) (r : Int) : rndN m x r 3 = L.filter fun v => decide (v.r = r) := by
  refine sorted_ext aheadQ_irr aheadQ_tr _ _ ?_ (C.sort.filter _) (fun v => ?_)
  · have h : ∀ (s : Int), (atP m x r s).Pairwise aheadQ := fun s => by rw [atP_eq C hx]; exact C.sort.filter _
    simp only [rndN, List.nil_append]
    rw [List.pairwise_append, List.pairwise_append]
    refine ⟨⟨h _, h _, fun a ha b hb => ?_⟩, h _, fun a ha b hb => ?_⟩
    · rw [atP_eq C hx, mem_ofRS] at ha hb
      unfold aheadQ; omega
    · rw [List.mem_append, atP_eq C hx, atP_eq C hx, mem_ofRS, mem_ofRS] at ha
      rw [atP_eq C hx, mem_ofRS] at hb
      unfold aheadQ; omega
  · simp only [rndN, List.nil_append, List.mem_append, atP_eq C hx, mem_ofRS, List.mem_filter, decide_eq_true_eq]
    constructor
    · rintro ((h | h) | h)
      · exact ⟨h.1, h.2.1⟩
      · exact ⟨h.1, h.2.1⟩
      · exact ⟨h.1, h.2.1⟩
    · rintro ⟨h1, h2⟩
      have := (C.ok v h1).2.2
      have h3 : v.s = 0 ∨ v.s = 1 ∨ v.s = 2 := by omega
      rcases h3 with h3 | h3 | h3
      · exact .inl (.inl ⟨h1, h2, h3⟩)
      · exact .inl (.inr ⟨h1, h2, h3⟩)
      · exact .inr ⟨h1, h2, h3⟩
theorem flat_eq {x : List (Int × Int)} {ht : Int} {m L : List Vt} {rs : List Int} (C : Cnt x ht m L rs) : (rs.flatMap fun r => L.filter fun v => decide (v.r = r)) = L := by
  refine sorted_ext aheadQ_irr aheadQ_tr _ _ ?_ C.sort (fun v => ?_)
  · rw [List.pairwise_flatMap]
    refine ⟨fun r _ => C.sort.filter _, C.rsort.imp (fun {a b} h v hv u hu => ?_)⟩
    simp only [List.mem_filter, decide_eq_true_eq] at hv hu
    unfold aheadQ; omega
  · simp only [List.mem_flatMap, List.mem_filter, decide_eq_true_eq]
    exact ⟨fun ⟨_, _, h, _⟩ => h, fun h => ⟨v.r, (C.rmem _).2 ⟨v, h, rfl⟩, h, rfl⟩⟩
theorem votes_eq {x : List (Int × Int)} {ht : Int} {m L : List Vt} {rs : List Int} (C : Cnt x ht m L rs) (hx : x.Pairwise fun a b => a.1 < b.1) : votesP m x rs = L := by
  unfold votesP
  have : (fun r => rndN m x r 3) = fun r => L.filter fun v => decide (v.r = r) := funext fun r => rnd_eq C hx r
  rw [this, flat_eq C]

theorem find_const {β : Type} (p : Vt → Bool) (G : Int → Option β) (r : Int) : ∀ l : List Vt, (∀ v ∈ l, v.r = r) → l.findSome? (fun v => if p v = true then G v.r else none) = if l.any p = true then G r else none
  | [], _ => rfl
  | v :: t, h => by
    have ih := find_const p G r t (fun u hu => h u (List.mem_cons_of_mem _ hu))
    rw [List.findSome?_cons, ih, h v List.mem_cons_self]
    by_cases hp : p v = true
    · rw [if_pos hp, List.any_cons, hp]
      simp only [Bool.true_or, if_true]
      cases G r with
      | some c => rfl
      | none => simp
    · rw [if_neg hp, List.any_cons]
      simp only [Bool.not_eq_true] at hp
      rw [hp]; rfl
theorem leadC_nil (x : List (Int × Int)) (r s : Int) : leadC x [] r s = none := by
  unfold leadC leadO
  split <;> rfl
theorem find_flat {α β : Type} (f : α → List Vt) (g : Vt → Option β) : ∀ l : List α, (l.flatMap f).findSome? g = l.findSome? fun a => (f a).findSome? g
  | [] => rfl
  | a :: t => by
    rw [List.flatMap_cons, List.findSome?_append, find_flat f g t, List.findSome?_cons]
    cases (f a).findSome? g <;> rfl
theorem findSome_congr {α β : Type} {f g : α → Option β} : ∀ {l : List α}, (∀ a ∈ l, f a = g a) → l.findSome? f = l.findSome? g
  | [], _ => rfl
  | a :: t, h => by rw [List.findSome?_cons, List.findSome?_cons, h a List.mem_cons_self, findSome_congr (fun b hb => h b (List.mem_cons_of_mem _ hb))]
/-- The first decision: of both the same. -/
theorem closed_eq {x : List (Int × Int)} {ht : Int} {m L : List Vt} {rs : List Int} (C : Cnt x ht m L rs) (hx : x.Pairwise fun a b => a.1 < b.1) :
    rs.findSome? (fun r => forB (leadC x (atP m x r 2) r 2)) = L.findSome? fun v => if v.s = 2 then forB (leadC x (ofRS L v.r 2) v.r 2) else none := by
  have e1 : (L.findSome? fun v => if v.s = 2 then forB (leadC x (ofRS L v.r 2) v.r 2) else none) = (rs.flatMap fun r => L.filter fun v => decide (v.r = r)).findSome? fun v => if decide (v.s = 2) = true then (fun r => forB (leadC x (ofRS L r 2) r 2)) v.r else none := by
    rw [flat_eq C]; simp
  rw [e1, find_flat]
  refine findSome_congr fun r hr => ?_
  rw [find_const (fun v => decide (v.s = 2)) (fun r => forB (leadC x (ofRS L r 2) r 2)) r _ (fun v hv => by simpa using (List.mem_filter.1 hv).2), atP_eq C hx]
  split
  · rfl
  · rename_i h
    have : ofRS L r 2 = [] := by
      rw [List.eq_nil_iff_forall_not_mem]
      intro v hv
      rw [mem_ofRS] at hv
      exact h (List.any_eq_true.2 ⟨v, List.mem_filter.2 ⟨hv.1, by simp [hv.2.1]⟩, by simp [hv.2.2]⟩)
    rw [this, leadC_nil]; rfl
theorem rev_flat {α : Type} (f : α → List Vt) : ∀ l : List α, (l.flatMap f).reverse = l.reverse.flatMap fun a => (f a).reverse
  | [] => rfl
  | a :: t => by rw [List.flatMap_cons, List.reverse_append, rev_flat f t, List.reverse_cons, List.flatMap_append]; simp
/-- The last decision up to a round: of both the same. -/
theorem best_eq {x : List (Int × Int)} {ht : Int} {m L : List Vt} {rs : List Int} (C : Cnt x ht m L rs) (hx : x.Pairwise fun a b => a.1 < b.1) (rd : Int) :
    rs.reverse.findSome? (fun r => if rd < r then none else forB (leadC x (atP m x r 1) r 1)) = L.reverse.findSome? fun v => if v.s = 1 ∧ v.r ≤ rd then forB (leadC x (ofRS L v.r 1) v.r 1) else none := by
  have e1 : (L.reverse.findSome? fun v => if v.s = 1 ∧ v.r ≤ rd then forB (leadC x (ofRS L v.r 1) v.r 1) else none) = (rs.reverse.flatMap fun r => (L.filter fun v => decide (v.r = r)).reverse).findSome? fun v => if decide (v.s = 1) = true then (fun r => if rd < r then none else forB (leadC x (ofRS L r 1) r 1)) v.r else none := by
    rw [← rev_flat, flat_eq C]
    refine findSome_congr fun v _ => ?_
    by_cases h1 : v.s = 1
    · by_cases h2 : v.r ≤ rd
      · have h3 : ¬ rd < v.r := by omega
        simp [h1, h2, h3]
      · have h3 : rd < v.r := by omega
        simp [h1, h2, h3]
    · simp [h1]
  rw [e1, find_flat]
  refine findSome_congr fun r hr => ?_
  rw [find_const (fun v => decide (v.s = 1)) (fun r => if rd < r then none else forB (leadC x (ofRS L r 1) r 1)) r _ (fun v hv => by simpa using (List.mem_filter.1 (List.mem_reverse.1 hv)).2), atP_eq C hx]
  by_cases h : ((L.filter fun v => decide (v.r = r)).reverse.any fun v => decide (v.s = 1)) = true
  · rw [if_pos h]
  · rw [if_neg h]
    have : ofRS L r 1 = [] := by
      rw [List.eq_nil_iff_forall_not_mem]
      intro v hv
      rw [mem_ofRS] at hv
      exact h (List.any_eq_true.2 ⟨v, List.mem_reverse.2 (List.mem_filter.2 ⟨hv.1, by simp [hv.2.1]⟩), by simp [hv.2.2]⟩)
    rw [this, leadC_nil]
    split <;> rfl

theorem wtP_congr {x : List (Int × Int)} {N M : List Int} (h : ∀ f, f ∈ N ↔ f ∈ M) : wtP x N = wtP x M := by
  unfold wtP
  congr 1
  refine List.map_congr_left fun z _ => ?_
  by_cases hz : z.1 ∈ N
  · rw [if_pos hz, if_pos ((h _).1 hz)]
  · rw [if_neg hz, if_neg (fun q => hz ((h _).2 q))]
theorem mem_fromOn {L : List Vt} {r f : Int} : f ∈ fromOn L r ↔ ∃ v ∈ L, r ≤ v.r ∧ v.f = f := by
  unfold fromOn
  simp only [List.mem_map, List.mem_filter, decide_eq_true_eq, and_assoc]
theorem rahead_skip {x : List (Int × Int)} {L : List Vt} {rd r : Int} (hr : ¬ r ≤ rd) (hn : ¬ totP x < 3 * wtP x (fromOn L r)) : ∀ (l rest : List Vt), (∀ v ∈ l, v.r = r) → raheadGo x L rd (l ++ rest) = raheadGo x L rd rest
  | [], _, _ => rfl
  | v :: t, rest, h => by
    have hv := h v List.mem_cons_self
    rw [List.cons_append, raheadGo, hv, if_neg hr, if_neg hn]
    exact rahead_skip hr hn t rest (fun u hu => h u (List.mem_cons_of_mem _ hu))
theorem ahead_go {x : List (Int × Int)} {L : List Vt} {rd : Int} (V : Int → List Int) (hV : ∀ r f, f ∈ V r ↔ ∃ v ∈ L, v.r = r ∧ v.f = f) : ∀ (ds acc : List Int), ds.Pairwise (· > ·) → (∀ r ∈ ds, ∃ v ∈ L, v.r = r) → (∀ v ∈ L, v.r ∈ ds ∨ ∀ r ∈ ds, r < v.r) → (∀ f, f ∈ acc ↔ ∃ v ∈ L, v.r ∉ ds ∧ v.f = f) →
    aheadGo x V rd acc ds = raheadGo x L rd (ds.flatMap fun r => (L.filter fun v => decide (v.r = r)).reverse)
  | [], acc, _, _, _, _ => rfl
  | r :: t, acc, h1, h2, h3, h4 => by
    obtain ⟨p1, p2⟩ := List.pairwise_cons.1 h1
    obtain ⟨v0, hv0, e0⟩ := h2 r List.mem_cons_self
    have hT : ∀ v ∈ (L.filter fun v => decide (v.r = r)).reverse, v.r = r := fun v hv => by simpa using (List.mem_filter.1 (List.mem_reverse.1 hv)).2
    have hne : (L.filter fun v => decide (v.r = r)).reverse ≠ [] := by
      intro e
      have : v0 ∈ (L.filter fun v => decide (v.r = r)).reverse := List.mem_reverse.2 (List.mem_filter.2 ⟨hv0, by simp [e0]⟩)
      rw [e] at this; simp at this
    rw [List.flatMap_cons, aheadGo]
    have hmem : ∀ f, f ∈ othersP acc (V r) ↔ f ∈ fromOn L r := fun f => by
      rw [othersP_mem, h4, hV, mem_fromOn]
      constructor
      · rintro (⟨v, hv, hn, hf⟩ | ⟨v, hv, hn, hf⟩)
        · rcases h3 v hv with h | h
          · exact absurd h hn
          · exact ⟨v, hv, by have := h r List.mem_cons_self; omega, hf⟩
        · exact ⟨v, hv, by omega, hf⟩
      · rintro ⟨v, hv, hr, hf⟩
        by_cases e : v.r = r
        · exact .inr ⟨v, hv, e, hf⟩
        · refine .inl ⟨v, hv, fun hm => ?_, hf⟩
          rcases List.mem_cons.1 hm with q | q
          · exact e q
          · have := p1 _ q; omega
    have hw := wtP_congr (x := x) hmem
    rw [hw]
    obtain ⟨u, rest, hu⟩ := List.exists_cons_of_ne_nil hne
    have hur : u.r = r := hT u (by rw [hu]; exact List.mem_cons_self)
    by_cases hr : r ≤ rd
    · rw [if_pos hr, hu, List.cons_append, raheadGo, hur, if_pos hr]
    · rw [if_neg hr]
      by_cases hq : totP x < 3 * wtP x (fromOn L r)
      · rw [if_pos hq, hu, List.cons_append, raheadGo, hur, if_neg hr, if_pos hq]
      · rw [if_neg hq, rahead_skip hr hq _ _ hT]
        refine ahead_go V hV t _ p2 (fun q hq => h2 q (List.mem_cons_of_mem _ hq)) (fun v hv => ?_) (fun f => ?_)
        · rcases h3 v hv with h | h
          · rcases List.mem_cons.1 h with e | e
            · exact .inr fun q hq => by have := p1 q hq; omega
            · exact .inl e
          · exact .inr fun q hq => h q (List.mem_cons_of_mem _ hq)
        · rw [hmem, mem_fromOn]
          constructor
          · rintro ⟨v, hv, hr2, hf⟩
            exact ⟨v, hv, fun hm => by have := p1 _ hm; omega, hf⟩
          · rintro ⟨v, hv, hn, hf⟩
            rcases h3 v hv with h | h
            · rcases List.mem_cons.1 h with e | e
              · exact ⟨v, hv, by omega, hf⟩
              · exact absurd e hn
            · exact ⟨v, hv, by have := h r List.mem_cons_self; omega, hf⟩
/-- The round ahead: of both the same. -/
theorem ahead_eq {x : List (Int × Int)} {ht : Int} {m L : List Vt} {rs : List Int} (C : Cnt x ht m L rs) (hx : x.Pairwise fun a b => a.1 < b.1) (rd : Int) :
    aheadGo x (fun r => (rndN m x r 3).map Vt.f) rd [] rs.reverse = raheadGo x L rd L.reverse := by
  have e1 : L.reverse = rs.reverse.flatMap fun r => (L.filter fun v => decide (v.r = r)).reverse := by rw [← rev_flat, flat_eq C]
  rw [e1]
  refine ahead_go _ (fun r f => ?_) _ _ (List.pairwise_reverse.2 C.rsort) (fun r hr => (C.rmem r).1 (List.mem_reverse.1 hr)) (fun v hv => .inl (List.mem_reverse.2 ((C.rmem _).2 ⟨v, hv, rfl⟩))) (fun f => ?_)
  · rw [rnd_eq C hx]
    simp only [List.mem_map, List.mem_filter, decide_eq_true_eq, and_assoc]
  · constructor
    · intro h; simp at h
    · rintro ⟨v, hv, hn, _⟩
      exact absurd (List.mem_reverse.2 ((C.rmem _).2 ⟨v, hv, rfl⟩)) hn
end Go.Proofs.Ytimcddknoanghaa
