/- One vote more, in both counts: no program. -/
import Derived.Test.YtimcddknoanghaaKPure
import Derived.Test.YtimcddknoanghaaKIns
namespace Go.Proofs.Ytimcddknoanghaa
open Go.RowKit Go.Maps
set_option linter.unusedVariables false
set_option linter.unusedSimpArgs false

theorem take_drop_mem {L : List Vt} {k : Nat} {u : Vt} (hu : u ∈ L) : u ∈ L.take k ∨ u ∈ L.drop k := by
  rw [← List.take_append_drop k L] at hu
  exact List.mem_append.1 hu
/-- What comes from the place on stands behind what is to be put there. -/
theorem behind {L : List Vt} {k : Nat} {v : Vt} (hs : L.Pairwise aheadQ) (h2 : ∀ y, L[k]? = some y → aheadV y v = false) (h3 : ∀ y, L[k]? = some y → ¬ (y.r = v.r ∧ y.s = v.s ∧ y.f = v.f)) : ∀ u ∈ L.drop k, aheadQ v u := by
  intro u hu
  have hs' : (L.drop k).Pairwise aheadQ := hs.drop
  cases hd : L.drop k with
  | nil => rw [hd] at hu; cases hu
  | cons y t =>
    have hk : L[k]? = some y := by
      have := List.getElem?_drop (xs := L) (i := k) (j := 0)
      rw [hd] at this
      simpa using this.symm
    have hvy : aheadQ v y := by
      rcases aheadQ_tri y v with h | h | h
      · have := h2 y hk
        rw [(aheadV_iff y v).2 h] at this
        cases this
      · exact absurd h (h3 y hk)
      · exact h
    rw [hd] at hu hs'
    rcases List.mem_cons.1 hu with e | e
    · rw [e]; exact hvy
    · exact aheadQ_tr _ _ _ hvy ((List.pairwise_cons.1 hs').1 u e)
theorem step_same {x : List (Int × Int)} {ht : Int} {m L : List Vt} {rs : List Int} (C : Cnt x ht m L rs) {k : Nat} {v y : Vt} (hy : L[k]? = some y) (hp : y.r = v.r ∧ y.s = v.s ∧ y.f = v.f) : atPl m v.r v.s v.f = some y :=
  atPl_some C.plc ((C.same y).2 (List.mem_of_getElem? hy)) hp
theorem step_none {x : List (Int × Int)} {ht : Int} {m L : List Vt} {rs : List Int} (C : Cnt x ht m L rs) {k : Nat} {v : Vt} (h1 : ∀ y ∈ L.take k, aheadV y v = true) (h2 : ∀ y, L[k]? = some y → aheadV y v = false) (h3 : ∀ y, L[k]? = some y → ¬ (y.r = v.r ∧ y.s = v.s ∧ y.f = v.f)) : atPl m v.r v.s v.f = none := by
  refine atPl_none fun u hu q => ?_
  rcases take_drop_mem (k := k) ((C.same u).1 hu) with h | h
  · have := (aheadV_iff u v).1 (h1 u h)
    unfold aheadQ at this; omega
  · have := behind C.sort h2 h3 u h
    unfold aheadQ at this; omega

theorem countP_take {rs : List Int} (hs : rs.Pairwise (· < ·)) (r : Int) : (∀ z ∈ rs.take (rs.countP (· < r)), z < r) ∧ (∀ z ∈ rs.drop (rs.countP (· < r)), r ≤ z) := by
  induction rs with
  | nil => simp
  | cons a t ih =>
    obtain ⟨p1, p2⟩ := List.pairwise_cons.1 hs
    by_cases h : a < r
    · rw [List.countP_cons_of_pos (by simpa using h), List.take_succ_cons, List.drop_succ_cons]
      refine ⟨fun z hz => ?_, (ih p2).2⟩
      rcases List.mem_cons.1 hz with e | e
      · rw [e]; exact h
      · exact (ih p2).1 z e
    · have h0 : t.countP (fun z => decide (z < r)) = 0 := by
        rw [List.countP_eq_zero]
        intro z hz
        have := p1 z hz
        simp; omega
      rw [List.countP_cons_of_neg (by simpa using h), h0]
      refine ⟨fun z hz => by simp at hz, fun z hz => ?_⟩
      rw [List.drop_zero] at hz
      rcases List.mem_cons.1 hz with e | e
      · omega
      · have := p1 z e; omega
/-- One vote more. -/
theorem step_cnt {x : List (Int × Int)} {ht : Int} {m L : List Vt} {rs : List Int} (C : Cnt x ht m L rs) {k : Nat} {v : Vt} (h1 : ∀ y ∈ L.take k, aheadV y v = true) (h2 : ∀ y, L[k]? = some y → aheadV y v = false) (h3 : ∀ y, L[k]? = some y → ¬ (y.r = v.r ∧ y.s = v.s ∧ y.f = v.f))
    (hv : v.h = ht ∧ hasP x v.f = true ∧ 0 ≤ v.s ∧ v.s ≤ 2 ∧ InN3 v.r v.s v.f) :
    Cnt x ht (m ++ [v]) (L.take k ++ v :: L.drop k) (if rs.contains v.r = true then rs else insAt rs (rs.countP (· < v.r)) v.r) := by
  have hmem : ∀ u, u ∈ L.take k ++ v :: L.drop k ↔ u ∈ L ∨ u = v := fun u => by
    rw [List.mem_append, List.mem_cons]
    constructor
    · rintro (h | h | h)
      · exact .inl (List.mem_of_mem_take h)
      · exact .inr h
      · exact .inl (List.mem_of_mem_drop h)
    · rintro (h | h)
      · rcases take_drop_mem (k := k) h with q | q
        · exact .inl q
        · exact .inr (.inr q)
      · exact .inr (.inl h)
  have hb := behind C.sort h2 h3
  have hr : ∀ r, r ∈ (if rs.contains v.r = true then rs else insAt rs (rs.countP (· < v.r)) v.r) ↔ r ∈ rs ∨ r = v.r := fun r => by
    split
    · rename_i h
      have hvr : v.r ∈ rs := by simpa using h
      exact ⟨Or.inl, fun q => q.elim id (fun e => by rw [e]; exact hvr)⟩
    · unfold insAt
      rw [List.mem_append, List.mem_cons]
      constructor
      · rintro (h | h | h)
        · exact .inl (List.mem_of_mem_take h)
        · exact .inr h
        · exact .inl (List.mem_of_mem_drop h)
      · rintro (h | h)
        · rw [← List.take_append_drop (rs.countP (· < v.r)) rs] at h
          rcases List.mem_append.1 h with q | q
          · exact .inl q
          · exact .inr (.inr q)
        · exact .inr (.inl h)
  refine ⟨?_, ?_, ?_, ?_, ?_, ?_⟩
  · rw [List.pairwise_append, List.pairwise_cons]
    refine ⟨C.sort.take, ⟨hb, C.sort.drop⟩, fun a ha b hb2 => ?_⟩
    rcases List.mem_cons.1 hb2 with e | e
    · rw [e]; exact (aheadV_iff a v).1 (h1 a ha)
    · exact aheadQ_tr _ _ _ ((aheadV_iff a v).1 (h1 a ha)) (hb b e)
  · intro u
    rw [hmem, List.mem_append, List.mem_singleton, C.same]
  · refine List.pairwise_append.2 ⟨C.plc, by simp, fun a ha b hb2 => ?_⟩
    rw [List.mem_singleton.1 hb2]
    exact atPl_none_iff.1 (step_none C h1 h2 h3) a ha
  · split
    · exact C.rsort
    · rename_i h
      have hvr : v.r ∉ rs := by simpa using h
      obtain ⟨c1, c2⟩ := countP_take C.rsort v.r
      unfold insAt
      rw [List.pairwise_append, List.pairwise_cons]
      have hd : ∀ z ∈ rs.drop (rs.countP (· < v.r)), v.r < z := fun z hz => by
        have h1 := c2 z hz
        have h2 : z ≠ v.r := fun e => hvr (by rw [← e]; exact List.mem_of_mem_drop hz)
        omega
      refine ⟨C.rsort.take, ⟨hd, C.rsort.drop⟩, fun a ha b hb2 => ?_⟩
      rcases List.mem_cons.1 hb2 with e | e
      · rw [e]; exact c1 a ha
      · have := c1 a ha; have := hd b e; omega
  · intro r
    rw [hr, C.rmem]
    constructor
    · rintro (⟨u, hu, e⟩ | e)
      · exact ⟨u, (hmem u).2 (.inl hu), e⟩
      · exact ⟨v, (hmem v).2 (.inr rfl), e.symm⟩
    · rintro ⟨u, hu, e⟩
      rcases (hmem u).1 hu with q | q
      · exact .inl ⟨u, q, e⟩
      · exact .inr (by rw [← e, q])
  · intro u hu
    rcases (hmem u).1 hu with q | q
    · exact C.ok u q
    · rw [q]; exact hv
theorem cnt_nil (x : List (Int × Int)) (ht : Int) : Cnt x ht [] [] [] :=
  ⟨List.Pairwise.nil, fun _ => Iff.rfl, List.Pairwise.nil, List.Pairwise.nil, fun r => by simp, fun v hv => by cases hv⟩
end Go.Proofs.Ytimcddknoanghaa
