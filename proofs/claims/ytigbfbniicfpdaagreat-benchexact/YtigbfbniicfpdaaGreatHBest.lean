/- Who is kept is who is chosen: no program. -/
import Derived.Test.YtigbfbniicfpdaaGreatHPure
import Derived.Test.YtigbfbniicfpdaaGreatHChoose
import Derived.Test.YtigbfbniicfpdaaGreatBSeat
namespace Go.Proofs.YtigbfbniicfpdaaGreat
open Go.RowKit
set_option linter.unusedVariables false
set_option linter.unusedSimpArgs false

theorem at2_mem {l : List (Int × Int)} {i : Nat} (h : i < l.length) : at2 l i ∈ l := by rw [at2_get h]; exact List.getElem_mem h
theorem mem_at2 {l : List (Int × Int)} {x : Int × Int} (h : x ∈ l) : ∃ i, i < l.length ∧ at2 l i = x := by
  obtain ⟨i, hi, e⟩ := List.getElem_of_mem h
  exact ⟨i, hi, by rw [at2_get hi]; exact e⟩
theorem apart_perm {a b : List (Int × Int)} (h : a.Perm b) (ha : Apart a) : Apart b := (h.pairwise_iff (fun e => fun q => e q.symm)).1 ha
theorem apart_cons {x : Int × Int} {l : List (Int × Int)} : Apart (x :: l) ↔ (∀ y ∈ l, x.1 ≠ y.1) ∧ Apart l := List.pairwise_cons
theorem apart_nodup {l : List (Int × Int)} (h : Apart l) : l.Nodup := List.Pairwise.imp (fun h e => h (by rw [e])) h
theorem apart_left {a b : List (Int × Int)} (h : Apart (a ++ b)) : Apart a := (List.pairwise_append.1 h).1
theorem pigeon : ∀ (a b : List (Int × Int)), a.Nodup → (∀ x ∈ a, x ∈ b) → b.length ≤ a.length → ∀ x ∈ b, x ∈ a
  | [], b, _, _, hl, x, hx => by
    have : b = [] := List.length_eq_zero_iff.1 (by simpa using hl)
    rw [this] at hx; exact hx
  | y :: a, b, hn, hs, hl, x, hx => by
    obtain ⟨h1, h2⟩ := List.nodup_cons.1 hn
    have hy : y ∈ b := hs y List.mem_cons_self
    by_cases e : x = y
    · rw [e]; exact List.mem_cons_self
    · refine List.mem_cons_of_mem _ (pigeon a (b.erase y) h2 (fun z hz => ?_) ?_ x ((List.mem_erase_of_ne e).2 hx))
      · exact (List.mem_erase_of_ne (fun q => h1 (by rw [← q]; exact hz))).2 (hs z (List.mem_cons_of_mem _ hz))
      · rw [List.length_erase_of_mem hy]; simp only [List.length_cons] at hl; omega
/-- m is the best seven of L. -/
structure BestOf (L m : List (Int × Int)) : Prop where
  split : ∃ r, L.Perm (m ++ r) ∧ ∀ x ∈ r, ∀ y ∈ m, lessP x y = true
  len : m.length = min 7 L.length
theorem best_sub {L m1 m2 : List (Int × Int)} (hL : Apart L) (h1 : BestOf L m1) (h2 : BestOf L m2) : ∀ x ∈ m1, x ∈ m2 := by
  obtain ⟨r1, p1, b1⟩ := h1.split
  obtain ⟨r2, p2, b2⟩ := h2.split
  intro x hx
  refine Classical.byContradiction fun hn => ?_
  have hxL : x ∈ L := p1.mem_iff.2 (List.mem_append_left _ hx)
  have hxr : x ∈ r2 := (List.mem_append.1 (p2.mem_iff.1 hxL)).resolve_left hn
  by_cases hall : ∀ y ∈ m2, y ∈ m1
  · exact hn (pigeon m2 m1 (apart_nodup (apart_left (apart_perm p2 hL))) hall (by rw [h1.len, h2.len]; exact Nat.le_refl _) x hx)
  · obtain ⟨y, hy⟩ := Classical.not_forall.1 hall
    obtain ⟨hy2, hy1⟩ := Classical.not_imp.1 hy
    have hyL : y ∈ L := p2.mem_iff.2 (List.mem_append_left _ hy2)
    have hyr : y ∈ r1 := (List.mem_append.1 (p1.mem_iff.1 hyL)).resolve_left hy1
    have q1 := b1 y hyr x hx
    have q2 := b2 x hxr y hy2
    rw [less_asymm q1] at q2
    cases q2
theorem rises_same : ∀ (a b : List (Int × Int)), Rises a → Rises b → (∀ x, x ∈ a ↔ x ∈ b) → a = b
  | [], [], _, _, _ => rfl
  | [], y :: b, _, _, h => by have := (h y).2 List.mem_cons_self; simp at this
  | x :: a, [], _, _, h => by have := (h x).1 List.mem_cons_self; simp at this
  | x :: a, y :: b, ha, hb, h => by
    obtain ⟨a1, a2⟩ := List.pairwise_cons.1 ha
    obtain ⟨b1, b2⟩ := List.pairwise_cons.1 hb
    have e : x = y := by
      rcases List.mem_cons.1 ((h x).1 List.mem_cons_self) with q | q
      · exact q
      · rcases List.mem_cons.1 ((h y).2 List.mem_cons_self) with q' | q'
        · exact q'.symm
        · have := a1 y q'; have := b1 x q; omega
    subst e
    rw [rises_same a b a2 b2 fun z => ⟨fun hz => ?_, fun hz => ?_⟩]
    · rcases List.mem_cons.1 ((h z).1 (List.mem_cons_of_mem _ hz)) with q | q
      · subst q; have := a1 z hz; omega
      · exact q
    · rcases List.mem_cons.1 ((h z).2 (List.mem_cons_of_mem _ hz)) with q | q
      · subst q; have := b1 z hz; omega
      · exact q

/-- What is kept, under way. -/
structure KeptOf (L m : List (Int × Int)) : Prop where
  split : ∃ r, L.Perm (m ++ r) ∧ (∀ x ∈ r, ∀ y ∈ m, lessP x y = true) ∧ (r ≠ [] → m.length = 7)
  few : m.length ≤ 7
  heap : Heap m m.length
theorem KeptOf.best {L m : List (Int × Int)} (h : KeptOf L m) : BestOf L m := by
  obtain ⟨r, p, b, q⟩ := h.split
  refine ⟨⟨r, p, b⟩, ?_⟩
  have := p.length_eq
  have hf := h.few
  rw [List.length_append] at this
  by_cases hr : r = []
  · subst hr; simp at this; omega
  · have := q hr; omega
theorem KeptOf.keep {L m : List (Int × Int)} (h : KeptOf L m) (x : Int × Int) (hA : Apart (L ++ [x])) : KeptOf (L ++ [x]) (keepP m x) := by
  obtain ⟨r, p, b, q⟩ := h.split
  have hf := h.few
  obtain ⟨k1, k2⟩ := push_heap x h.heap
  have hpl : (upP (m ++ [x]) m.length).length = m.length + 1 := by rw [upP_len]; simp
  have hLx : (L ++ [x]).Perm ((x :: m) ++ r) := (List.perm_append_singleton x L).trans (p.cons x)
  unfold keepP
  split
  · rename_i h7
    have hm7 : m.length = 7 := by omega
    obtain ⟨d1, d2⟩ := pop_heap hpl (by omega) k1
    have htop := heap_top k1
    have hdl : ((downP (swapL (upP (m ++ [x]) m.length) 0 m.length) 0 m.length).take m.length).length = 7 := by
      have := d2.length_eq
      rw [hpl] at this
      simp only [List.length_cons] at this
      omega
    generalize (downP (swapL (upP (m ++ [x]) m.length) 0 m.length) 0 m.length).take m.length = n at *
    generalize upP (m ++ [x]) m.length = P at *
    have hPA : Apart (x :: m) := apart_left (apart_perm hLx hA)
    have hPA2 : Apart (at2 P 0 :: n) := apart_perm (k2.symm.trans d2) hPA
    generalize at2 P 0 = t at *
    have hy : ∀ y ∈ n, lessP t y = true := fun y hy => by
      obtain ⟨i, hi, e⟩ := mem_at2 (d2.mem_iff.2 (List.mem_cons_of_mem _ hy))
      have := htop i (by omega)
      rw [e] at this
      exact less_total ((apart_cons.1 hPA2).1 y hy).symm this
    have htm : t ∈ x :: m := k2.mem_iff.1 (d2.mem_iff.2 List.mem_cons_self)
    refine ⟨⟨t :: r, ?_, ?_, fun _ => hdl⟩, by omega, by rw [hdl, ← hm7]; exact d1⟩
    · refine hLx.trans (((k2.symm.trans d2).append_right r).trans ?_)
      exact List.perm_middle.symm
    · intro z hz y hyn
      rcases List.mem_cons.1 hz with rfl | hz
      · exact hy y hyn
      · have hyx : y ∈ x :: m := k2.mem_iff.1 (d2.mem_iff.2 (List.mem_cons_of_mem _ hyn))
        rcases List.mem_cons.1 hyx with e | e
        · have htm2 : t ∈ m := by
            rcases List.mem_cons.1 htm with e2 | e2
            · exact absurd (by rw [e, e2]) ((apart_cons.1 hPA2).1 y hyn)
            · exact e2
          exact less_trans (b z hz t htm2) (hy y hyn)
        · exact b z hz y e
  · rename_i h7
    have hr : r = [] := Classical.byContradiction fun hr => by have := q hr; omega
    subst hr
    refine ⟨⟨[], ?_, by simp, by simp⟩, by omega, by rw [hpl]; exact k1⟩
    rw [List.append_nil] at hLx ⊢
    exact hLx.trans k2.symm
theorem kept_fold : ∀ (M L m : List (Int × Int)), KeptOf L m → Apart (L ++ M) → KeptOf (L ++ M) (M.foldl keepP m)
  | [], L, m, h, _ => by simpa using h
  | x :: M, L, m, h, hA => by
    have e : L ++ x :: M = (L ++ [x]) ++ M := by simp
    rw [e] at hA ⊢
    exact kept_fold M (L ++ [x]) (keepP m x) (h.keep x (apart_left hA)) hA
theorem keptN_best (l : List (Int × Int)) (n : Nat) : BestOf (leftN l n) (keptN l n) := by
  have := kept_fold (leftN l n) [] [] ⟨⟨[], by simp, by simp, by simp⟩, by simp, fun k h1 h2 => by simp at h2⟩ (by simpa using leftN_apart l n)
  rw [List.nil_append] at this
  exact this.best

theorem better_less (a b : Int × Int) : better a b = lessP b a := by
  have h := less_iff b a
  unfold better
  cases hl : lessP b a with
  | true => have := h.1 hl; simp only [Bool.or_eq_true, Bool.and_eq_true, decide_eq_true_eq]; omega
  | false =>
    have := (nless_iff b a).1 hl
    simp only [Bool.or_eq_false_iff, Bool.and_eq_false_iff, decide_eq_false_iff_not]; omega
theorem bestN_top (l : List (Int × Int)) : ∀ n k, k ≤ n → lessP (at2 l (bestN l n)) (at2 l k) = false
  | 0, k, h => by
    have : k = 0 := by omega
    subst this; exact less_irrefl _
  | n + 1, k, h => by
    unfold bestN
    have ih := bestN_top l n
    change lessP (at2 l (if better (at2 l (n + 1)) (at2 l (bestN l n)) = true then n + 1 else bestN l n)) (at2 l k) = false
    rw [better_less]
    split
    · rename_i hb
      by_cases e : k = n + 1
      · subst e; exact less_irrefl _
      · exact nless_trans (ih k (by omega)) (less_asymm hb)
    · rename_i hb
      by_cases e : k = n + 1
      · subst e; exact Bool.eq_false_iff.2 hb
      · exact ih k (by omega)
theorem cutP_perm {l : List (Int × Int)} {b : Nat} (h : b < l.length) : l.Perm (l[b] :: cutP l b) := by
  unfold cutP
  have e : l = l.take b ++ l[b] :: l.drop (b + 1) := by rw [← List.drop_eq_getElem_cons h, List.take_append_drop]
  exact (List.Perm.of_eq e).trans List.perm_middle
theorem insP_perm (s : Int × Int) : ∀ l, (insP s l).Perm (s :: l)
  | [] => List.Perm.refl _
  | y :: r => by
    unfold insP
    split
    · exact ((insP_perm s r).cons y).trans (List.Perm.swap _ _ _)
    · exact List.Perm.refl _
theorem choGo_best : ∀ (n : Nat) (out left : List (Int × Int)), Apart (out ++ left) → (∀ x ∈ left, ∀ y ∈ out, lessP x y = true) →
    ∃ r, (out ++ left).Perm (choGo n out left ++ r) ∧ (∀ x ∈ r, ∀ y ∈ choGo n out left, lessP x y = true) ∧ (choGo n out left).length = out.length + min n left.length
  | 0, out, left, hA, hb => ⟨left, List.Perm.refl _, hb, by simp [choGo]⟩
  | n + 1, out, left, hA, hb => by
    unfold choGo
    split
    · rename_i hz; subst hz; exact ⟨[], List.Perm.refl _, by simp, by simp⟩
    · rename_i hz
      have hpos : 0 < left.length := List.length_pos_iff.2 hz
      have hlt : bestN left (left.length - 1) < left.length := by have := bestN_le left (left.length - 1); omega
      have htop := bestN_top left (left.length - 1)
      generalize bestN left (left.length - 1) = b at *
      have hg : left.getD b (0, 0) = left[b] := by simp [List.getD, hlt]
      rw [hg]
      rw [show at2 left b = left[b] from at2_get hlt] at htop
      have hc := cutP_perm hlt
      have hcl := cutP_len hlt
      have hm : left[b] ∈ left := List.getElem_mem hlt
      generalize left[b] = t at *
      generalize cutP left b = C at *
      have hp : (out ++ left).Perm (insP t out ++ C) := by
        refine (hc.append_left out).trans (List.perm_middle.trans ?_)
        exact ((insP_perm t out).symm).append_right C
      have hA2 : Apart (t :: C) := by
        refine apart_perm hc ?_
        exact (List.pairwise_append.1 hA).2.1
      obtain ⟨r, k1, k2, k3⟩ := choGo_best n (insP t out) C (apart_perm hp hA) (fun x hx y hy => by
        rcases (insP_mem t y out).1 hy with e | e
        · subst e
          have hxl : x ∈ left := hc.mem_iff.2 (List.mem_cons_of_mem _ hx)
          obtain ⟨i, hi, e⟩ := mem_at2 hxl
          have := htop i (by omega)
          rw [e] at this
          exact less_total ((apart_cons.1 hA2).1 x hx) this
        · exact hb x (hc.mem_iff.2 (List.mem_cons_of_mem _ hx)) y e)
      refine ⟨r, hp.trans k1, k2, ?_⟩
      rw [k3, insP_len]; omega
theorem choP_best (l : List (Int × Int)) : BestOf (leftN l l.length) (choP l) := by
  obtain ⟨r, k1, k2, k3⟩ := choGo_best 7 [] (leftN l l.length) (by simpa using leftN_apart l l.length) (by simp)
  exact ⟨⟨r, by rw [List.nil_append] at k1; exact k1, k2⟩, by simpa [choP] using k3⟩

/-- Put by who, but perhaps the one at j. -/
def SrtBut (l : List (Int × Int)) (n j : Nat) : Prop := (∀ a b, a < b → b < n → a ≠ j → b ≠ j → (at2 l a).1 ≤ (at2 l b).1) ∧ ∀ b, j < b → b < n → (at2 l j).1 ≤ (at2 l b).1
def Srt (l : List (Int × Int)) (n : Nat) : Prop := ∀ a b, a < b → b < n → (at2 l a).1 ≤ (at2 l b).1
theorem sink_srt (n : Nat) : ∀ (j : Nat) (l : List (Int × Int)), j < n → n ≤ l.length → SrtBut l n j → Srt (sinkP l j) n ∧ (sinkP l j).Perm l
  | 0, l, hj, hn, h => by
    refine ⟨fun a b h1 h2 => ?_, List.Perm.refl _⟩
    by_cases e : a = 0
    · subst e; exact h.2 b h1 h2
    · exact h.1 a b h1 h2 e (by omega)
  | i + 1, l, hj, hn, h => by
    unfold sinkP
    have hi : i < l.length := by omega
    have hi1 : i + 1 < l.length := by omega
    split
    · rename_i hl
      have sw := at2_swap hi1 hi
      have hsl : (swapL l (i + 1) i).length = l.length := swapL_len _ _ _
      obtain ⟨k1, k2⟩ := sink_srt n i (swapL l (i + 1) i) (by omega) (by rw [hsl]; exact hn) ⟨fun a b h1 h2 h3 h4 => by
        rw [sw a, sw b, if_neg h3, if_neg h4]
        by_cases hb : b = i + 1
        · rw [if_pos hb, if_neg (by omega)]; exact h.1 a i (by omega) (by omega) (by omega) (by omega)
        · rw [if_neg hb]
          by_cases ha : a = i + 1
          · rw [if_pos ha]; exact h.1 i b (by omega) h2 (by omega) hb
          · rw [if_neg ha]; exact h.1 a b h1 h2 ha hb, fun b h1 h2 => by
        rw [sw i, sw b, if_pos rfl, if_neg (by omega)]
        by_cases hb : b = i + 1
        · rw [if_pos hb]; omega
        · rw [if_neg hb]; exact h.2 b (by omega) h2⟩
      exact ⟨k1, k2.trans (swap_perm hi1 hi)⟩
    · rename_i hl
      refine ⟨fun a b h1 h2 => ?_, List.Perm.refl _⟩
      by_cases ha : a = i + 1
      · subst ha; exact h.2 b h1 h2
      · by_cases hb : b = i + 1
        · subst hb
          by_cases e : a = i
          · subst e; omega
          · have := h.1 a i (by omega) (by omega) (by omega) (by omega); omega
        · exact h.1 a b h1 h2 ha hb
theorem srtP_srt : ∀ (d i : Nat) (l : List (Int × Int)), l.length - i = d → i ≤ l.length → Srt l i → Srt (srtP l i) l.length ∧ (srtP l i).Perm l
  | 0, i, l, hd, hi, h => by
    rw [srtP_end (by omega)]
    have : i = l.length := by omega
    subst this
    exact ⟨h, List.Perm.refl _⟩
  | d + 1, i, l, hd, hi, h => by
    rw [srtP_go (by omega)]
    obtain ⟨k1, k2⟩ := sink_srt (i + 1) i l (by omega) (by omega) ⟨fun a b h1 h2 h3 h4 => h a b h1 (by omega), fun b h1 h2 => by omega⟩
    have hl := sinkP_len i l
    obtain ⟨q1, q2⟩ := srtP_srt d (i + 1) (sinkP l i) (by omega) (by omega) k1
    rw [hl] at q1
    exact ⟨q1, q2.trans k2⟩
theorem srt_rises {l : List (Int × Int)} (h : Srt l l.length) (hA : Apart l) : Rises l := by
  unfold Rises
  rw [List.pairwise_iff_getElem]
  intro i j hi hj hij
  have h1 := h i j hij hj
  rw [at2_get hi, at2_get hj] at h1
  have h2 := (List.pairwise_iff_getElem.1 hA) i j hi hj hij
  omega
theorem kept_cho (l : List (Int × Int)) : srtP (keptN l l.length) 1 = choP l := by
  have hL := leftN_apart l l.length
  have b1 := keptN_best l l.length
  have b2 := choP_best l
  have hcr : Rises (choP l) := (choGo_good 7 [] (leftN l l.length) (by simp [Rises]) (leftN_apart l _) (by simp) (by simp) (fun x hx => (leftN_mem l _ x hx).2)).1
  obtain ⟨r1, p1, _⟩ := b1.split
  have hAk : Apart (keptN l l.length) := apart_left (apart_perm p1 hL)
  by_cases hz : (keptN l l.length).length = 0
  · have e := List.length_eq_zero_iff.1 hz
    have h2 := b2.len
    rw [← b1.len, hz] at h2
    rw [List.length_eq_zero_iff.1 h2, e, srtP_end (by simp)]
  · obtain ⟨s1, s2⟩ := srtP_srt _ 1 (keptN l l.length) rfl (by omega) (fun a b h1 h2 => by omega)
    have hA2 := apart_perm s2.symm hAk
    rw [← s2.length_eq] at s1
    refine rises_same _ _ (srt_rises s1 hA2) hcr fun x => ?_
    rw [s2.mem_iff]
    exact ⟨best_sub hL b1 b2 x, best_sub hL b2 b1 x⟩
end Go.Proofs.YtigbfbniicfpdaaGreat
