/- The last decision for a block at the first stage, up to a round: the answer's. -/
import Derived.Test.YtimcddknoanghaaKFor
namespace Go.Proofs.Ytimcddknoanghaa
open Go.RowKit Go.Maps
set_option linter.unusedVariables false
set_option linter.unusedSimpArgs false

theorem findSome_back {α β : Type} (g : α → Option β) (l : List α) {k : Nat} (hk : k < l.length) (h : ∀ y ∈ l.drop (k + 1), g y = none) {c : β} (hp : g l[k] = some c) : l.reverse.findSome? g = some c := by
  have e : l = l.take k ++ l[k] :: l.drop (k + 1) := by rw [← List.drop_eq_getElem_cons hk, List.take_append_drop]
  generalize l[k] = z at *
  rw [e, List.reverse_append, List.reverse_cons, List.findSome?_append, List.findSome?_append, List.findSome?_eq_none_iff.2 (fun y hy => h y (List.mem_reverse.1 hy))]
  simp [List.findSome?_cons, hp]
theorem none_back {α β : Type} {g : α → Option β} {l : List α} {k : Nat} (hk : k < l.length) (h : ∀ y ∈ l.drop (k + 1), g y = none) (hp : g l[k] = none) : ∀ y ∈ l.drop k, g y = none := by
  intro y hy
  rw [List.drop_eq_getElem_cons hk] at hy
  rcases List.mem_cons.1 hy with hy | hy
  · rw [hy]; exact hp
  · exact h y hy

set_option maxRecDepth 8000 in
set_option maxHeartbeats 3200000 in
theorem rbest_any (rb : Nat) (ht rd : Int) (la : Option Addr) (lc : Nat) (L : List Vt) (G : Int → Option Ct) (w : World) (hcb : rb < w.heap.size) (h3 : w.cell? ⟨rb, 2, none⟩ = some (.slice la L.length lc)) (hR : VotesAt w la L) (hL : L.length ≤ 100000)
    (HC : ∀ v ∈ L, v.s = 1 → ∀ w', Below w.heap.size w w' → Calls Try.prog 14 #[.pointer (some ⟨rb, 0, none⟩), .int .i64 v.r, .int .i64 1] w' fun e w'' => CertE w'.heap.size ht (G v.r) e w'' ∧ Below w'.heap.size w' w'') :
    Calls Try.prog 20 #[.pointer (some ⟨rb, 0, none⟩), .int .i64 rd] w fun e w' => CertE w.heap.size ht (L.reverse.findSome? fun v => if v.s = 1 ∧ v.r ≤ rd then forB (G v.r) else none) e w' ∧ Below w.heap.size w w' := by
  obtain ⟨F, hF⟩ : ∃ F : Vt → Option Ct, F = fun v => if v.s = 1 ∧ v.r ≤ rd then forB (G v.r) else none := ⟨_, rfl⟩
  rw [← hF]
  have HFv := show Hid (_ = _) from hF
  clear hF
  have kR := Blk.new w #[.int .i64 0, .int .i64 0, .int .i64 0, .bool false, .int .u64 0, .slice none 0 0] 42
  have bR : Below w.heap.size w (w.alloc (.cells #[.int .i64 0, .int .i64 0, .int .i64 0, .bool false, .int .u64 0, .slice none 0 0] 42)) := (Below.refl _ _).alloc (Nat.le_refl _) _
  have hzw : w.heap.size < (w.alloc (.cells #[.int .i64 0, .int .i64 0, .int .i64 0, .bool false, .int .u64 0, .slice none 0 0] 42)).heap.size := by rw [World.size_alloc]; omega
  have hd3 := (bR.cell (p := ⟨rb, 2, none⟩) hcb).trans h3
  have hdz := Nat.lt_of_lt_of_le hcb bR.size
  go_enter Try.func20, Try.ntmps20
  go_wp2_with fail
  generalize (w.alloc (.cells #[.int .i64 0, .int .i64 0, .int .i64 0, .bool false, .int .u64 0, .slice none 0 0] 42)) = w1 at *
  clear hd3 hdz
  go_loopw [6] (fun iv wv => ∃ k : Nat, k ≤ L.length ∧ iv = .int .i64 ((k : Int) - 1) ∧ Hid (∀ y ∈ L.drop k, F y = none) ∧ Below w1.heap.size w1 wv) (fun iv _ => (intOf iv + 1).toNat)
  case atStart => exact ⟨L.length, Nat.le_refl _, rfl, by intro y hy; simp at hy, Below.refl _ _⟩
  case round =>
    obtain ⟨k, hk, rfl, HF, hb⟩ := hrel
    have hB := bR.trans (hb.mono bR.size)
    have kb := kR.below hb kR.lt
    have g2 := (hB.cell (p := ⟨rb, 2, none⟩) hcb).trans h3
    have zg := Nat.lt_of_lt_of_le hcb hB.size
    cases k with
    | succ i =>
      have hlt : i < L.length := by omega
      have hji : ((i + 1 : Nat) : Int) - 1 = (i : Int) := by omega
      rw [hji]
      clear hji
      have hlt' : (i : Int) < (L.length : Int) := by omega
      have h0i : (0 : Int) ≤ (i : Int) := by omega
      obtain ⟨b1, o1, e1, z1, c0, c1, c2, c3, c4, c5⟩ := (hR.below hB).one hlt
      subst e1
      have HFS := show Hid (∀ c, F L[i] = some c → L.reverse.findSome? F = some c) from fun c hc => findSome_back F L hlt HF.out hc
      have HFN := show Hid (F L[i] = none → ∀ y ∈ L.drop i, F y = none) from fun hc => none_back hlt HF.out hc
      have HC1 := HC _ (List.getElem_mem hlt)
      generalize L[i] = y at *
      obtain ⟨yh, yr, ys, yhas, ybl, yf⟩ := y
      simp only at c0 c1 c2 c3 c4 c5 HC1
      clear HC c0 c3 c4 c5 hk
      by_cases hs : ys = 1 ∧ yr ≤ rd
      rotate_left
      · have HN := show Hid _ from HFN.out (by rw [HFv.out]; exact if_neg hs)
        clear HC1 HFS HFN HF
        by_cases h1 : ys = 1
        · have m1 : (ys == 1) = true := by simpa using h1
          have m2 : ¬ yr ≤ rd := fun h => hs ⟨h1, h⟩
          clear hs h1
          go_wp2
          exact ⟨⟨i, by omega, by go_num, HN, hb⟩, by simp [intOf]⟩
        · have m1 : (ys == 1) = false := by simpa using h1
          clear hs h1
          go_wp2
          exact ⟨⟨i, by omega, by go_num, HN, hb⟩, by simp [intOf]⟩
      · have HFE := show Hid (F ⟨yh, yr, ys, yhas, ybl, yf⟩ = forB (G yr)) from by show _ = _; rw [HFv.out]; exact if_pos hs
        have m1 : (ys == 1) = true := by simpa using hs.1
        have m2 : yr ≤ rd := hs.2
        have HC2 := HC1 hs.1 _ hB
        clear HC1 hs
        go_wp2_with fail
        refine HC2.mono ?_
        rintro e w2 ⟨h2, b2⟩
        have hb2 := hb.trans (b2.mono hb.size)
        have hB2 := bR.trans (hb2.mono bR.size)
        obtain ⟨o, ho⟩ : ∃ o, G yr = o := ⟨_, rfl⟩
        rw [ho] at h2 HFE
        cases o with
        | none =>
          have h2 : e = .returned (.tuple #[.agg #[.int .i64 0, .int .i64 0, .int .i64 0, .bool false, .int .u64 0, .slice none 0 0], .bool false]) := h2
          subst h2
          have HN := show Hid _ from HFN.out HFE.out
          have hb3 := hb2.alloc hb2.size (.cells #[.int .i64 0, .int .i64 0, .int .i64 0, .bool false, .int .u64 0, .slice none 0 0] 42)
          clear HC2 HFS HFN HF ho HFE HFv
          go_wp2
          exact ⟨⟨i, by omega, by go_num, HN, hb3⟩, by simp [intOf]⟩
        | some c =>
          obtain ⟨cr, cs, ch, cbl, cfr⟩ := c
          obtain ⟨fa, fc, rfl, hI, hfr⟩ := h2
          simp only at hI ⊢
          have k1 := (kR.below hb2 kR.lt).alloc (.cells #[.int .i64 ht, .int .i64 cr, .int .i64 cs, .bool ch, .int .u64 cbl, .slice fa cfr.length fc] 42)
          have kX := Blk.new w2 #[.int .i64 ht, .int .i64 cr, .int .i64 cs, .bool ch, .int .u64 cbl, .slice fa cfr.length fc] 42
          have B2 := hB2.alloc hB2.size (.cells #[.int .i64 ht, .int .i64 cr, .int .i64 cs, .bool ch, .int .u64 cbl, .slice fa cfr.length fc] 42)
          have hb3 := hb2.alloc hb2.size (.cells #[.int .i64 ht, .int .i64 cr, .int .i64 cs, .bool ch, .int .u64 cbl, .slice fa cfr.length fc] 42)
          have hI2 := hI.below ((Below.refl w2.heap.size w2).alloc (Nat.le_refl _) (.cells #[.int .i64 ht, .int .i64 cr, .int .i64 cs, .bool ch, .int .u64 cbl, .slice fa cfr.length fc] 42))
          have hfr2 : ∀ a, fa = some a → w.heap.size < a.block := fun a ha => by have := hfr a ha; have := hb.size; omega
          cases ch with
          | false =>
            have HN := show Hid _ from HFN.out HFE.out
            clear HC2 HFS HFN HF ho HFE HFv hfr
            go_wp2
            exact ⟨⟨i, by omega, by go_num, HN, hb3⟩, by simp [intOf]⟩
          | true =>
            have HR := show Hid _ from HFS.out _ HFE.out
            have y0 := (k1.cell 0).trans rfl
            have y1 := (k1.cell 1).trans rfl
            have y2 := (k1.cell 2).trans rfl
            have y3 := (k1.cell 3).trans rfl
            have y4 := (k1.cell 4).trans rfl
            have y5 := (k1.cell 5).trans rfl
            have q0 := k1.frozen 0
            have q1 := k1.frozen 1
            have q2 := k1.frozen 2
            have q3 := k1.frozen 3
            have q4 := k1.frozen 4
            have q5 := k1.frozen 5
            have zb := k1.lt
            clear HC2 HFS HFN HF ho hfr HFE HFv
            have hfr := hfr2
            clear hfr2
            go_wp2
            refine bodyPost_ret (v := .tuple #[.agg #[.int .i64 ht, .int .i64 cr, .int .i64 cs, .bool true, .int .u64 cbl, .slice fa cfr.length fc], .bool true]) (by simp [results, Try.results20, go_sem, y0, y1, y2, y3, y4, y5]) rfl ?_
            rw [HR.out]
            exact ⟨⟨fa, fc, rfl, ints_six hI2 (fun a ha => by have := hfr a ha; omega) _ _ _ _ _ _, fun a ha => by have := hfr a ha; omega⟩, bel_six0 B2 (Nat.le_refl _) _ _ _ _ _ _⟩
    | zero =>
      have HR := show Hid (L.reverse.findSome? F = none) from List.findSome?_eq_none_iff.2 (fun y hy => HF.out y (by rw [List.drop_zero]; exact List.mem_reverse.1 hy))
      clear HF HC
      have y0 := (kb.cell 0).trans rfl
      have y1 := (kb.cell 1).trans rfl
      have y2 := (kb.cell 2).trans rfl
      have y3 := (kb.cell 3).trans rfl
      have y4 := (kb.cell 4).trans rfl
      have y5 := (kb.cell 5).trans rfl
      have q0 := kb.frozen 0
      have q1 := kb.frozen 1
      have q2 := kb.frozen 2
      have q3 := kb.frozen 3
      have q4 := kb.frozen 4
      have q5 := kb.frozen 5
      have zb := kb.lt
      go_wp2
      refine bodyPost_ret (v := .tuple #[.agg #[.int .i64 0, .int .i64 0, .int .i64 0, .bool false, .int .u64 0, .slice none 0 0], .bool false]) (by simp [results, Try.results20, go_sem, y0, y1, y2, y3, y4, y5]) rfl ?_
      rw [HR.out]
      exact ⟨rfl, bel_six0 hB (Nat.le_refl _) _ _ _ _ _ _⟩
end Go.Proofs.Ytimcddknoanghaa
