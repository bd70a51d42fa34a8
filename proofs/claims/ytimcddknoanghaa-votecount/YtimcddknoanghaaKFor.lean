/- What a quorum voted for, if it is for a block; the first decision for a block, of both. -/
import Derived.Test.YtimcddknoanghaaKRLead
namespace Go.Proofs.Ytimcddknoanghaa
open Go.RowKit Go.Maps
set_option linter.unusedVariables false
set_option linter.unusedSimpArgs false

/-- It, if it is for a block. -/
def forB (o : Option Ct) : Option Ct := match o with | some c => if c.has = true then some c else none | none => none

set_option maxRecDepth 8000 in
set_option maxHeartbeats 3200000 in
theorem leadFor_any (cb : Nat) (ht r s : Int) (o : Option Ct) (w : World) (HC : ∀ w', Below w.heap.size w w' → Calls Try.prog 13 #[.pointer (some ⟨cb, 0, none⟩), .int .i64 r, .int .i64 s] w' fun e w'' => CertE w'.heap.size ht o e w'' ∧ Below w'.heap.size w' w'') :
    Calls Try.prog 31 #[.pointer (some ⟨cb, 0, none⟩), .int .i64 r, .int .i64 s] w fun e w' => CertE w.heap.size ht (forB o) e w' ∧ Below w.heap.size w w' := by
  have kR := Blk.new w #[.int .i64 0, .int .i64 0, .int .i64 0, .bool false, .int .u64 0, .slice none 0 0] 42
  have bR : Below w.heap.size w (w.alloc (.cells #[.int .i64 0, .int .i64 0, .int .i64 0, .bool false, .int .u64 0, .slice none 0 0] 42)) := (Below.refl _ _).alloc (Nat.le_refl _) _
  have HC1 := HC _ bR
  clear HC
  go_enter Try.func31, Try.ntmps31
  cases o with
  | none =>
    go_wp2_with fail
    refine HC1.mono ?_
    rintro e w1 ⟨h1, b1⟩
    have h1 : e = .returned (.tuple #[.agg #[.int .i64 0, .int .i64 0, .int .i64 0, .bool false, .int .u64 0, .slice none 0 0], .bool false]) := h1
    subst h1
    have k1 := (kR.below b1 kR.lt).alloc (.cells #[.int .i64 0, .int .i64 0, .int .i64 0, .bool false, .int .u64 0, .slice none 0 0] 42)
    have B1 := bR.trans (b1.mono bR.size)
    have B2 := B1.alloc B1.size (.cells #[.int .i64 0, .int .i64 0, .int .i64 0, .bool false, .int .u64 0, .slice none 0 0] 42)
    have y0 := (k1.cell 0).trans rfl
    have y1 := (k1.cell 1).trans rfl
    have y2 := (k1.cell 2).trans rfl
    have y3 := (k1.cell 3).trans rfl
    have y4 := (k1.cell 4).trans rfl
    have y5 := (k1.cell 5).trans rfl
    have q0 := k1.frozen 0
    have q1 := k1.frozen 1
    have q2 := k1.frozen 2
    have q3 := k1.frozen 3
    have q4 := k1.frozen 4
    have q5 := k1.frozen 5
    have zb := k1.lt
    clear HC1 kR
    go_wp2
    refine bodyPost_ret (v := .tuple #[.agg #[.int .i64 0, .int .i64 0, .int .i64 0, .bool false, .int .u64 0, .slice none 0 0], .bool false]) (by simp [results, Try.results31, go_sem, y0, y1, y2, y3, y4, y5]) rfl ?_
    exact ⟨rfl, bel_six0 B2 (Nat.le_refl _) _ _ _ _ _ _⟩
  | some c =>
    obtain ⟨cr, cs, ch, cbl, cfr⟩ := c
    go_wp2_with fail
    refine HC1.mono ?_
    rintro e w1 ⟨⟨fa, fc, rfl, hI, hfr⟩, b1⟩
    simp only at hI ⊢
    have k1 := (kR.below b1 kR.lt).alloc (.cells #[.int .i64 ht, .int .i64 cr, .int .i64 cs, .bool ch, .int .u64 cbl, .slice fa cfr.length fc] 42)
    have kX := Blk.new w1 #[.int .i64 ht, .int .i64 cr, .int .i64 cs, .bool ch, .int .u64 cbl, .slice fa cfr.length fc] 42
    have B1 := bR.trans (b1.mono bR.size)
    have B2 := B1.alloc B1.size (.cells #[.int .i64 ht, .int .i64 cr, .int .i64 cs, .bool ch, .int .u64 cbl, .slice fa cfr.length fc] 42)
    have hI2 := hI.below ((Below.refl w1.heap.size w1).alloc (Nat.le_refl _) (.cells #[.int .i64 ht, .int .i64 cr, .int .i64 cs, .bool ch, .int .u64 cbl, .slice fa cfr.length fc] 42))
    have y0 := (k1.cell 0).trans rfl
    have y1 := (k1.cell 1).trans rfl
    have y2 := (k1.cell 2).trans rfl
    have y3 := (k1.cell 3).trans rfl
    have y4 := (k1.cell 4).trans rfl
    have y5 := (k1.cell 5).trans rfl
    have q0 := k1.frozen 0
    have q1 := k1.frozen 1
    have q2 := k1.frozen 2
    have q3 := k1.frozen 3
    have q4 := k1.frozen 4
    have q5 := k1.frozen 5
    have zb := k1.lt
    clear HC1 kR
    cases ch with
    | false =>
      go_wp2
      refine bodyPost_ret (v := .tuple #[.agg #[.int .i64 0, .int .i64 0, .int .i64 0, .bool false, .int .u64 0, .slice none 0 0], .bool false]) (by simp [results, Try.results31, go_sem, y0, y1, y2, y3, y4, y5]) rfl ?_
      exact ⟨rfl, bel_six0 B2 (Nat.le_refl _) _ _ _ _ _ _⟩
    | true =>
      go_wp2
      refine bodyPost_ret (v := .tuple #[.agg #[.int .i64 ht, .int .i64 cr, .int .i64 cs, .bool true, .int .u64 cbl, .slice fa cfr.length fc], .bool true]) (by simp [results, Try.results31, go_sem, y0, y1, y2, y3, y4, y5]) rfl ?_
      exact ⟨⟨fa, fc, rfl, ints_six hI2 (fun a ha => by have := hfr a ha; rw [World.size_alloc] at this; omega) _ _ _ _ _ _, fun a ha => by have := hfr a ha; rw [World.size_alloc] at this; omega⟩, bel_six0 B2 (Nat.le_refl _) _ _ _ _ _ _⟩

theorem findSome_take {α β : Type} (g : α → Option β) (l : List α) {i : Nat} (hi : i < l.length) (h : ∀ y ∈ l.take i, g y = none) {c : β} (hp : g l[i] = some c) : l.findSome? g = some c := by
  have e : l = l.take i ++ l[i] :: l.drop (i + 1) := by rw [← List.drop_eq_getElem_cons hi, List.take_append_drop]
  generalize l[i] = z at *
  rw [e, List.findSome?_append, List.findSome?_eq_none_iff.2 h, List.findSome?_cons, hp]
  rfl
theorem none_take {α β : Type} {g : α → Option β} {l : List α} {i : Nat} (hi : i < l.length) (h : ∀ y ∈ l.take i, g y = none) (hp : g l[i] = none) : ∀ y ∈ l.take (i + 1), g y = none := by
  intro y hy
  rw [List.take_succ_eq_append_getElem hi] at hy
  rcases List.mem_append.1 hy with hy | hy
  · exact h y hy
  · rw [List.mem_singleton.1 hy]; exact hp
theorem none_all {α β : Type} {g : α → Option β} {l : List α} {i : Nat} (hi : i = l.length) (h : ∀ y ∈ l.take i, g y = none) : l.findSome? g = none := by
  rw [List.findSome?_eq_none_iff]
  intro y hy
  exact h y (by rw [hi, List.take_length]; exact hy)

set_option maxRecDepth 8000 in
set_option maxHeartbeats 3200000 in
theorem closed_any (cb : Nat) (ht : Int) (ra : Option Addr) (rc : Nat) (rs : List Int) (G : Int → Option Ct) (w : World) (hcb : cb < w.heap.size) (h3 : w.cell? ⟨cb, 3, none⟩ = some (.slice ra rs.length rc)) (hR : IntsAt w ra rs) (hrs : rs.length ≤ 512)
    (HC : ∀ r ∈ rs, ∀ w', Below w.heap.size w w' → Calls Try.prog 31 #[.pointer (some ⟨cb, 0, none⟩), .int .i64 r, .int .i64 2] w' fun e w'' => CertE w'.heap.size ht (G r) e w'' ∧ Below w'.heap.size w' w'') :
    Calls Try.prog 9 #[.pointer (some ⟨cb, 0, none⟩)] w fun e w' => CertE w.heap.size ht (rs.findSome? G) e w' ∧ Below w.heap.size w w' := by
  have kR := Blk.new w #[.int .i64 0, .int .i64 0, .int .i64 0, .bool false, .int .u64 0, .slice none 0 0] 42
  have bR : Below w.heap.size w (w.alloc (.cells #[.int .i64 0, .int .i64 0, .int .i64 0, .bool false, .int .u64 0, .slice none 0 0] 42)) := (Below.refl _ _).alloc (Nat.le_refl _) _
  have hzw : w.heap.size < (w.alloc (.cells #[.int .i64 0, .int .i64 0, .int .i64 0, .bool false, .int .u64 0, .slice none 0 0] 42)).heap.size := by rw [World.size_alloc]; omega
  have hd3 := (bR.cell (p := ⟨cb, 3, none⟩) hcb).trans h3
  have hdz := Nat.lt_of_lt_of_le hcb bR.size
  go_enter Try.func9, Try.ntmps9
  go_wp2_with fail
  generalize (w.alloc (.cells #[.int .i64 0, .int .i64 0, .int .i64 0, .bool false, .int .u64 0, .slice none 0 0] 42)) = w1 at *
  clear hd3
  go_loopw [13] (fun iv wv => ∃ i : Nat, i ≤ rs.length ∧ iv = .int .i64 i ∧ Hid (∀ y ∈ rs.take i, G y = none) ∧ Below w1.heap.size w1 wv) (fun iv _ => rs.length - (intOf iv).toNat)
  case atStart => exact ⟨0, Nat.zero_le _, rfl, by intro y hy; simp at hy, Below.refl _ _⟩
  case round =>
    obtain ⟨i, hi, rfl, HF, hb⟩ := hrel
    have hB := bR.trans (hb.mono bR.size)
    have kb := kR.below hb kR.lt
    by_cases hlt : i < rs.length
    · have hlt' : (i : Int) < (rs.length : Int) := by omega
      obtain ⟨b1, o1, e1, z1, a1⟩ := (hR.below hB).one hlt
      subst e1
      have HFS := show Hid (∀ c, G rs[i] = some c → rs.findSome? G = some c) from fun c hc => findSome_take G rs hlt HF.out hc
      have HFN := show Hid (G rs[i] = none → ∀ y ∈ rs.take (i + 1), G y = none) from fun hc => none_take hlt HF.out hc
      have HC1 := HC _ (List.getElem_mem hlt) _ hB
      generalize rs[i] = r at *
      clear HC
      go_wp2_with fail
      refine HC1.mono ?_
      rintro e w2 ⟨h2, b2⟩
      have hb2 := hb.trans (b2.mono hb.size)
      have hB2 := bR.trans (hb2.mono bR.size)
      obtain ⟨o, ho⟩ : ∃ o, G r = o := ⟨_, rfl⟩
      rw [ho] at h2
      cases o with
      | none =>
        have h2 : e = .returned (.tuple #[.agg #[.int .i64 0, .int .i64 0, .int .i64 0, .bool false, .int .u64 0, .slice none 0 0], .bool false]) := h2
        subst h2
        have HN := show Hid _ from HFN.out ho
        have hb3 := hb2.alloc hb2.size (.cells #[.int .i64 0, .int .i64 0, .int .i64 0, .bool false, .int .u64 0, .slice none 0 0] 42)
        clear HC1 HFS HFN HF ho
        go_wp2
        exact ⟨⟨i + 1, by omega, by go_num, HN, hb3⟩, by simp [intOf]; omega⟩
      | some c =>
        have HR := show Hid _ from HFS.out c ho
        obtain ⟨cr, cs, ch, cbl, cfr⟩ := c
        obtain ⟨fa, fc, rfl, hI, hfr⟩ := h2
        simp only at hI HR ⊢
        have k1 := (kR.below hb2 kR.lt).alloc (.cells #[.int .i64 ht, .int .i64 cr, .int .i64 cs, .bool ch, .int .u64 cbl, .slice fa cfr.length fc] 42)
        have kX := Blk.new w2 #[.int .i64 ht, .int .i64 cr, .int .i64 cs, .bool ch, .int .u64 cbl, .slice fa cfr.length fc] 42
        have B2 := hB2.alloc hB2.size (.cells #[.int .i64 ht, .int .i64 cr, .int .i64 cs, .bool ch, .int .u64 cbl, .slice fa cfr.length fc] 42)
        have hI2 := hI.below ((Below.refl w2.heap.size w2).alloc (Nat.le_refl _) (.cells #[.int .i64 ht, .int .i64 cr, .int .i64 cs, .bool ch, .int .u64 cbl, .slice fa cfr.length fc] 42))
        have hfr2 : ∀ a, fa = some a → w.heap.size < a.block := fun a ha => by have := hfr a ha; have := hb.size; omega
        have y0 := (k1.cell 0).trans rfl
        have y1 := (k1.cell 1).trans rfl
        have y2 := (k1.cell 2).trans rfl
        have y3 := (k1.cell 3).trans rfl
        have y4 := (k1.cell 4).trans rfl
        have y5 := (k1.cell 5).trans rfl
        have q0 := k1.frozen 0
        have q1 := k1.frozen 1
        have q2 := k1.frozen 2
        have q3 := k1.frozen 3
        have q4 := k1.frozen 4
        have q5 := k1.frozen 5
        have zb := k1.lt
        clear HC1 HFS HFN HF ho hfr
        have hfr := hfr2
        clear hfr2
        go_wp2
        refine bodyPost_ret (v := .tuple #[.agg #[.int .i64 ht, .int .i64 cr, .int .i64 cs, .bool ch, .int .u64 cbl, .slice fa cfr.length fc], .bool true]) (by simp [results, Try.results9, go_sem, y0, y1, y2, y3, y4, y5]) rfl ?_
        rw [HR.out]
        exact ⟨⟨fa, fc, rfl, ints_six hI2 (fun a ha => by have := hfr a ha; omega) _ _ _ _ _ _, fun a ha => by have := hfr a ha; omega⟩, bel_six0 B2 (Nat.le_refl _) _ _ _ _ _ _⟩
    · have hge : ¬ (i : Int) < (rs.length : Int) := by omega
      have hie : i = rs.length := by omega
      have HR := show Hid (rs.findSome? G = none) from none_all hie HF.out
      clear HF hie HC
      have y0 := (kb.cell 0).trans rfl
      have y1 := (kb.cell 1).trans rfl
      have y2 := (kb.cell 2).trans rfl
      have y3 := (kb.cell 3).trans rfl
      have y4 := (kb.cell 4).trans rfl
      have y5 := (kb.cell 5).trans rfl
      have q0 := kb.frozen 0
      have q1 := kb.frozen 1
      have q2 := kb.frozen 2
      have q3 := kb.frozen 3
      have q4 := kb.frozen 4
      have q5 := kb.frozen 5
      have zb := kb.lt
      go_wp2
      refine bodyPost_ret (v := .tuple #[.agg #[.int .i64 0, .int .i64 0, .int .i64 0, .bool false, .int .u64 0, .slice none 0 0], .bool false]) (by simp [results, Try.results9, go_sem, y0, y1, y2, y3, y4, y5]) rfl ?_
      rw [HR.out]
      exact ⟨rfl, bel_six0 hB (Nat.le_refl _) _ _ _ _ _ _⟩

set_option maxRecDepth 8000 in
set_option maxHeartbeats 3200000 in
theorem rclosed_any (rb : Nat) (ht : Int) (la : Option Addr) (lc : Nat) (L : List Vt) (G : Int → Option Ct) (w : World) (hcb : rb < w.heap.size) (h3 : w.cell? ⟨rb, 2, none⟩ = some (.slice la L.length lc)) (hR : VotesAt w la L) (hL : L.length ≤ 100000)
    (HC : ∀ v ∈ L, v.s = 2 → ∀ w', Below w.heap.size w w' → Calls Try.prog 14 #[.pointer (some ⟨rb, 0, none⟩), .int .i64 v.r, .int .i64 2] w' fun e w'' => CertE w'.heap.size ht (G v.r) e w'' ∧ Below w'.heap.size w' w'') :
    Calls Try.prog 10 #[.pointer (some ⟨rb, 0, none⟩)] w fun e w' => CertE w.heap.size ht (L.findSome? fun v => if v.s = 2 then forB (G v.r) else none) e w' ∧ Below w.heap.size w w' := by
  obtain ⟨F, hF⟩ : ∃ F : Vt → Option Ct, F = fun v => if v.s = 2 then forB (G v.r) else none := ⟨_, rfl⟩
  rw [← hF]
  have HFv := show Hid (_ = _) from hF
  clear hF
  have kR := Blk.new w #[.int .i64 0, .int .i64 0, .int .i64 0, .bool false, .int .u64 0, .slice none 0 0] 42
  have bR : Below w.heap.size w (w.alloc (.cells #[.int .i64 0, .int .i64 0, .int .i64 0, .bool false, .int .u64 0, .slice none 0 0] 42)) := (Below.refl _ _).alloc (Nat.le_refl _) _
  have hzw : w.heap.size < (w.alloc (.cells #[.int .i64 0, .int .i64 0, .int .i64 0, .bool false, .int .u64 0, .slice none 0 0] 42)).heap.size := by rw [World.size_alloc]; omega
  go_enter Try.func10, Try.ntmps10
  go_wp2_with fail
  generalize (w.alloc (.cells #[.int .i64 0, .int .i64 0, .int .i64 0, .bool false, .int .u64 0, .slice none 0 0] 42)) = w1 at *
  go_loopw [4] (fun iv wv => ∃ i : Nat, i ≤ L.length ∧ iv = .int .i64 i ∧ Hid (∀ y ∈ L.take i, F y = none) ∧ Below w1.heap.size w1 wv) (fun iv _ => L.length - (intOf iv).toNat)
  case atStart => exact ⟨0, Nat.zero_le _, rfl, by intro y hy; simp at hy, Below.refl _ _⟩
  case round =>
    obtain ⟨i, hi, rfl, HF, hb⟩ := hrel
    have hB := bR.trans (hb.mono bR.size)
    have kb := kR.below hb kR.lt
    have g2 := (hB.cell (p := ⟨rb, 2, none⟩) hcb).trans h3
    have zg := Nat.lt_of_lt_of_le hcb hB.size
    by_cases hlt : i < L.length
    · have hlt' : (i : Int) < (L.length : Int) := by omega
      obtain ⟨b1, o1, e1, z1, c0, c1, c2, c3, c4, c5⟩ := (hR.below hB).one hlt
      subst e1
      have HFS := show Hid (∀ c, F L[i] = some c → L.findSome? F = some c) from fun c hc => findSome_take F L hlt HF.out hc
      have HFN := show Hid (F L[i] = none → ∀ y ∈ L.take (i + 1), F y = none) from fun hc => none_take hlt HF.out hc
      have HC1 := HC _ (List.getElem_mem hlt)
      generalize L[i] = y at *
      obtain ⟨yh, yr, ys, yhas, ybl, yf⟩ := y
      simp only at c0 c1 c2 c3 c4 c5 HC1
      clear HC c0 c3 c4 c5
      by_cases hs : ys = 2
      rotate_left
      · have m1 : (ys == 2) = false := by simpa using hs
        have HN := show Hid _ from HFN.out (by rw [HFv.out]; exact if_neg hs)
        clear HC1 HFS HFN HF hs
        go_wp2
        exact ⟨⟨i + 1, by omega, by go_num, HN, hb⟩, by simp [intOf]; omega⟩
      · have HFE := show Hid (F ⟨yh, yr, ys, yhas, ybl, yf⟩ = forB (G yr)) from by show _ = _; rw [HFv.out]; exact if_pos hs
        have m1 : (ys == 2) = true := by simpa using hs
        have HC2 := HC1 hs _ hB
        clear HC1 hs
        go_wp2_with fail
        refine HC2.mono ?_
        rintro e w2 ⟨h2, b2⟩
        have hb2 := hb.trans (b2.mono hb.size)
        have hB2 := bR.trans (hb2.mono bR.size)
        obtain ⟨o, ho⟩ : ∃ o, G yr = o := ⟨_, rfl⟩
        rw [ho] at h2 HFE
        cases o with
        | none =>
          have h2 : e = .returned (.tuple #[.agg #[.int .i64 0, .int .i64 0, .int .i64 0, .bool false, .int .u64 0, .slice none 0 0], .bool false]) := h2
          subst h2
          have HN := show Hid _ from HFN.out HFE.out
          have hb3 := hb2.alloc hb2.size (.cells #[.int .i64 0, .int .i64 0, .int .i64 0, .bool false, .int .u64 0, .slice none 0 0] 42)
          clear HC2 HFS HFN HF ho HFE HFv
          go_wp2
          exact ⟨⟨i + 1, by omega, by go_num, HN, hb3⟩, by simp [intOf]; omega⟩
        | some c =>
          obtain ⟨cr, cs, ch, cbl, cfr⟩ := c
          obtain ⟨fa, fc, rfl, hI, hfr⟩ := h2
          simp only at hI ⊢
          have k1 := (kR.below hb2 kR.lt).alloc (.cells #[.int .i64 ht, .int .i64 cr, .int .i64 cs, .bool ch, .int .u64 cbl, .slice fa cfr.length fc] 42)
          have kX := Blk.new w2 #[.int .i64 ht, .int .i64 cr, .int .i64 cs, .bool ch, .int .u64 cbl, .slice fa cfr.length fc] 42
          have B2 := hB2.alloc hB2.size (.cells #[.int .i64 ht, .int .i64 cr, .int .i64 cs, .bool ch, .int .u64 cbl, .slice fa cfr.length fc] 42)
          have hb3 := hb2.alloc hb2.size (.cells #[.int .i64 ht, .int .i64 cr, .int .i64 cs, .bool ch, .int .u64 cbl, .slice fa cfr.length fc] 42)
          have hI2 := hI.below ((Below.refl w2.heap.size w2).alloc (Nat.le_refl _) (.cells #[.int .i64 ht, .int .i64 cr, .int .i64 cs, .bool ch, .int .u64 cbl, .slice fa cfr.length fc] 42))
          have hfr2 : ∀ a, fa = some a → w.heap.size < a.block := fun a ha => by have := hfr a ha; have := hb.size; omega
          cases ch with
          | false =>
            have HN := show Hid _ from HFN.out HFE.out
            clear HC2 HFS HFN HF ho HFE HFv hfr
            go_wp2
            exact ⟨⟨i + 1, by omega, by go_num, HN, hb3⟩, by simp [intOf]; omega⟩
          | true =>
            have HR := show Hid _ from HFS.out _ HFE.out
            have y0 := (k1.cell 0).trans rfl
            have y1 := (k1.cell 1).trans rfl
            have y2 := (k1.cell 2).trans rfl
            have y3 := (k1.cell 3).trans rfl
            have y4 := (k1.cell 4).trans rfl
            have y5 := (k1.cell 5).trans rfl
            have q0 := k1.frozen 0
            have q1 := k1.frozen 1
            have q2 := k1.frozen 2
            have q3 := k1.frozen 3
            have q4 := k1.frozen 4
            have q5 := k1.frozen 5
            have zb := k1.lt
            clear HC2 HFS HFN HF ho hfr HFE HFv
            have hfr := hfr2
            clear hfr2
            go_wp2
            refine bodyPost_ret (v := .tuple #[.agg #[.int .i64 ht, .int .i64 cr, .int .i64 cs, .bool true, .int .u64 cbl, .slice fa cfr.length fc], .bool true]) (by simp [results, Try.results10, go_sem, y0, y1, y2, y3, y4, y5]) rfl ?_
            rw [HR.out]
            exact ⟨⟨fa, fc, rfl, ints_six hI2 (fun a ha => by have := hfr a ha; omega) _ _ _ _ _ _, fun a ha => by have := hfr a ha; omega⟩, bel_six0 B2 (Nat.le_refl _) _ _ _ _ _ _⟩
    · have hge : ¬ (i : Int) < (L.length : Int) := by omega
      have hie : i = L.length := by omega
      have HR := show Hid (L.findSome? F = none) from none_all hie HF.out
      clear HF hie HC
      have y0 := (kb.cell 0).trans rfl
      have y1 := (kb.cell 1).trans rfl
      have y2 := (kb.cell 2).trans rfl
      have y3 := (kb.cell 3).trans rfl
      have y4 := (kb.cell 4).trans rfl
      have y5 := (kb.cell 5).trans rfl
      have q0 := kb.frozen 0
      have q1 := kb.frozen 1
      have q2 := kb.frozen 2
      have q3 := kb.frozen 3
      have q4 := kb.frozen 4
      have q5 := kb.frozen 5
      have zb := kb.lt
      go_wp2
      refine bodyPost_ret (v := .tuple #[.agg #[.int .i64 0, .int .i64 0, .int .i64 0, .bool false, .int .u64 0, .slice none 0 0], .bool false]) (by simp [results, Try.results10, go_sem, y0, y1, y2, y3, y4, y5]) rfl ?_
      rw [HR.out]
      exact ⟨rfl, bel_six0 hB (Nat.le_refl _) _ _ _ _ _ _⟩
end Go.Proofs.Ytimcddknoanghaa
