/- The last decision for a block at the first stage, up to a round: the program's. -/
import Derived.RangeFuncNested
import Derived.RangeFuncWrites
import Derived.RangeFuncBox
import Derived.Maps.AppendAt
import Derived.Maps.OwnIn
import Derived.Test.YtimcddknoanghaaKBack
namespace Go.Proofs.Ytimcddknoanghaa
open Go.RowKit Go.Shelf
attribute [local go_sem] Oper.semAt_some
set_option linter.unusedVariables false
set_option linter.unusedSimpArgs false

theorem keeps_below {B : Nat} {W W' : World} (hb : Below W.heap.size W W') : KeepsFrom B W W' := ⟨hb.size, fun k o _ hk _ => (hb.block k (Array.getElem?_eq_some_iff.1 hk).1).trans hk⟩
theorem blk_grownN {W W' : World} {row : Option Nat} {b : Nat} {cs : Array Value} {t : TypeId} (h : Blk W b cs t) (hg : W.grownBy W' row) (hr : ∀ r, row = some r → ∃ o : Obj, W.heap[r]? = some o ∧ o.isCells = false) : Blk W' b cs t := by
  refine h.grown hg fun e => ?_
  obtain ⟨o, h1, h2⟩ := hr b e
  have := Option.some.inj (h1.symm.trans h)
  subst this
  cases h2
theorem ints_grownN {W W' : World} {row : Option Nat} {fa : Option Addr} {l : List Int} (h : IntsAt W fa l) (hg : W.grownBy W' row) (hr : ∀ r, row = some r → ∃ o : Obj, W.heap[r]? = some o ∧ o.isCells = false) : IntsAt W' fa l := by
  rcases h with h | ⟨b, off, e, hl, hc⟩
  · exact .inl h
  · exact .inr ⟨b, off, e, Nat.lt_of_lt_of_le hl hg.size, fun i x hx => cell_kept (hc i x hx) hg hr⟩
theorem ints_set {W : World} {fa : Option Addr} {l : List Int} (h : IntsAt W fa l) {p : Addr} (hb : ∀ a, fa = some a → a.block ≠ p.block) (v : Value) : IntsAt (W.setCell p v) fa l := by
  rcases h with h | ⟨b1, o1, e, hl, hc⟩
  · exact .inl h
  · have hne : b1 ≠ p.block := hb _ e
    refine .inr ⟨b1, o1, e, by rw [World.size_setCell]; exact hl, fun i x hx => ?_⟩
    rw [World.cell?_setCell_far _ _ _ _ (by first | exact hne | exact fun e => hne e.symm)]
    exact hc i x hx
theorem blk_put {W : World} {b D : Nat} {cs : Array Value} {t : TypeId} (h : Blk W b cs t) (hK : W.heap[D]? = some (.deferred (some []))) (o : Obj) : Blk (W.putObj D o) b cs t :=
  blk_grownN h (grownBy_putObj' W D o) (fun r e => by cases e; exact ⟨_, hK, rfl⟩)
theorem keeps_seven (W : World) (b b2 : Nat) (v0 v1 v2 v3 v4 v5 v6 : Value) : KeepsFrom 0 W ((sixW W b v0 v1 v2 v3 v4 v5).setCell ⟨b2, 0, none⟩ v6) := by
  unfold sixW
  iterate 7 refine KeepsFrom.trans ?_ ((KeepsOthers.setCell _ _ _).from _)
  exact KeepsFrom.refl _ _
theorem backs_take (zs : List Tn) (k : Nat) (hk : k ≤ zs.length) : (backs zs k).map (·.2.1) = (zs.map (·.1)).reverse.take k := by
  apply List.ext_getElem
  · simp [backs]; omega
  · intro i h1 h2
    have hi : i < k := by simpa [backs] using h1
    simp only [backs, List.map_map, List.getElem_map, List.getElem_range, Function.comp, List.getElem_take, List.getElem_reverse, List.length_map]
    rw [List.getElem?_eq_getElem (by omega)]
    rfl
theorem backs_rev (zs : List Tn) : (backs zs zs.length).map (·.2.1) = (zs.map (·.1)).reverse := by
  rw [backs_take zs zs.length (Nat.le_refl _), List.take_of_length_le (by simp)]
/-- A decision lies in the results' boxes. -/
def BestX (w : World) (ht : Int) (G : Int → Option Ct) (pre : List (Nat × Tn)) (W : World) : Prop :=
  ∃ cr cs ch cbl cfr fa fc, Hid ((pre.map (·.2.1)).findSome? G = some ⟨cr, cs, ch, cbl, cfr⟩) ∧ Blk W (w.heap.size + 2) #[.int .i64 ht, .int .i64 cr, .int .i64 cs, .bool ch, .int .u64 cbl, .slice fa (List.length (α := Int) cfr) fc] 42 ∧ Blk W (w.heap.size + 3) #[.bool true] 4 ∧ IntsAt W fa cfr ∧ (∀ a, fa = some a → w.heap.size ≤ a.block) ∧ Below w.heap.size w W
theorem bestX_own (w : World) (ht : Int) (G : Int → Option Ct) (B : Nat) (hB : w.heap.size ≤ B) : OwnFrom B (BestX w ht G) := by
  rintro pre W W' row ⟨cr, cs, ch, cbl, cfr, fa, fc, h1, h2, h3, h4, h5, h6⟩ hg hr
  have hr2 : ∀ r, row = some r → ∃ o : Obj, W.heap[r]? = some o ∧ o.isCells = false := fun r e => (hr r e).2
  exact ⟨cr, cs, ch, cbl, cfr, fa, fc, h1, blk_grownN h2 hg hr2, blk_grownN h3 hg hr2, ints_grownN h4 hg hr2, h5, h6.grown hg h6.size (fun k e => Nat.le_trans hB (hr k e).1)⟩

set_option maxRecDepth 100000 in
set_option maxHeartbeats 4000000 in
theorem best_any (cb : Nat) (ht rd : Int) (ra : Option Addr) (rc : Nat) (zs : List Tn) (G : Int → Option Ct) (w : World) (hcb : cb < w.heap.size) (h3 : w.cell? ⟨cb, 3, none⟩ = some (.slice ra zs.length rc)) (hR : IntsAt w ra (zs.map (·.1))) (hrs : zs.length ≤ 512)
    (HC : ∀ r : Tn, ∀ w', Below w.heap.size w w' → Calls Try.prog 31 #[.pointer (some ⟨cb, 0, none⟩), .int .i64 r.1, .int .i64 1] w' fun e w'' => CertE w'.heap.size ht (G r.1) e w'' ∧ Below w'.heap.size w' w'') :
    Calls Try.prog 19 #[.pointer (some ⟨cb, 0, none⟩), .int .i64 rd] w fun e w' => CertE w.heap.size ht ((zs.map (·.1)).reverse.findSome? fun r => if rd < r then none else G r) e w' ∧ Below w.heap.size w w' := by
  refine (callsIn_wide (n := 5)).1 ?_
  refine callsIn_of_wp_marks Try.func19 rfl trivial ?_ rfl
  simp only [Try.ntmps19, List.size_toArray, List.length_cons, List.length_nil, Nat.reduceAdd, Nat.reduceSub, Array.replicate_succ, Array.replicate_zero, List.push_toArray, List.append_toArray, List.nil_append, List.cons_append]
  obtain ⟨F, hF⟩ : ∃ F : Int → Option Ct, F = fun r => if rd < r then none else G r := ⟨_, rfl⟩
  rw [← hF]
  have HFv := show Hid (_ = _) from hF
  clear hF
  have hfm : Try.prog.follows .mixedOrders = true := by kernel_rfl
  have hdd : ∀ k : Nat, (Fence.wide.depth.isSome = true → 1 ≤ k) := fun k h => by cases h
  obtain ⟨wB, HwB⟩ : ∃ x, Hid (x = (((w.alloc (.cells #[.pointer (some ⟨cb, 0, none⟩)] 26)).alloc (.cells #[.int .i64 rd] 3)).alloc (.cells #[.int .i64 0, .int .i64 0, .int .i64 0, .bool false, .int .u64 0, .slice none 0 0] 42)).alloc (.cells #[.bool false] 4)) := ⟨_, rfl⟩
  have bB : Below w.heap.size w wB := by rw [HwB.out]; exact ((((Below.refl _ _).alloc (Nat.le_refl _) _).alloc (by simp) _).alloc (by simp; omega) _).alloc (by simp; omega) _
  have sB : wB.heap.size = w.heap.size + 4 := by rw [HwB.out]; simp
  have k0 : Blk wB w.heap.size #[.pointer (some ⟨cb, 0, none⟩)] 26 := by rw [HwB.out]; exact (((Blk.new w _ _).alloc _).alloc _).alloc _
  have k1 : Blk wB (w.heap.size + 1) #[.int .i64 rd] 3 := by
    rw [HwB.out]
    have h0 := ((Blk.new (w.alloc (.cells #[.pointer (some ⟨cb, 0, none⟩)] 26)) #[.int .i64 rd] 3).alloc (.cells #[.int .i64 0, .int .i64 0, .int .i64 0, .bool false, .int .u64 0, .slice none 0 0] 42)).alloc (.cells #[.bool false] 4)
    rw [World.size_alloc] at h0
    exact h0
  have k2 : Blk wB (w.heap.size + 2) #[.int .i64 0, .int .i64 0, .int .i64 0, .bool false, .int .u64 0, .slice none 0 0] 42 := by
    rw [HwB.out]
    have h0 := (Blk.new ((w.alloc (.cells #[.pointer (some ⟨cb, 0, none⟩)] 26)).alloc (.cells #[.int .i64 rd] 3)) #[.int .i64 0, .int .i64 0, .int .i64 0, .bool false, .int .u64 0, .slice none 0 0] 42).alloc (.cells #[.bool false] 4)
    simp only [World.size_alloc] at h0
    exact h0
  have k3 : Blk wB (w.heap.size + 3) #[.bool false] 4 := by
    rw [HwB.out]
    have h0 := Blk.new (((w.alloc (.cells #[.pointer (some ⟨cb, 0, none⟩)] 26)).alloc (.cells #[.int .i64 rd] 3)).alloc (.cells #[.int .i64 0, .int .i64 0, .int .i64 0, .bool false, .int .u64 0, .slice none 0 0] 42)) #[.bool false] 4
    simp only [World.size_alloc] at h0
    exact h0
  have c3 := (bB.cell (p := ⟨cb, 3, none⟩) hcb).trans h3
  rw [HwB.out] at c3
  gi_wp2_with ((try refine ⟨trivial, ?_⟩); (try refine ⟨hdd _, ?_⟩); gi_at_call 37; refine (back_in _ _ _ _ _).mono ?_; rintro e w2 ⟨rfl, rfl⟩)
  rw [← HwB.out]
  have bC : Below wB.heap.size wB (wB.alloc (.cells #[.slice ra zs.length rc] 24)) := (Below.refl _ _).alloc (Nat.le_refl _) _
  have k4 := Blk.new wB #[.slice ra zs.length rc] 24
  obtain ⟨wC, HwC⟩ : ∃ x, Hid (x = wB.alloc (.cells #[.slice ra zs.length rc] 24)) := ⟨_, rfl⟩
  rw [← HwC.out] at bC k4
  rw [← HwC.out]
  have sC : wC.heap.size = w.heap.size + 5 := by rw [HwC.out, World.size_alloc, sB]
  rw [sB] at k4
  have bW := bB.trans (bC.mono bB.size)
  have h0 := k0.below bC k0.lt
  have h1 := k1.below bC k1.lt
  have h2 := k2.below bC k2.lt
  have h3' := k3.below bC k3.lt
  clear k0 k1 k2 k3 c3 HwB HwC bC
  simp only [Nat.add_assoc, Nat.reduceAdd, sB]
  refine wpIn_rangeFunc_ownG rfl (by omega) (gf := 55) (lb := #[.pointer (some ⟨w.heap.size + 4, 0, none⟩)]) rfl trivial (enters_of Try.func55 (by kernel_rfl) rfl)
    (back_stops 4 (w.heap.size + 4) w.heap.size rc ra zs (by omega) wC k4.lt ((k4.cell 0).trans rfl) (hR.below bW) (fun hne b off e => ?_)) (fun h k => KpB.trans h k) (fun W l o o' hl hWl ho hw => ?_) (Below.refl _ _) (fun _ => rfl)
    (fun (pre : List (Nat × Tn)) W => Hid ((pre.map (·.2.1)).findSome? F = none) ∧ Below wC.heap.size wC W)
    (fun c pre W => c = Code.ret ∧ BestX w ht F pre W)
    (OwnFrom.and (fun _ _ _ _ hs _ _ => hs) (ownFrom_below (Nat.le_refl _) (Nat.le_refl _)))
    (fun c => OwnFrom.and (fun _ _ _ _ hs _ _ => hs) (bestX_own w ht F _ (by omega)))
    ⟨rfl, Below.refl _ _⟩
    (fun x => { tmps := #[.pointer (some ⟨cb, 0, none⟩), .int .i64 rd, .pointer (some ⟨w.heap.size, 0, none⟩), .pointer (some ⟨w.heap.size + 1, 0, none⟩), .pointer (some ⟨w.heap.size + 2, 0, none⟩), .pointer (some ⟨w.heap.size + 3, 0, none⟩), undef, .int .i64 x.2.1, undef, undef, .pointer (some ⟨cb, 0, none⟩), .pointer (some ⟨cb, 0, none⟩), .pointer (some ⟨cb, 3, none⟩), .slice ra zs.length rc, .func (.func 55) #[] #[.pointer (some ⟨w.heap.size + 4, 0, none⟩)], .int .i64 (x.1 : Int), .int .i64 x.2.1, undef, undef, undef, undef, undef, undef, undef, undef, undef, undef, undef, undef], defers := [] }) ?assign ?body ?done ?stop
  · rcases hR with h | ⟨b2, o2, e2, hl, _⟩
    · exact absurd (List.map_eq_nil_iff.1 h) hne
    · rw [e2] at e; injection e with e; injection e with e _; omega
  · refine ⟨belowK_b (w := wC) (by omega) W l o o' hl hWl ho hw, ?_⟩
    exact (belowK_b (n₀ := w.heap.size + 5) (w := wC) (by omega) W l o o' hl hWl ho hw).cell (p := ⟨w.heap.size + 4, 0, none⟩) (by show w.heap.size + 4 < w.heap.size + 5; omega)
  case assign =>
    intro l x W K hK
    gi_wp2
    exact hK
  case body =>
    rintro l pre x W ⟨HP, hB⟩ hlt
    have d0 := ((h0.below hB h0.lt).cell 0).trans rfl
    have d1 := ((h1.below hB h1.lt).cell 0).trans rfl
    have hKp : ∀ W', Below W.heap.size W W' → KpB w.heap.size (w.heap.size + 4) W W' := fun W' hb => ⟨hb.mono (by have := hB.size; omega), hb.cell (p := ⟨w.heap.size + 4, 0, none⟩) (by have := hB.size; show w.heap.size + 4 < _; omega)⟩
    have HPN : ∀ o, F x.2.1 = o → Hid (((pre ++ [x]).map (·.2.1)).findSome? F = o) := fun o ho => by
      show _ = _
      rw [List.map_append, List.findSome?_append, HP.out]
      simp [List.findSome?_cons, ho]
      cases o <;> rfl
    by_cases hgt : rd < x.2.1
    · have HN := HPN none (by rw [HFv.out]; exact if_pos hgt)
      clear HPN HP
      gi_wp2
      exact ⟨(KeepsOthers.refl _).from _, hKp W (Below.refl _ _), HN, hB⟩
    · have HFE : Hid (F x.2.1 = G x.2.1) := by show _ = _; rw [HFv.out]; exact if_neg hgt
      have hW := bW.trans (hB.mono bW.size)
      have HC1 := HC x.2 W hW
      obtain ⟨o, ho⟩ : ∃ o, G x.2.1 = o := ⟨_, rfl⟩
      rw [ho] at HC1 HFE
      have HN := HPN o HFE.out
      clear HPN HP HFE ho HC
      cases o with
      | none =>
        gi_wp2_with ((try refine ⟨trivial, ?_⟩); (try refine ⟨hdd _, ?_⟩); gi_at_call 31; refine (CallsIn.inRound l (callsIn_wide.2 HC1)).mono ?_; rintro e w5 ⟨(rfl : e = _), b5⟩)
        have bn : Below W.heap.size W (w5.alloc (.cells #[.int .i64 0, .int .i64 0, .int .i64 0, .bool false, .int .u64 0, .slice none 0 0] 42)) := b5.alloc b5.size _
        exact ⟨keeps_below bn, hKp _ bn, HN, hB.trans (bn.mono hB.size)⟩
      | some c =>
        obtain ⟨cr, cs, ch, cbl, cfr⟩ := c
        have g2 := fun w5 (hb : Below W.heap.size W w5) => (h2.below (hB.trans (hb.mono hB.size)) h2.lt)
        have g3 := fun w5 (hb : Below W.heap.size W w5) => (h3'.below (hB.trans (hb.mono hB.size)) h3'.lt)
        gi_wp2_with (
          (try refine ⟨trivial, ?_⟩)
          (try refine ⟨hdd _, ?_⟩)
          gi_at_call 31
          refine (CallsIn.inRound l (callsIn_wide.2 HC1)).mono ?_
          rintro e w5 ⟨⟨fa, fc, rfl, hI, hfr⟩, b5⟩
          simp only at hI ⊢
          have bn : Below W.heap.size W (w5.alloc (.cells #[.int .i64 ht, .int .i64 cr, .int .i64 cs, .bool ch, .int .u64 cbl, .slice fa cfr.length fc] 42)) := b5.alloc b5.size _
          have e2 := g2 _ bn
          have e3 := g3 _ bn
          have hI2 := hI.below ((Below.refl w5.heap.size w5).alloc (Nat.le_refl _) (.cells #[.int .i64 ht, .int .i64 cr, .int .i64 cs, .bool ch, .int .u64 cbl, .slice fa cfr.length fc] 42))
          have y0 := (e2.cell 0).trans rfl
          have y1 := (e2.cell 1).trans rfl
          have y2 := (e2.cell 2).trans rfl
          have y3 := (e2.cell 3).trans rfl
          have y4 := (e2.cell 4).trans rfl
          have y5 := (e2.cell 5).trans rfl
          have q0 := e2.frozen 0
          have q1 := e2.frozen 1
          have q2 := e2.frozen 2
          have q3 := e2.frozen 3
          have q4 := e2.frozen 4
          have q5 := e2.frozen 5
          have y7 := (e3.cell 0).trans rfl
          have q7 := e3.frozen 0
          have z2 := e2.lt
          have z3 := e3.lt)
        have hWs := hB.size
        have u2 := ((((((e2.set 0 (.int .i64 ht)).set 1 (.int .i64 cr)).set 2 (.int .i64 cs)).set 3 (.bool ch)).set 4 (.int .u64 cbl)).set 5 (.slice fa cfr.length fc)).setOther ⟨w.heap.size + 3, 0, none⟩ (by simp) (.bool true)
        have u3 := ((((((e3.setOther ⟨w.heap.size + 2, 0, none⟩ (by simp) (.int .i64 ht)).setOther ⟨w.heap.size + 2, 1, none⟩ (by simp) (.int .i64 cr)).setOther ⟨w.heap.size + 2, 2, none⟩ (by simp) (.int .i64 cs)).setOther ⟨w.heap.size + 2, 3, none⟩ (by simp) (.bool ch)).setOther ⟨w.heap.size + 2, 4, none⟩ (by simp) (.int .u64 cbl)).setOther ⟨w.heap.size + 2, 5, none⟩ (by simp) (.slice fa cfr.length fc)).set 0 (.bool true)
        have hI3 := ints_set (ints_six hI2 (b := w.heap.size + 2) (fun a ha => by have := hfr a ha; omega) (.int .i64 ht) (.int .i64 cr) (.int .i64 cs) (.bool ch) (.int .u64 cbl) (.slice fa cfr.length fc)) (p := ⟨w.heap.size + 3, 0, none⟩) (fun a ha => by have := hfr a ha; show _ ≠ w.heap.size + 3; omega) (.bool true)
        have B7 : Below w.heap.size w _ := (bel_six0 (hW.trans (bn.mono hW.size)) (b := w.heap.size + 2) (by omega) (.int .i64 ht) (.int .i64 cr) (.int .i64 cs) (.bool ch) (.int .u64 cbl) (.slice fa cfr.length fc)).setCell (p := ⟨w.heap.size + 3, 0, none⟩) (by show w.heap.size ≤ w.heap.size + 3; omega) (.bool true)
        refine ⟨?_, rfl, cr, cs, ch, cbl, cfr, fa, fc, HN, u2, u3, hI3, fun a ha => by have := hfr a ha; omega, B7⟩
        refine KeepsFrom.trans (keeps_below bn) ?_
        iterate 7 refine KeepsFrom.trans ?_ ((KeepsOthers.setCell _ _ _).from _)
        exact KeepsFrom.refl _ _
  case done =>
    rintro D ys W hD rfl ⟨HP, hB⟩ hK
    have e2 := h2.below hB h2.lt
    have e3 := h3'.below hB h3'.lt
    have y0 := (e2.cell 0).trans rfl
    have y1 := (e2.cell 1).trans rfl
    have y2 := (e2.cell 2).trans rfl
    have y3 := (e2.cell 3).trans rfl
    have y4 := (e2.cell 4).trans rfl
    have y5 := (e2.cell 5).trans rfl
    have q0 := e2.frozen 0
    have q1 := e2.frozen 1
    have q2 := e2.frozen 2
    have q3 := e2.frozen 3
    have q4 := e2.frozen 4
    have q5 := e2.frozen 5
    have y7 := (e3.cell 0).trans rfl
    have q7 := e3.frozen 0
    have z2 := e2.lt
    have z3 := e3.lt
    have HR : Hid ((zs.map (·.1)).reverse.findSome? F = none) := by
      show _ = _
      have := HP.out
      rw [← backs_rev]; exact this
    have u2 := ((((((e2.set 0 (.int .i64 0)).set 1 (.int .i64 0)).set 2 (.int .i64 0)).set 3 (.bool false)).set 4 (.int .u64 0)).set 5 (.slice none 0 0)).setOther ⟨w.heap.size + 3, 0, none⟩ (by simp) (.bool false)
    have u3 := ((((((e3.setOther ⟨w.heap.size + 2, 0, none⟩ (by simp) (.int .i64 0)).setOther ⟨w.heap.size + 2, 1, none⟩ (by simp) (.int .i64 0)).setOther ⟨w.heap.size + 2, 2, none⟩ (by simp) (.int .i64 0)).setOther ⟨w.heap.size + 2, 3, none⟩ (by simp) (.bool false)).setOther ⟨w.heap.size + 2, 4, none⟩ (by simp) (.int .u64 0)).setOther ⟨w.heap.size + 2, 5, none⟩ (by simp) (.slice none 0 0)).set 0 (.bool false)
    have hWs := hB.size
    have B7 : Below w.heap.size w _ := (bel_six0 (bW.trans (hB.mono bW.size)) (b := w.heap.size + 2) (by omega) (.int .i64 0) (.int .i64 0) (.int .i64 0) (.bool false) (.int .u64 0) (.slice none 0 0)).setCell (p := ⟨w.heap.size + 3, 0, none⟩) (by show w.heap.size ≤ w.heap.size + 3; omega) (.bool false)
    have hK7 := (keeps_seven W (w.heap.size + 2) (w.heap.size + 3) (.int .i64 0) (.int .i64 0) (.int .i64 0) (.bool false) (.int .u64 0) (.slice none 0 0) (.bool false)).same D _ (Nat.zero_le _) hK rfl
    gi_wp2
    unfold sixW at B7 hK7
    generalize (((((((W.setCell ⟨w.heap.size + 2, 0, none⟩ (.int .i64 0)).setCell ⟨w.heap.size + 2, 1, none⟩ (.int .i64 0)).setCell ⟨w.heap.size + 2, 2, none⟩ (.int .i64 0)).setCell ⟨w.heap.size + 2, 3, none⟩ (.bool false)).setCell ⟨w.heap.size + 2, 4, none⟩ (.int .u64 0)).setCell ⟨w.heap.size + 2, 5, none⟩ (.slice none 0 0)).setCell ⟨w.heap.size + 3, 0, none⟩ (.bool false)) = W9 at *
    clear e2 e3 y0 y1 y2 y3 y4 y5 q0 q1 q2 q3 q4 q5 y7 q7 z2 z3
    have t2 := blk_put u2 hK7 (.deferred none)
    have t3 := blk_put u3 hK7 (.deferred none)
    have y0 := (t2.cell 0).trans rfl
    have y1 := (t2.cell 1).trans rfl
    have y2 := (t2.cell 2).trans rfl
    have y3 := (t2.cell 3).trans rfl
    have y4 := (t2.cell 4).trans rfl
    have y5 := (t2.cell 5).trans rfl
    have y7 := (t3.cell 0).trans rfl
    have B8 := B7.trans (belowK_b (w := w) (Nat.le_refl _) W9 D _ (.deferred none) (by omega) hK7 rfl rfl)
    refine ⟨by simp, .inl ⟨_, _, rfl, run_takeDeferred hK7, ?_⟩⟩
    refine ⟨.tuple #[.agg #[.int .i64 0, .int .i64 0, .int .i64 0, .bool false, .int .u64 0, .slice none 0 0], .bool false], by simp [results, Try.results19, go_sem, y0, y1, y2, y3, y4, y5, y7], ?_, B8⟩
    rw [HR.out]
    exact rfl
  case stop =>
    rintro D c pre W hD ⟨k, hk, rfl⟩ ⟨rfl, cr, cs, ch, cbl, cfr, fa, fc, HN, u2, u3, hI3, hfr, B7⟩ hK
    have t2 := blk_put u2 hK (.deferred none)
    have t3 := blk_put u3 hK (.deferred none)
    have hI4 := ints_grownN hI3 (grownBy_putObj' W D (.deferred none)) (fun r e => by cases e; exact ⟨_, hK, rfl⟩)
    have HR : Hid ((zs.map (·.1)).reverse.findSome? F = some ⟨cr, cs, ch, cbl, cfr⟩) := by
      show _ = _
      have h := HN.out
      rw [backs_take zs k hk] at h
      rw [← List.take_append_drop k (zs.map (·.1)).reverse, List.findSome?_append, h]
      rfl
    gi_wp2
    have y0 := (t2.cell 0).trans rfl
    have y1 := (t2.cell 1).trans rfl
    have y2 := (t2.cell 2).trans rfl
    have y3 := (t2.cell 3).trans rfl
    have y4 := (t2.cell 4).trans rfl
    have y5 := (t2.cell 5).trans rfl
    have y7 := (t3.cell 0).trans rfl
    have B8 := B7.trans (belowK_b (w := w) (Nat.le_refl _) W D _ (.deferred none) (by omega) hK rfl rfl)
    refine ⟨by simp, .inl ⟨_, _, rfl, run_takeDeferred hK, ?_⟩⟩
    refine ⟨.tuple #[.agg #[.int .i64 ht, .int .i64 cr, .int .i64 cs, .bool ch, .int .u64 cbl, .slice fa cfr.length fc], .bool true], by simp [results, Try.results19, go_sem, y0, y1, y2, y3, y4, y5, y7], ?_, B8⟩
    rw [HR.out]
    exact ⟨fa, fc, rfl, hI4, hfr⟩
end Go.Proofs.Ytimcddknoanghaa
