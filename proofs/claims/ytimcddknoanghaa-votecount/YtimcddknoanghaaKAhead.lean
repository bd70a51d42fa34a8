/- The greatest round beyond one, in which or beyond which more than a third voted: the program's. -/
import Derived.RangeFuncNested
import Derived.RangeFuncWrites
import Derived.RangeFuncBox
import Derived.Maps.AppendAt
import Derived.Maps.OwnIn
import Derived.Test.YtimcddknoanghaaKBest
import Derived.Test.YtimcddknoanghaaKOthers
import Derived.Test.YtimcddknoanghaaTWide2
namespace Go.Proofs.Ytimcddknoanghaa
open Go.RowKit Go.Shelf
attribute [local go_sem] Oper.semAt_some
set_option linter.unusedVariables false
set_option linter.unusedSimpArgs false

/-- From a round down: who is named grows. -/
def aheadGo (x : List (Int × Int)) (V : Int → List Int) (rd : Int) : List Int → List Int → Int
  | _, [] => rd
  | acc, r :: rest => if r ≤ rd then rd else if totP x < 3 * wtP x (othersP acc (V r)) then r else aheadGo x V rd (othersP acc (V r)) rest
theorem owns_grownN {W W' : World} {row : Option Nat} {base : Nat} {e : TypeId} {size : Nat} {v : Value} {n : Nat} {xs : List Value} (h : W.ownsRow base e size v n xs) (hg : W.grownBy W' row) (hr : ∀ r, row = some r → ∃ o : Obj, W.heap[r]? = some o ∧ o.isCells = false) : W'.ownsRow base e size v n xs := by
  refine h.kept hg ?_
  cases hv : v.ownBlock with
  | none => exact .inl rfl
  | some k =>
    right
    intro e
    obtain ⟨o, h1, h2⟩ := hr k e.symm
    rcases h.2 with ⟨rfl, _⟩ | ⟨g, cap, cur, rfl, _, hgh, _⟩
    · cases hv
    · have hk : g = k := by simpa [Value.ownBlock] using hv
      subst hk
      have := Option.some.inj (h1.symm.trans hgh)
      subst this
      cases h2
/-- Between two rounds. -/
def AhI (w wC : World) (x : List (Int × Int)) (V : Int → List Int) (rd : Int) (bsv : Value) (pre : List (Nat × Tn)) (W : World) : Prop :=
  ∃ nv N, Hid (∀ rest, aheadGo x V rd [] (pre.map (·.2.1) ++ rest) = aheadGo x V rd N rest) ∧ Blk W (w.heap.size + 3) #[nv] 24 ∧ Blk W (w.heap.size + 4) #[bsv] 24 ∧ W.ownsRow (w.heap.size + 5) 3 1 nv N.length (flatI N) ∧ N.length ≤ 192 * pre.length ∧ Below (w.heap.size + 3) wC W ∧ w.heap.size + 5 ≤ W.heap.size
theorem ahI_own (w wC : World) (x : List (Int × Int)) (V : Int → List Int) (rd : Int) (bsv : Value) (B : Nat) (hB : w.heap.size + 3 ≤ B) : OwnFrom B (AhI w wC x V rd bsv) := by
  rintro pre W W' row ⟨nv, N, h1, h2, h3, h4, h5, h6, h7⟩ hg hr
  have hr2 : ∀ r, row = some r → ∃ o : Obj, W.heap[r]? = some o ∧ o.isCells = false := fun r e => (hr r e).2
  exact ⟨nv, N, h1, blk_grownN h2 hg hr2, blk_grownN h3 hg hr2, owns_grownN h4 hg hr2, h5, h6.grown hg (by omega) (fun k e => Nat.le_trans hB (hr k e).1), Nat.le_trans h7 hg.size⟩
/-- It has left. -/
def AhX (w : World) (x : List (Int × Int)) (V : Int → List Int) (rd : Int) (c : Code) (pre : List (Nat × Tn)) (W : World) : Prop :=
  ∃ z, ((c = Code.ret ∧ Hid (∀ rest, aheadGo x V rd [] (pre.map (·.2.1) ++ rest) = z)) ∨ (c = Code.exit 0 ∧ Hid (∀ rest, aheadGo x V rd [] (pre.map (·.2.1) ++ rest) = rd))) ∧ Blk W (w.heap.size + 1) #[.int .i64 rd] 3 ∧ Blk W (w.heap.size + 2) #[.int .i64 z] 3 ∧ Below w.heap.size w W
theorem ahX_own (w : World) (x : List (Int × Int)) (V : Int → List Int) (rd : Int) (c : Code) (B : Nat) (hB : w.heap.size ≤ B) : OwnFrom B (AhX w x V rd c) := by
  rintro pre W W' row ⟨z, h1, h2, h3, h4⟩ hg hr
  have hr2 : ∀ r, row = some r → ∃ o : Obj, W.heap[r]? = some o ∧ o.isCells = false := fun r e => (hr r e).2
  exact ⟨z, h1, blk_grownN h2 hg hr2, blk_grownN h3 hg hr2, h4.grown hg h4.size (fun k e => Nat.le_trans hB (hr k e).1)⟩

set_option maxRecDepth 100000 in
set_option maxHeartbeats 4000000 in
theorem ahead_any (cb : Nat) (rd : Int) (sa : Option Addr) (sc : Nat) (x : List (Int × Int)) (ra : Option Addr) (rc : Nat) (zs : List Tn) (R : Int → List Vt) (w : World) (hcb : cb < w.heap.size) (h0' : w.cell? ⟨cb, 0, none⟩ = some (.slice sa x.length sc)) (hS : SeatsAt w sa x) (hx : x.length ≤ 64) (hw : ∀ z ∈ x, 0 ≤ z.2 ∧ z.2 ≤ 1099511627775) (h3 : w.cell? ⟨cb, 3, none⟩ = some (.slice ra zs.length rc)) (hR : IntsAt w ra (zs.map (·.1))) (hrs : zs.length ≤ 512)
    (hRl : ∀ r, (R r).length ≤ 192)
    (HO : ∀ r : Tn, ∀ w', Below w.heap.size w w' → Calls Try.prog 30 #[.pointer (some ⟨cb, 0, none⟩), .int .i64 r.1] w' fun e w'' => (∃ v, e = .returned v ∧ w''.ownsRow w'.heap.size 34 6 v (R r.1).length (flatV (R r.1))) ∧ Below w'.heap.size w' w'') :
    Calls Try.prog 17 #[.pointer (some ⟨cb, 0, none⟩), .int .i64 rd] w fun e w' => e = .returned (.int .i64 (aheadGo x (fun r => (R r).map Vt.f) rd [] (zs.map (·.1)).reverse)) ∧ Below w.heap.size w w' := by
  obtain ⟨V, hV⟩ : ∃ V : Int → List Int, V = fun r => (R r).map Vt.f := ⟨_, rfl⟩
  rw [← hV]
  have HV := show Hid (_ = _) from hV
  clear hV
  refine (callsIn_wide (n := 5)).1 ?_
  refine callsIn_of_wp_marks Try.func17 rfl trivial ?_ rfl
  simp only [Try.ntmps17, List.size_toArray, List.length_cons, List.length_nil, Nat.reduceAdd, Nat.reduceSub, Array.replicate_succ, Array.replicate_zero, List.push_toArray, List.append_toArray, List.nil_append, List.cons_append]
  have hfm : Try.prog.follows .mixedOrders = true := by kernel_rfl
  have hdd : ∀ k : Nat, (Fence.wide.depth.isSome = true → 1 ≤ k) := fun k h => by cases h
  obtain ⟨wB, HwB⟩ : ∃ y, Hid (y = (((w.alloc (.cells #[.pointer (some ⟨cb, 0, none⟩)] 26)).alloc (.cells #[.int .i64 rd] 3)).alloc (.cells #[.int .i64 0] 3)).alloc (.cells #[.slice none 0 0] 24)) := ⟨_, rfl⟩
  have bB : Below w.heap.size w wB := by rw [HwB.out]; exact ((((Below.refl _ _).alloc (Nat.le_refl _) _).alloc (by simp) _).alloc (by simp; omega) _).alloc (by simp; omega) _
  have sB : wB.heap.size = w.heap.size + 4 := by rw [HwB.out]; simp
  have k0 : Blk wB w.heap.size #[.pointer (some ⟨cb, 0, none⟩)] 26 := by rw [HwB.out]; exact (((Blk.new w _ _).alloc _).alloc _).alloc _
  have k1 : Blk wB (w.heap.size + 1) #[.int .i64 rd] 3 := by
    rw [HwB.out]
    have h0 := ((Blk.new (w.alloc (.cells #[.pointer (some ⟨cb, 0, none⟩)] 26)) #[.int .i64 rd] 3).alloc (.cells #[.int .i64 0] 3)).alloc (.cells #[.slice none 0 0] 24)
    rw [World.size_alloc] at h0
    exact h0
  have k2 : Blk wB (w.heap.size + 2) #[.int .i64 0] 3 := by
    rw [HwB.out]
    have h0 := (Blk.new ((w.alloc (.cells #[.pointer (some ⟨cb, 0, none⟩)] 26)).alloc (.cells #[.int .i64 rd] 3)) #[.int .i64 0] 3).alloc (.cells #[.slice none 0 0] 24)
    simp only [World.size_alloc] at h0
    exact h0
  have k3 : Blk wB (w.heap.size + 3) #[.slice none 0 0] 24 := by
    rw [HwB.out]
    have h0 := Blk.new (((w.alloc (.cells #[.pointer (some ⟨cb, 0, none⟩)] 26)).alloc (.cells #[.int .i64 rd] 3)).alloc (.cells #[.int .i64 0] 3)) #[.slice none 0 0] 24
    simp only [World.size_alloc] at h0
    exact h0
  have c3 := (bB.cell (p := ⟨cb, 3, none⟩) hcb).trans h3
  rw [HwB.out] at c3
  gi_wp2_with ((try refine ⟨trivial, ?_⟩); (try refine ⟨hdd _, ?_⟩); gi_at_call 37; refine (back_in _ _ _ _ _).mono ?_; rintro e w2 ⟨rfl, rfl⟩)
  rw [← HwB.out]
  have bC : Below wB.heap.size wB (wB.alloc (.cells #[.slice ra zs.length rc] 24)) := (Below.refl _ _).alloc (Nat.le_refl _) _
  have k4 := Blk.new wB #[.slice ra zs.length rc] 24
  obtain ⟨wC, HwC⟩ : ∃ y, Hid (y = wB.alloc (.cells #[.slice ra zs.length rc] 24)) := ⟨_, rfl⟩
  rw [← HwC.out] at bC k4
  rw [← HwC.out]
  have sC : wC.heap.size = w.heap.size + 5 := by rw [HwC.out, World.size_alloc, sB]
  rw [sB] at k4
  have bW := bB.trans (bC.mono bB.size)
  have h0 := k0.below bC k0.lt
  have h1 := k1.below bC k1.lt
  have h2 := k2.below bC k2.lt
  have h3' := k3.below bC k3.lt
  clear k0 k1 k2 k3 c3 HwB HwC bC
  simp only [Nat.add_assoc, Nat.reduceAdd, sB]
  refine wpIn_rangeFunc_ownG rfl (by omega) (gf := 55) (lb := #[.pointer (some ⟨w.heap.size + 4, 0, none⟩)]) rfl trivial (enters_of Try.func55 (by kernel_rfl) rfl)
    (back_stops 4 (w.heap.size + 4) w.heap.size rc ra zs (by omega) wC k4.lt ((k4.cell 0).trans rfl) (hR.below bW) (fun hne b off e => ?_)) (fun h k => KpB.trans h k) (fun W l o o' hl hWl ho hw => ?_) (Below.refl _ _) (fun _ => rfl)
    (AhI w wC x V rd (.slice ra zs.length rc))
    (AhX w x V rd)
    (ahI_own w wC x V rd _ _ (by omega))
    (fun c => ahX_own w x V rd c _ (by omega))
    ⟨.slice none 0 0, [], fun _ => rfl, h3', k4, World.ownsRow_nil _ _ _ _, Nat.zero_le _, Below.refl _ _, by omega⟩
    (fun x => { tmps := #[.pointer (some ⟨cb, 0, none⟩), .int .i64 rd, .pointer (some ⟨w.heap.size, 0, none⟩), .pointer (some ⟨w.heap.size + 1, 0, none⟩), .pointer (some ⟨w.heap.size + 2, 0, none⟩), .pointer (some ⟨w.heap.size + 3, 0, none⟩), undef, .int .i64 x.2.1, .pointer (some ⟨cb, 0, none⟩), .pointer (some ⟨cb, 0, none⟩), .pointer (some ⟨cb, 3, none⟩), .slice ra zs.length rc, .func (.func 55) #[] #[.pointer (some ⟨w.heap.size + 4, 0, none⟩)], .int .i64 (x.1 : Int), .int .i64 x.2.1, undef, undef, undef, undef, undef, undef, undef, undef, undef, undef, undef, undef, undef, undef, undef, undef, undef], defers := [] }) ?assign ?body ?done ?stop
  · rcases hR with h | ⟨b2, o2, e2, hl, _⟩
    · exact absurd (List.map_eq_nil_iff.1 h) hne
    · rw [e2] at e; injection e with e; injection e with e _; omega
  · refine ⟨belowK_b (w := wC) (by omega) W l o o' hl hWl ho hw, ?_⟩
    exact (belowK_b (n₀ := w.heap.size + 5) (w := wC) (by omega) W l o o' hl hWl ho hw).cell (p := ⟨w.heap.size + 4, 0, none⟩) (by show w.heap.size + 4 < w.heap.size + 5; omega)
  case assign =>
    intro l x W K hK
    gi_wp2
    exact hK
  case body =>
    rintro l pre y W ⟨nv, N, HA, hB3, hB4, hrow, hNl, hB, hsW⟩ hlt
    have hBw : Below w.heap.size w W := bW.trans (hB.mono (by omega))
    have d0 := ((h0.below hB (by omega)).cell 0).trans rfl
    have d1 := ((h1.below hB (by omega)).cell 0).trans rfl
    have e2 := h2.below hB (by omega)
    have z0 : w.heap.size < W.heap.size := by omega
    have z3 : w.heap.size + 3 < W.heap.size := by omega
    obtain ⟨na, nc, rfl, _⟩ := IntsAt.of_owns hrow
    have d3 := (hB3.cell 0).trans rfl
    obtain ⟨yi, xr, hxr⟩ := y
    simp only
    have hWd : Below w.heap.size w W.drew := hBw.drew
    by_cases hle : xr ≤ rd
    · have HN : Hid (∀ rest, aheadGo x V rd [] ((pre ++ [(yi, (⟨xr, hxr⟩ : Tn))]).map (·.2.1) ++ rest) = rd) := by
        intro rest
        rw [List.map_append, List.append_assoc, HA.out]
        simp [aheadGo, hle]
      clear HA HO
      gi_wp2
      exact ⟨(KeepsOthers.refl _).from _, 0, .inr ⟨rfl, HN⟩, h1.below hB (by omega), e2, hBw⟩
    · have HN : Hid (∀ rest, aheadGo x V rd [] ((pre ++ [(yi, (⟨xr, hxr⟩ : Tn))]).map (·.2.1) ++ rest) = if totP x < 3 * wtP x (othersP N (V xr)) then xr else aheadGo x V rd (othersP N (V xr)) rest) := by
        intro rest
        rw [List.map_append, List.append_assoc, HA.out]
        simp only [List.map_cons, List.map_nil, List.singleton_append, aheadGo, if_neg hle]
      obtain ⟨O, hO⟩ : ∃ O, (R xr).map Vt.f = O := ⟨_, rfl⟩
      have hOl : O.length ≤ 192 := by rw [← hO, List.length_map]; exact hRl xr
      have HVO : V xr = O := by rw [HV.out]; exact hO
      rw [HVO] at HN
      clear HA HVO
      gi_wp2
      have hH : W.drew.cell? ⟨w.heap.size + 3, 0, none⟩ = some (.slice na N.length nc) ∧ W.drew.cell? ⟨w.heap.size, 0, none⟩ = some (.pointer (some ⟨cb, 0, none⟩)) := ⟨d3, d0⟩
      refine wpIn_region_last (S := fun w' => w'.cell? ⟨w.heap.size + 3, 0, none⟩ = some (.slice na N.length nc) ∧ w'.cell? ⟨w.heap.size, 0, none⟩ = some (.pointer (some ⟨cb, 0, none⟩))) l _ 6 _ rfl (by kernel_rfl) hfm (by kernel_rfl) (fun ⟨_, _, h⟩ => h) ?_
      simp only [List.setIfInBounds_toArray, List.set_cons_zero, List.set_cons_succ]
      refine wpAnyH_take (i := 0) (v := ?_) rfl (by kernel_rfl) (by kernel_rfl) (by kernel_rfl) (fun _ _ _ h => h) (Or.inl ⟨by kernel_rfl, ?_⟩) (by assumption) ?_
      rotate_left
      · intro w' hSw
        have y3 := hSw.1
        have y0 := hSw.2
        go_simp
        try (with_reducible rfl)
      simp only [Act.put, List.getElem_toArray, List.getElem_cons_succ, List.getElem_cons_zero, List.setIfInBounds_toArray, List.set_cons_zero, List.set_cons_succ]
      refine wpAnyH_take (i := 1) (v := ?_) rfl (by kernel_rfl) (by kernel_rfl) (by kernel_rfl) (fun _ _ _ h => h) (Or.inl ⟨by kernel_rfl, ?_⟩) (by assumption) ?_
      rotate_left
      · intro w' hSw
        have y3 := hSw.1
        have y0 := hSw.2
        go_simp
        try (with_reducible rfl)
      simp only [Act.put, List.getElem_toArray, List.getElem_cons_succ, List.getElem_cons_zero, List.setIfInBounds_toArray, List.set_cons_zero, List.set_cons_succ]
      refine wpAnyH_take (i := 2) (v := ?_) rfl (by kernel_rfl) (by kernel_rfl) (by kernel_rfl) (fun _ _ _ h => h) (Or.inl ⟨by kernel_rfl, ?_⟩) (by assumption) ?_
      rotate_left
      · intro w' hSw
        have y3 := hSw.1
        have y0 := hSw.2
        go_simp
        try (with_reducible rfl)
      simp only [Act.put, List.getElem_toArray, List.getElem_cons_succ, List.getElem_cons_zero, List.setIfInBounds_toArray, List.set_cons_zero, List.set_cons_succ]
      refine wpAnyH_ready (rs := [3]) (by kernel_rfl) (by simp) ?_
      refine AllReadyH.cons rfl (fun K hK => ?_) AllReadyH.nil
      go_simp
      refine (HO ⟨xr, hxr⟩ _ hWd).mono ?_
      rintro e w5 ⟨⟨v5, rfl, o5⟩, b5⟩
      obtain ⟨va, vc, rfl, s5⟩ := VotesAt.of_owns o5
      have b5' : Below W.heap.size W w5 := (Below.refl W.heap.size W).drew.trans b5
      have hH5 : w5.cell? ⟨w.heap.size + 3, 0, none⟩ = some (.slice na N.length nc) ∧ w5.cell? ⟨w.heap.size, 0, none⟩ = some (.pointer (some ⟨cb, 0, none⟩)) := ⟨(b5'.cell (p := ⟨w.heap.size + 3, 0, none⟩) z3).trans d3, (b5'.cell (p := ⟨w.heap.size, 0, none⟩) z0).trans d0⟩
      refine hK.out _ _ hH5 (fun _ => ?_)
      clear hK K
      try simp only [Act.put, List.getElem_toArray, List.getElem_cons_succ, List.getElem_cons_zero, List.setIfInBounds_toArray, List.set_cons_zero, List.set_cons_succ]
      refine wpAnyH_ready (rs := [4]) (by kernel_rfl) (by simp) ?_
      refine AllReadyH.cons rfl (fun K hK => ?_) AllReadyH.nil
      go_simp
      have KV := voters_any va vc (R xr) w5 (by have := hRl xr; omega) s5
      rw [hO] at KV
      refine KV.mono ?_
      clear KV hO
      rintro e w6 ⟨⟨v6, rfl, o6⟩, b6⟩
      have hfr6 := fun la n c (h : v6 = .slice la n c) => owns_fresh (h ▸ o6)
      obtain ⟨oa, oc, rfl, s6⟩ := IntsAt.of_owns o6
      have hfr6 := hfr6 _ _ _ rfl
      have b6' : Below W.heap.size W w6 := b5'.trans (b6.mono b5'.size)
      have hH6 : w6.cell? ⟨w.heap.size + 3, 0, none⟩ = some (.slice na N.length nc) ∧ w6.cell? ⟨w.heap.size, 0, none⟩ = some (.pointer (some ⟨cb, 0, none⟩)) := ⟨(b6'.cell (p := ⟨w.heap.size + 3, 0, none⟩) z3).trans d3, (b6'.cell (p := ⟨w.heap.size, 0, none⟩) z0).trans d0⟩
      refine hK.out _ _ hH6 (fun _ => ?_)
      clear hK K
      try simp only [Act.put, List.getElem_toArray, List.getElem_cons_succ, List.getElem_cons_zero, List.setIfInBounds_toArray, List.set_cons_zero, List.set_cons_succ]
      refine wpAnyH_ready (rs := [5]) (by kernel_rfl) (by simp) ?_
      refine AllReadyH.cons rfl (fun K hK => ?_) AllReadyH.nil
      go_simp
      have own6 := owns_keep hrow b6'
      have hNE : ∀ a, oa = some a → (Value.slice na N.length nc).ownBlock ≠ some a.block := fun a ha e => by
        have h1 := hfr6 a ha
        have h2 := (hrow.lt _ e).2
        have h3 := b5'.size
        omega
      refine (others_any (w.heap.size + 5) (.slice na N.length nc) N oa oc O w6 (by have := b6'.size; omega) own6 s6 hNE (by omega) (by omega)).mono ?_
      rintro e w7 ⟨⟨v7, rfl, o7⟩, b7, ko7⟩
      obtain ⟨ma, mc, rfl, s7⟩ := IntsAt.of_owns o7
      have b7' : Below (w.heap.size + 5) W w7 := (b6'.mono (by omega)).trans b7
      have hH7 : w7.cell? ⟨w.heap.size + 3, 0, none⟩ = some (.slice na N.length nc) ∧ w7.cell? ⟨w.heap.size, 0, none⟩ = some (.pointer (some ⟨cb, 0, none⟩)) := ⟨(b7'.cell (p := ⟨w.heap.size + 3, 0, none⟩) (by show w.heap.size + 3 < w.heap.size + 5; omega)).trans d3, (b7'.cell (p := ⟨w.heap.size, 0, none⟩) (by show w.heap.size < w.heap.size + 5; omega)).trans d0⟩
      refine hK.out _ _ hH7 (fun _ => ?_)
      clear hK K
      try simp only [Act.put, List.getElem_toArray, List.getElem_cons_succ, List.getElem_cons_zero, List.setIfInBounds_toArray, List.set_cons_zero, List.set_cons_succ]
      refine wpAnyH_take (i := 6) (v := ?_) rfl (by kernel_rfl) (by kernel_rfl) (by kernel_rfl) (fun _ _ _ h => h) (Or.inl ⟨by kernel_rfl, ?_⟩) (by assumption) ?_
      rotate_left
      · intro w' hSw
        have y3 := hSw.1
        have y0 := hSw.2
        go_simp
        try (with_reducible rfl)
      simp only [Act.put, List.getElem_toArray, List.getElem_cons_succ, List.getElem_cons_zero, List.setIfInBounds_toArray, List.set_cons_zero, List.set_cons_succ]
      refine wpAnyH_done (by kernel_rfl) ?_ _
      simp only [ThenLast]
      have e3 := hB3.below b7' (by omega)
      have y7 := (e3.cell 0).trans rfl
      have f7 := e3.frozen 0
      have z7 := e3.lt
      refine wpOp_step rfl (fun K hK => ?_)
      go_simp
      refine hK _ _ ?_
      clear hK K
      have e38 := e3.set 0 (.slice ma (othersP N O).length mc)
      have e48 := (hB4.below b7' (by omega)).setOther ⟨w.heap.size + 3, 0, none⟩ (by simp) (.slice ma (othersP N O).length mc)
      have o8 := ownsRow_setCell_below o7 (a := ⟨w.heap.size + 3, 0, none⟩) (by show w.heap.size + 3 < w.heap.size + 5; omega) (.slice ma (othersP N O).length mc)
      have B8 : Below (w.heap.size + 3) wC (w7.setCell ⟨w.heap.size + 3, 0, none⟩ (.slice ma (othersP N O).length mc)) := (hB.trans (b7'.mono (by omega))).setCell (p := ⟨w.heap.size + 3, 0, none⟩) (Nat.le_refl _) _
      have kf8 : KeepsFrom wC.heap.size W (w7.setCell ⟨w.heap.size + 3, 0, none⟩ (.slice ma (othersP N O).length mc)) := (keeps_below b6').trans ((ko7.trans (KeepsOthers.setCell _ _ _)).from _)
      have s8 : w.heap.size + 5 ≤ (w7.setCell ⟨w.heap.size + 3, 0, none⟩ (.slice ma (othersP N O).length mc)).heap.size := by rw [World.size_setCell]; have := b7'.size; omega
      have hN8 : (othersP N O).length ≤ 192 * (pre ++ [(yi, (⟨xr, hxr⟩ : Tn))]).length := by have := othersP_len N O; rw [List.length_append, List.length_singleton]; omega
      have bW8 : Below w.heap.size W (w7.setCell ⟨w.heap.size + 3, 0, none⟩ (.slice ma (othersP N O).length mc)) := (b7'.mono (by omega)).setCell (p := ⟨w.heap.size + 3, 0, none⟩) (by show w.heap.size ≤ w.heap.size + 3; omega) _
      have hMl : (othersP N O).length ≤ 100000 := by have h := hN8; rw [List.length_append, List.length_singleton] at h; omega
      clear e3 y7 f7 z7 hH hH5 hH6 hH7 s7 o7 own6 hNE hfr6 s6 o6 s5 o5 b5' b6' b6 b5 b7 ko7 d3
      generalize (w7.setCell ⟨w.heap.size + 3, 0, none⟩ (.slice ma (othersP N O).length mc)) = w8 at *
      have HMe : ∃ M, othersP N O = M := ⟨_, rfl⟩
      obtain ⟨M, hM⟩ := HMe
      rw [hM] at e38 o8 hN8 HN hMl
      rw [hM]
      clear hM
      refine (by assumption : ∀ a w, _ → Exit.then _ _ Exit.normal a w) _ _ ?_
      have hBw8 : Below w.heap.size w w8 := bW.trans (B8.mono (by omega))
      have C0 : ∀ w', Below w8.heap.size w8 w' → w'.cell? ⟨w.heap.size, 0, none⟩ = some (.pointer (some ⟨cb, 0, none⟩)) := fun w' hb => by
        have h := h0.below B8 (by omega)
        exact ((h.below hb h.lt).cell 0).trans rfl
      have C3 : ∀ w', Below w8.heap.size w8 w' → w'.cell? ⟨w.heap.size + 3, 0, none⟩ = some (.slice ma M.length mc) := fun w' hb => ((e38.below hb e38.lt).cell 0).trans rfl
      have CC : ∀ w', Below w8.heap.size w8 w' → w'.cell? ⟨cb, 0, none⟩ = some (.slice sa x.length sc) := fun w' hb => ((hBw8.trans (hb.mono hBw8.size)).cell (p := ⟨cb, 0, none⟩) hcb).trans h0'
      have zcb : cb < w8.heap.size := Nat.lt_of_lt_of_le hcb hBw8.size
      obtain ⟨_, _, hj1, hj2⟩ := IntsAt.of_owns o8
      cases hj1
      have KS : ∀ w', Below w8.heap.size w8 w' → Calls Try.prog 39 #[.slice sa x.length sc, .slice ma M.length mc] w' fun e w'' => e = .returned (.bool (decide (totP x < 3 * wtP x M))) ∧ Below w'.heap.size w' w'' := fun w' hb => some_any sa ma sc mc x M w' hx (by unfold maxLen; omega) hw (hS.below (hBw8.trans (hb.mono hBw8.size))) (hj2.below hb)
      obtain ⟨Z, hZ⟩ : ∃ Z, decide (totP x < 3 * wtP x M) = Z := ⟨_, rfl⟩
      rw [hZ] at KS
      have HZ := show Hid (_ = _) from hZ
      clear hZ
      gi_wp2
      rename_i K3 a3
      have hHeld : Below w8.heap.size w8 w8.drew := (Below.refl _ _).drew
      refine wpIn_region_held (S := fun w' => Below w8.heap.size w8 w') l 3 hfm (by kernel_rfl) (fun ⟨_, _, h⟩ => h) ?_
      refine wpAnyH_take (i := 0) (v := ?_) rfl (by kernel_rfl) (by kernel_rfl) (by kernel_rfl) (fun _ _ _ h => h) (Or.inl ⟨by kernel_rfl, ?_⟩) (by assumption) ?_
      rotate_left
      · intro w' hSw
        have y0 := C0 _ hSw
        have y3 := C3 _ hSw
        have yc := CC _ hSw
        go_simp
        try (with_reducible rfl)
      simp only [Act.put, List.getElem_toArray, List.getElem_cons_succ, List.getElem_cons_zero, List.setIfInBounds_toArray, List.set_cons_zero, List.set_cons_succ]
      refine wpAnyH_take (i := 1) (v := ?_) rfl (by kernel_rfl) (by kernel_rfl) (by kernel_rfl) (fun _ _ _ h => h) (Or.inl ⟨by kernel_rfl, ?_⟩) (by assumption) ?_
      rotate_left
      · intro w' hSw
        have y0 := C0 _ hSw
        have y3 := C3 _ hSw
        have yc := CC _ hSw
        go_simp
        try (with_reducible rfl)
      simp only [Act.put, List.getElem_toArray, List.getElem_cons_succ, List.getElem_cons_zero, List.setIfInBounds_toArray, List.set_cons_zero, List.set_cons_succ]
      refine wpAnyH_take (i := 2) (v := ?_) rfl (by kernel_rfl) (by kernel_rfl) (by kernel_rfl) (fun _ _ _ h => h) (Or.inl ⟨by kernel_rfl, ?_⟩) (by assumption) ?_
      rotate_left
      · intro w' hSw
        have y0 := C0 _ hSw
        have y3 := C3 _ hSw
        have yc := CC _ hSw
        go_simp
        try (with_reducible rfl)
      simp only [Act.put, List.getElem_toArray, List.getElem_cons_succ, List.getElem_cons_zero, List.setIfInBounds_toArray, List.set_cons_zero, List.set_cons_succ]
      refine wpAnyH_take (i := 3) (v := ?_) rfl (by kernel_rfl) (by kernel_rfl) (by kernel_rfl) (fun _ _ _ h => h) (Or.inl ⟨by kernel_rfl, ?_⟩) (by assumption) ?_
      rotate_left
      · intro w' hSw
        have y0 := C0 _ hSw
        have y3 := C3 _ hSw
        have yc := CC _ hSw
        go_simp
        try (with_reducible rfl)
      simp only [Act.put, List.getElem_toArray, List.getElem_cons_succ, List.getElem_cons_zero, List.setIfInBounds_toArray, List.set_cons_zero, List.set_cons_succ]
      refine wpAnyH_take (i := 4) (v := ?_) rfl (by kernel_rfl) (by kernel_rfl) (by kernel_rfl) (fun _ _ _ h => h) (Or.inl ⟨by kernel_rfl, ?_⟩) (by assumption) ?_
      rotate_left
      · intro w' hSw
        have y0 := C0 _ hSw
        have y3 := C3 _ hSw
        have yc := CC _ hSw
        go_simp
        try (with_reducible rfl)
      simp only [Act.put, List.getElem_toArray, List.getElem_cons_succ, List.getElem_cons_zero, List.setIfInBounds_toArray, List.set_cons_zero, List.set_cons_succ]
      refine wpAnyH_ready (rs := [5]) (by kernel_rfl) (by simp) ?_
      refine AllReadyH.cons rfl (fun K hK => ?_) AllReadyH.nil
      go_simp
      refine (KS _ (by assumption)).mono ?_
      rintro e w9 ⟨rfl, b9⟩
      have hN9 : Below w8.heap.size w8 w9 := hHeld.trans (b9.mono hHeld.size)
      refine hK.out _ _ hN9 (fun _ => ?_)
      clear hK K
      try simp only [Act.put, List.getElem_toArray, List.getElem_cons_succ, List.getElem_cons_zero, List.setIfInBounds_toArray, List.set_cons_zero, List.set_cons_succ]
      refine wpAnyH_done (by kernel_rfl) ?_ _
      refine a3 _ _ ?_
      have kf9 : KeepsFrom wC.heap.size W w9 := kf8.trans (keeps_below hN9)
      have e39 := e38.below hN9 e38.lt
      have e49 := e48.below hN9 e48.lt
      have o9 := owns_keep o8 hN9
      have B9 : Below (w.heap.size + 3) wC w9 := B8.trans (hN9.mono (by omega))
      have hBw9 : Below w.heap.size w w9 := hBw8.trans (hN9.mono hBw8.size)
      have hB9W : Below w.heap.size W w9 := bW8.trans (hN9.mono (by omega))
      have hB9c : w9.cell? ⟨w.heap.size + 4, 0, none⟩ = W.cell? ⟨w.heap.size + 4, 0, none⟩ := ((e49.cell 0).trans (hB4.cell 0).symm)
      have s9 : w.heap.size + 5 ≤ w9.heap.size := by have := hN9.size; omega
      clear C0 C3 CC KS hHeld a3
      cases Z with
      | false =>
        have HN9 : Hid (∀ rest, aheadGo x V rd [] ((pre ++ [(yi, (⟨xr, hxr⟩ : Tn))]).map (·.2.1) ++ rest) = aheadGo x V rd M rest) := fun rest => by rw [HN.out, if_neg (of_decide_eq_false HZ.out)]
        gi_wp2
        exact ⟨kf9, ⟨hB9W, hB9c⟩, _, M, HN9, e39, e49, o9, hN8, B9, s9⟩
      | true =>
        have HN9 : Hid (∀ rest, aheadGo x V rd [] ((pre ++ [(yi, (⟨xr, hxr⟩ : Tn))]).map (·.2.1) ++ rest) = xr) := fun rest => by rw [HN.out, if_pos (of_decide_eq_true HZ.out)]
        have e2 := h2.below B9 (by omega)
        have y2 := (e2.cell 0).trans rfl
        have f2 := e2.frozen 0
        have z2 := e2.lt
        gi_wp2
        exact ⟨kf9.trans ((KeepsOthers.setCell _ _ _).from _), xr, .inl ⟨rfl, HN9⟩, (h1.below B9 (by omega)).setOther _ (by simp) _, e2.set 0 _, hBw9.setCell (p := ⟨w.heap.size + 2, 0, none⟩) (by show w.heap.size ≤ w.heap.size + 2; omega) _⟩
  case done =>
    rintro D ys W hD rfl ⟨nv, N, HA, hB3, hB4, hrow, hNl, hB, hsW⟩ hK
    have HR : Hid (aheadGo x V rd [] (zs.map (·.1)).reverse = rd) := by
      show _ = _
      have h := HA.out []
      rw [List.append_nil, backs_rev] at h
      rw [h]; rfl
    have hBw : Below w.heap.size w W := bW.trans (hB.mono (by omega))
    have u1 := h1.below hB (by omega)
    have u2 := h2.below hB (by omega)
    clear HA hB3 hB4 hrow
    have y1 := (u1.cell 0).trans rfl
    have y2 := (u2.cell 0).trans rfl
    have f2 := u2.frozen 0
    have z2 := u2.lt
    have z1 := u1.lt
    gi_wp2
    have u2' := u2.set 0 (.int .i64 rd)
    have B7' := hBw.setCell (p := ⟨w.heap.size + 2, 0, none⟩) (by show w.heap.size ≤ w.heap.size + 2; omega) (.int .i64 rd)
    have hK7 := (KeepsOthers.setCell W ⟨w.heap.size + 2, 0, none⟩ (.int .i64 rd)).same D _ hK rfl
    have t2 := blk_put u2' hK7 (.deferred none)
    have y0 := (t2.cell 0).trans rfl
    have B8 := B7'.trans (belowK_b (w := w) (Nat.le_refl _) _ D _ (.deferred none) (by omega) hK7 rfl rfl)
    refine ⟨by simp, .inl ⟨_, _, rfl, run_takeDeferred hK7, ?_⟩⟩
    refine ⟨.int .i64 rd, by simp [results, Try.results17, go_sem, y0], ?_, B8⟩
    rw [HR.out]
  case stop =>
    rintro D c pre W hD ⟨k, hk, rfl⟩ ⟨z, hc, u1, u2, B7⟩ hK
    have HT : ∀ v, (∀ rest, aheadGo x V rd [] ((backs zs k).map (·.2.1) ++ rest) = v) → aheadGo x V rd [] (zs.map (·.1)).reverse = v := fun v h => by
      have h2 := h ((zs.map (·.1)).reverse.drop k)
      rw [backs_take zs k hk, List.take_append_drop] at h2
      exact h2
    rcases hc with ⟨rfl, HR⟩ | ⟨rfl, HR⟩
    · have HE := show Hid _ from HT _ HR.out
      clear HT HR
      gi_wp2
      have t2 := blk_put u2 hK (.deferred none)
      have y0 := (t2.cell 0).trans rfl
      have B8 := B7.trans (belowK_b (w := w) (Nat.le_refl _) _ D _ (.deferred none) (by omega) hK rfl rfl)
      refine ⟨by simp, .inl ⟨_, _, rfl, run_takeDeferred hK, ?_⟩⟩
      refine ⟨.int .i64 z, by simp [results, Try.results17, go_sem, y0], ?_, B8⟩
      rw [HE.out]
    · have HE := show Hid _ from HT _ HR.out
      clear HT HR
      have y1 := (u1.cell 0).trans rfl
      have y2 := (u2.cell 0).trans rfl
      have f2 := u2.frozen 0
      have z2 := u2.lt
      have z1 := u1.lt
      gi_wp2
      have u2' := u2.set 0 (.int .i64 rd)
      have B7' := B7.setCell (p := ⟨w.heap.size + 2, 0, none⟩) (by show w.heap.size ≤ w.heap.size + 2; omega) (.int .i64 rd)
      have hK7 := (KeepsOthers.setCell W ⟨w.heap.size + 2, 0, none⟩ (.int .i64 rd)).same D _ hK rfl
      have t2 := blk_put u2' hK7 (.deferred none)
      have y0 := (t2.cell 0).trans rfl
      have B8 := B7'.trans (belowK_b (w := w) (Nat.le_refl _) _ D _ (.deferred none) (by omega) hK7 rfl rfl)
      refine ⟨by simp, .inl ⟨_, _, rfl, run_takeDeferred hK7, ?_⟩⟩
      refine ⟨.int .i64 rd, by simp [results, Try.results17, go_sem, y0], ?_, B8⟩
      rw [HE.out]
end Go.Proofs.Ytimcddknoanghaa
