/- The way of a proof: its images. -/
import Derived.RangeFuncNested
import Derived.RangeFuncWrites
import Derived.RangeFuncBox
import Derived.Maps.AppendAt
import Derived.Maps.OwnIn
import Derived.Test.YtcpjcjonlkgblaaM42
import Derived.Test.YtcpjcjonlkgblaaTRPut
namespace Go.Proofs.Ytcpjcjonlkgblaa
open Go.RowKit Go.Shelf
attribute [local go_sem] Oper.semAt_some
set_option linter.unusedVariables false
set_option linter.unusedSimpArgs false

set_option maxRecDepth 100000 in
set_option maxHeartbeats 4000000 in
theorem way_leaf (wd : Int) (la : Option Addr) (cap : Nat) (key val : Key) (zs : List Tn) (w : World) (hw : okW wd) (hz : zs.length ≤ 100000) (hk1 : key.length ≤ maxLen) (hv : val.length ≤ maxLen) (hT : TurnsAt w la (zs.map (·.1))) :
    Calls Try.prog 40 #[.int .i64 wd, .agg #[.slice la zs.length cap, .bool true, .string (str key), .string (str val)]] w fun e W' => ∃ v E, e = .returned v ∧ Imgs W' v E ∧ E.map Ent.img = wayP wd ⟨true, key, val, zs.map (·.1)⟩ ∧ Below w.heap.size w W' ∧ ∀ g n c, v = .slice (some ⟨g, 0, none⟩) n c → w.heap.size ≤ g := by
  refine (callsIn_wide (n := 5)).1 ?_
  refine callsIn_of_wp_marks Try.func40 rfl trivial ?_ rfl
  simp only [Try.ntmps40, List.size_toArray, List.length_cons, List.length_nil, Nat.reduceAdd, Nat.reduceSub, Array.replicate_succ, Array.replicate_zero, List.push_toArray, List.append_toArray, List.nil_append, List.cons_append]
  obtain ⟨i0, hi, hz0, hz1, hz2⟩ := info_parts infoImg
  have hfm : Try.prog.follows .mixedOrders = true := by kernel_rfl
  have hdd : ∀ k : Nat, (Fence.wide.depth.isSome = true → 1 ≤ k) := fun k h => by cases h
  have KL := fun m w0 => (callsIn_wide (n := m)).2 (entryI_new (str key) (str val) w0 (by rw [str_size]; exact hk1) (by rw [str_size]; exact hv))
  obtain ⟨wB, HwB⟩ : ∃ x, Hid (x = (w.alloc (.cells #[.int .i64 wd] 3)).alloc (.cells #[.slice la zs.length cap, .bool true, .string (str key), .string (str val)] 25)) := ⟨_, rfl⟩
  have bB : Below w.heap.size w wB := by rw [HwB.out]; exact ((Below.refl _ _).alloc (Nat.le_refl _) _).alloc (by simp) _
  have sB : wB.heap.size = w.heap.size + 2 := by rw [HwB.out]; simp
  have kW : Blk wB w.heap.size #[.int .i64 wd] 3 := by rw [HwB.out]; exact (Blk.new w _ _).alloc _
  have kP : Blk wB (w.heap.size + 1) #[.slice la zs.length cap, .bool true, .string (str key), .string (str val)] 25 := by
    rw [HwB.out]
    have h0 := Blk.new (w.alloc (.cells #[.int .i64 wd] 3)) #[.slice la zs.length cap, .bool true, .string (str key), .string (str val)] 25
    rw [World.size_alloc] at h0
    exact h0
  gi_wp2_with (first
    | ((try refine ⟨trivial, ?_⟩); (try refine ⟨hdd _, ?_⟩); gi_at_call 56; refine (KL _ _).mono ?_; rintro e w1 ⟨v1, rfl, ⟨b1, c1, rfl, h1a, h1b, h1c⟩, b1'⟩
       rw [← HwB.out] at b1' h1a
       have kP1 := kP.below b1' kP.lt
       have p0 := ((((kP1.alloc (.cells #[.int .i64 3, .slice (some ⟨b1, 0, none⟩) 2 c1] 47)).alloc (.cells #[.int .i64 3, .slice (some ⟨b1, 0, none⟩) 2 c1] 47)).alloc (.cells #[.slice (some ⟨w1.heap.size + 1, 0, none⟩) 1 1] 70)).cell 0).trans rfl)
    | ((try refine ⟨trivial, ?_⟩); (try refine ⟨hdd _, ?_⟩); gi_at_call 57; refine (back_in _ _ _ _ _).mono ?_; rintro e w2 ⟨rfl, rfl⟩))
  obtain ⟨w4, Hw4⟩ : ∃ x, Hid (x = ((((w1.alloc (.cells #[.int .i64 3, .slice (some ⟨b1, 0, none⟩) 2 c1] 47)).alloc (.cells #[.int .i64 3, .slice (some ⟨b1, 0, none⟩) 2 c1] 47)).alloc (.cells #[.slice (some ⟨w1.heap.size + 1, 0, none⟩) 1 1] 70)).alloc (.cells #[.slice la zs.length cap] 23))) := ⟨_, rfl⟩
  have hW0 := way_start (wd := wd) (key := key) (val := val) (bsv := .slice la zs.length cap) (c1 := c1) b1' h1a h1b h1c
  have s4 : w4.heap.size = w1.heap.size + 4 := by rw [Hw4.out]; simp
  rw [← Hw4.out] at hW0
  rw [← Hw4.out]
  simp only [Nat.add_assoc, Nat.reduceAdd]
  have hT4 : TurnsAt w4 la (zs.map (·.1)) := hT.below (bB.trans (hW0.below.mono bB.size))
  generalize w1.heap.size = L at *
  clear p0 kP1
  refine wpIn_rangeFunc_ownH rfl (by omega) (gf := 69) (lb := #[.pointer (some ⟨L + 3, 0, none⟩)]) rfl trivial (enters_of Try.func69 (by kernel_rfl) rfl)
    (back_stops 4 (L + 3) wB.heap.size cap la zs (by omega) w4 hW0.it.lt ((hW0.it.cell 0).trans rfl) hT4 (fun hne b off e => ?_)) (fun h k => KpB.trans h k) (fun W l o o' hl hWl ho hw => ?_) (Below.refl _ _) (fun _ => rfl)
    (fun (pre : List (Nat × Tn)) W => ∃ E0 e sv, WayAt wB L wd key val (.slice la zs.length cap) (turnsOf pre) E0 e sv W)
    (fun _ _ _ => False)
    (fun pre W W' row ⟨E0, e, sv, h⟩ hg hr => ⟨E0, e, sv, h.own (by have := hW0.below.size; omega) hg hr⟩)
    (fun _ _ _ _ _ hs _ _ => hs)
    ⟨_, _, _, hW0⟩
    (fun x a' W => ∃ B, L + 4 ≤ B ∧ Blk W B #[.int .i64 x.2.1.1, .int .u64 x.2.1.2] 69 ∧ a' = { tmps := #[.int .i64 wd, .agg #[.slice la zs.length cap, .bool true, .string (str key), .string (str val)], .pointer (some ⟨w.heap.size, 0, none⟩), .pointer (some ⟨w.heap.size + 1, 0, none⟩), .slice none 0 0, .pointer (some ⟨L, 0, none⟩), .pointer (some ⟨L + 2, 0, none⟩), undef, .pointer (some ⟨B, 0, none⟩), undef, undef, .pointer (some ⟨w.heap.size + 1, 1, none⟩), .bool true, .bool false, undef, undef, .pointer (some ⟨w.heap.size + 1, 2, none⟩), .string (str key), .pointer (some ⟨w.heap.size + 1, 3, none⟩), .string (str val), .agg #[.int .i64 3, .slice (some ⟨b1, 0, none⟩) 2 c1], .agg #[.int .i64 3, .slice (some ⟨b1, 0, none⟩) 2 c1], .slice (some ⟨L + 1, 0, none⟩) 1 1, .pointer (some ⟨w.heap.size + 1, 0, none⟩), .slice la zs.length cap, .func (.func 69) #[] #[.pointer (some ⟨L + 3, 0, none⟩)], .int .i64 (x.1 : Int), .agg #[.int .i64 x.2.1.1, .int .u64 x.2.1.2], undef, undef, undef, undef, undef, undef, undef, undef, undef, undef, undef, undef, undef, undef, undef, undef, undef, undef, undef, undef, undef, undef, undef, undef, undef, undef, undef, undef, undef, undef, undef, undef], defers := [] })
    (fun x a' _ W W' row ⟨B, hB, hk, ha⟩ hg hr => ⟨B, hB, blk_grownN hk hg (fun r e => (hr r e).2), ha⟩)
    ?assign ?body ?done ?stop
  · rcases hT with h | ⟨b2, o2, e2, hl, _⟩
    · exact absurd (List.map_eq_nil_iff.1 h) hne
    · rw [e2] at e; injection e with e; injection e with e _; have := bB.size; omega
  · refine ⟨belowK_b (w := w4) hW0.below.size W l o o' hl hWl ho hw, ?_⟩
    exact (belowK_b (n₀ := L + 4) (w := w4) (by omega) W l o o' hl hWl ho hw).cell (p := ⟨L + 3, 0, none⟩) (by show L + 3 < L + 4; omega)
  case assign =>
    rintro l pre x W K ⟨E0, e, sv, h⟩ hK
    gi_wp2
    have hb : Below W.heap.size W (W.alloc (.cells #[.int .i64 x.2.1.1, .int .u64 x.2.1.2] 69)) := (Below.refl _ _).alloc (Nat.le_refl _) _
    have zi := h.it.lt
    exact hK _ _ (keeps_below hb) ⟨hb.mono h.below.size, hb.cell (p := ⟨L + 3, 0, none⟩) zi⟩ ⟨E0, e, sv, h.next hb⟩ ⟨_, by omega, Blk.new _ _ _, rfl⟩
  case body =>
    rintro l pre x a' W hl hlp ⟨E0, e, sv, h⟩ ⟨B, hB, hk, rfl⟩ hlt
    have hB1 := h.below
    have zW : w.heap.size < wB.heap.size := by omega
    have C1 : ∀ w', Below W.heap.size W w' → w'.cell? ⟨w.heap.size, 0, none⟩ = some (.int .i64 wd) := fun w' hb => ((kW.below (hB1.trans (hb.mono hB1.size)) kW.lt).cell 0).trans rfl
    have C2 : ∀ w', Below W.heap.size W w' → w'.cell? ⟨L, 0, none⟩ = some (.int .i64 e.tag) := fun w' hb => ((h.last.below hb h.last.lt).cell 0).trans rfl
    have C3 : ∀ w', Below W.heap.size W w' → w'.cell? ⟨L, 1, none⟩ = some (.slice e.a e.ss.length e.cap) := fun w' hb => ((h.last.below hb h.last.lt).cell 1).trans rfl
    have C4 : ∀ w', Below W.heap.size W w' → w'.cell? ⟨B, 1, none⟩ = some (.int .u64 x.2.1.2) := fun w' hb => ((hk.below hb hk.lt).cell 1).trans rfl
    have hE := h.ok e (by simp)
    have KO : ∀ w', Below W.heap.size W w' → Calls Try.prog 18 #[.int .i64 wd, .agg #[.int .i64 e.tag, .slice e.a e.ss.length e.cap]] w' fun e' w'' => e' = .returned (.int .u64 (upsD wd key val (turnsOf pre))) ∧ Below w'.heap.size w' w'' := fun w' hb => by
      have := ofImg_any wd e.tag e.ss (.agg #[.int .i64 e.tag, .slice e.a e.ss.length e.cap]) w' hw (by have := h.few; unfold maxLen; omega) ⟨_, _, rfl, hE.1.below hb⟩
      rw [← h.dig]
      exact this
    gi_wp2
    rename_i K1 a1 K2 a2
    have hHeld : Below W.heap.size W W.drew := (Below.refl _ _).drew
    refine wpIn_region_held (S := fun w' => Below W.heap.size W w') l 3 hfm (by kernel_rfl) (fun ⟨_, _, h⟩ => h) ?_
    refine wpAnyH_take (i := 0) (v := ?_) rfl (by kernel_rfl) (by kernel_rfl) (by kernel_rfl) (fun _ _ _ h => h) (Or.inl ⟨by kernel_rfl, ?_⟩) (by assumption) ?_
    rotate_left
    · intro w' hSw
      have y1 := C1 _ hSw
      have y2 := C2 _ hSw
      have y3 := C3 _ hSw
      have y4 := C4 _ hSw
      go_simp
      try (with_reducible rfl)
    simp only [Act.put, List.getElem_toArray, List.getElem_cons_succ, List.getElem_cons_zero, List.setIfInBounds_toArray, List.set_cons_zero, List.set_cons_succ]
    refine wpAnyH_take (i := 1) (v := ?_) rfl (by kernel_rfl) (by kernel_rfl) (by kernel_rfl) (fun _ _ _ h => h) (Or.inl ⟨by kernel_rfl, ?_⟩) (by assumption) ?_
    rotate_left
    · intro w' hSw
      have y1 := C1 _ hSw
      have y2 := C2 _ hSw
      have y3 := C3 _ hSw
      have y4 := C4 _ hSw
      go_simp
      try (with_reducible rfl)
    simp only [Act.put, List.getElem_toArray, List.getElem_cons_succ, List.getElem_cons_zero, List.setIfInBounds_toArray, List.set_cons_zero, List.set_cons_succ]
    refine wpAnyH_take (i := 3) (v := ?_) rfl (by kernel_rfl) (by kernel_rfl) (by kernel_rfl) (fun _ _ _ h => h) (Or.inl ⟨by kernel_rfl, ?_⟩) (by assumption) ?_
    rotate_left
    · intro w' hSw
      have y1 := C1 _ hSw
      have y2 := C2 _ hSw
      have y3 := C3 _ hSw
      have y4 := C4 _ hSw
      go_simp
      try (with_reducible rfl)
    simp only [Act.put, List.getElem_toArray, List.getElem_cons_succ, List.getElem_cons_zero, List.setIfInBounds_toArray, List.set_cons_zero, List.set_cons_succ]
    refine wpAnyH_take (i := 4) (v := ?_) rfl (by kernel_rfl) (by kernel_rfl) (by kernel_rfl) (fun _ _ _ h => h) (Or.inl ⟨by kernel_rfl, ?_⟩) (by assumption) ?_
    rotate_left
    · intro w' hSw
      have y1 := C1 _ hSw
      have y2 := C2 _ hSw
      have y3 := C3 _ hSw
      have y4 := C4 _ hSw
      go_simp
      try (with_reducible rfl)
    simp only [Act.put, List.getElem_toArray, List.getElem_cons_succ, List.getElem_cons_zero, List.setIfInBounds_toArray, List.set_cons_zero, List.set_cons_succ]
    refine wpAnyH_ready (rs := [2]) (by kernel_rfl) (by simp) ?_
    refine AllReadyH.cons rfl (fun K hK => ?_) AllReadyH.nil
    go_simp
    refine (KO _ (by assumption)).mono ?_
    rintro e' w5 ⟨rfl, b5⟩
    have hN : Below W.heap.size W w5 := hHeld.trans (b5.mono hHeld.size)
    refine hK.out _ _ hN (fun _ => ?_)
    clear hK K
    refine wpAnyH_take (i := 5) (v := ?_) rfl (by kernel_rfl) (by kernel_rfl) (by kernel_rfl) (fun _ _ _ h => h) (Or.inl ⟨by kernel_rfl, ?_⟩) (by assumption) ?_
    rotate_left
    · intro w' hSw
      have y1 := C1 _ hSw
      have y2 := C2 _ hSw
      have y3 := C3 _ hSw
      have y4 := C4 _ hSw
      go_simp
      try (with_reducible rfl)
    simp only [Act.put, List.getElem_toArray, List.getElem_cons_succ, List.getElem_cons_zero, List.setIfInBounds_toArray, List.set_cons_zero, List.set_cons_succ]
    refine wpAnyH_take (i := 6) (v := ?_) rfl (by kernel_rfl) (by kernel_rfl) (by kernel_rfl) (fun _ _ _ h => h) (Or.inl ⟨by kernel_rfl, ?_⟩) (by assumption) ?_
    rotate_left
    · intro w' hSw
      have y1 := C1 _ hSw
      have y2 := C2 _ hSw
      have y3 := C3 _ hSw
      have y4 := C4 _ hSw
      go_simp
      try (with_reducible rfl)
    simp only [Act.put, List.getElem_toArray, List.getElem_cons_succ, List.getElem_cons_zero, List.setIfInBounds_toArray, List.set_cons_zero, List.set_cons_succ]
    refine wpAnyH_done (by kernel_rfl) ?_ _
    clear C1 C2 C3 C4 KO hE
    have h5 := h.next hN
    have hk5 := hk.below hN hk.lt
    obtain ⟨⟨xi, ⟨⟨xp, xd⟩, hx1, hx2⟩⟩, rfl⟩ : ∃ y, x = y := ⟨_, rfl⟩
    simp only at hx1 hx2 hk5 ⊢
    obtain ⟨p, rfl⟩ : ∃ p : Nat, xp = p := ⟨xp.toNat, by omega⟩
    have cp1 := ((kP.below h5.below kP.lt).cell 2).trans rfl
    have cp2 := (hk5.cell 0).trans rfl
    have zp := (kP.below h5.below kP.lt).lt
    have KB := bit_any key p w5 hk1 (by omega)
    have hel : (E0 ++ [e]).length ≤ 100001 := by have := h.len; simp [turnsOf] at this ⊢; omega
    have KF : ∀ d1 d2 w', 0 ≤ d1 ∧ d1 ≤ 18446744073709551615 → 0 ≤ d2 ∧ d2 ≤ 18446744073709551615 → Calls Try.prog 58 #[.int .i64 p, .int .u64 d1, .int .u64 d2] w' fun e' w'' => ∃ v, e' = .returned v ∧ ImgN w'.heap.size w'' 4 (forkParts p d1 d2) v ∧ Below w'.heap.size w' w'' := fun d1 d2 w' h1 h2 => forkI_new p d1 d2 w' h1 h2
    have hud := upsD_bd wd key val (turnsOf pre)
    have HI : Hid (∀ d, forkImg key ((p : Int), xd) d = (4, if bitP key p = 1 then forkParts p xd d else forkParts p d xd)) := fun d => by simp [forkImg]
    refine a2 _ _ ?_
    rcases bitP_01 key p with hb | hb
    · rw [hb] at KB
      have HI2 := HI.out
      simp only [hb] at HI2
      have HJ := show Hid (_) from HI2
      clear HI2 HI hb
      gi_wp2_with (first
        | ((try refine ⟨trivial, ?_⟩); (try refine ⟨hdd _, ?_⟩); gi_at_call 25; refine (CallsIn.inRound l (callsIn_wide.2 KB)).mono ?_; rintro e' _ ⟨rfl, rfl⟩)
        | ((try refine ⟨trivial, ?_⟩); (try refine ⟨hdd _, ?_⟩); gi_at_call 58; refine (CallsIn.inRound l (callsIn_wide.2 (KF _ _ _ (by omega) (by omega)))).mono ?_
           rintro e' w6 ⟨v6, rfl, ⟨b6, c6, rfl, h6a, h6b, h6c⟩, b6'⟩
           have h6 := h5.next b6'
           have q0 := (h6.last.cell 0).trans rfl
           have q1 := (h6.last.cell 1).trans rfl
           have q2 := (h6.box.cell 0).trans rfl
           have q0f := h6.last.frozen 0
           have q1f := h6.last.frozen 1
           have q2f := h6.box.frozen 0
           have qz := h6.last.lt
           have qz2 := h6.box.lt
           have hgr := fun g cg W4 => WayAt.grow (t := ((p : Int), xd)) (e' := ⟨4, some ⟨b6, 0, none⟩, c6, forkParts p (upsD wd key val (turnsOf pre)) xd⟩) (g := g) (cg := cg) (W4 := W4) h5 b6' rfl h6a h6b h6c (HJ.out _).symm (by simp [forkParts])
           have hrow6 := owns_set2 h6.row L (fun e0 => by have := (h6.row.lt L e0).1; omega) (.int .i64 4) (.slice (some ⟨b6, 0, none⟩) (forkParts p (upsD wd key val (turnsOf pre)) xd).length c6))
        | (gi_at_builtin
           refine wpListIn_append_own_at _ rfl _ _ 70 rfl (L + 1) 47 i0 (.agg #[.int .i64 0, .slice none 0 0]) 2 32 Try.underlying70 hi hz0 hz1 hz2 rfl (by decide) _ _ _ rfl (hrow6.alloc _) ⟨w6.heap.size, 0, none⟩ 1 1 [.int .i64 4, .slice (some ⟨b6, 0, none⟩) (forkParts p (upsD wd key val (turnsOf pre)) xd).length c6] rfl rfl (cells_pair _ _ _ _ _ (by rw [size_setCell, size_setCell])) (by simp [Value.oneCell']) (by unfold maxLen; omega) (by omega) (by simp only [World.size_alloc, size_setCell]; omega) ?_
           intro v7 w7 hown7 hgrow7 _ hat7
           obtain ⟨g7, c7, rfl⟩ := ownsRow_succ hown7
           obtain ⟨hF, hF2, hF3, hF4⟩ := hgr g7 c7 w7 hown7 hgrow7 (hat7.imp (fun e => e.symm) (fun e => by simp only [Value.ownBlock, World.size_alloc, size_setCell] at e; exact Option.some.inj e))
           have r0 := (hF2.cell 0).trans rfl
           have r0f := hF2.frozen 0
           have rz := hF2.lt))
      have hll : (E0 ++ [e]).length = E0.length + 1 := by simp
      rw [hll] at hF hF3 hF4
      rw [s4]
      exact ⟨(keeps_below hN).trans hF3, KpB.trans ⟨hN.mono h.below.size, hN.cell (p := ⟨L + 3, 0, none⟩) h.it.lt⟩ hF4, _, _, _, by rw [turnsOf_snoc]; exact hF⟩
    · rw [hb] at KB
      have HI2 := HI.out
      simp only [hb] at HI2
      have HJ := show Hid (_) from HI2
      clear HI2 HI hb
      gi_wp2_with (first
        | ((try refine ⟨trivial, ?_⟩); (try refine ⟨hdd _, ?_⟩); gi_at_call 25; refine (CallsIn.inRound l (callsIn_wide.2 KB)).mono ?_; rintro e' _ ⟨rfl, rfl⟩)
        | ((try refine ⟨trivial, ?_⟩); (try refine ⟨hdd _, ?_⟩); gi_at_call 58; refine (CallsIn.inRound l (callsIn_wide.2 (KF _ _ _ (by omega) (by omega)))).mono ?_
           rintro e' w6 ⟨v6, rfl, ⟨b6, c6, rfl, h6a, h6b, h6c⟩, b6'⟩
           have h6 := h5.next b6'
           have q0 := (h6.last.cell 0).trans rfl
           have q1 := (h6.last.cell 1).trans rfl
           have q2 := (h6.box.cell 0).trans rfl
           have q0f := h6.last.frozen 0
           have q1f := h6.last.frozen 1
           have q2f := h6.box.frozen 0
           have qz := h6.last.lt
           have qz2 := h6.box.lt
           have hgr := fun g cg W4 => WayAt.grow (t := ((p : Int), xd)) (e' := ⟨4, some ⟨b6, 0, none⟩, c6, forkParts p xd (upsD wd key val (turnsOf pre))⟩) (g := g) (cg := cg) (W4 := W4) h5 b6' rfl h6a h6b h6c (HJ.out _).symm (by simp [forkParts])
           have hrow6 := owns_set2 h6.row L (fun e0 => by have := (h6.row.lt L e0).1; omega) (.int .i64 4) (.slice (some ⟨b6, 0, none⟩) (forkParts p xd (upsD wd key val (turnsOf pre))).length c6))
        | (gi_at_builtin
           refine wpListIn_append_own_at _ rfl _ _ 70 rfl (L + 1) 47 i0 (.agg #[.int .i64 0, .slice none 0 0]) 2 32 Try.underlying70 hi hz0 hz1 hz2 rfl (by decide) _ _ _ rfl (hrow6.alloc _) ⟨w6.heap.size, 0, none⟩ 1 1 [.int .i64 4, .slice (some ⟨b6, 0, none⟩) (forkParts p xd (upsD wd key val (turnsOf pre))).length c6] rfl rfl (cells_pair _ _ _ _ _ (by rw [size_setCell, size_setCell])) (by simp [Value.oneCell']) (by unfold maxLen; omega) (by omega) (by simp only [World.size_alloc, size_setCell]; omega) ?_
           intro v7 w7 hown7 hgrow7 _ hat7
           obtain ⟨g7, c7, rfl⟩ := ownsRow_succ hown7
           obtain ⟨hF, hF2, hF3, hF4⟩ := hgr g7 c7 w7 hown7 hgrow7 (hat7.imp (fun e => e.symm) (fun e => by simp only [Value.ownBlock, World.size_alloc, size_setCell] at e; exact Option.some.inj e))
           have r0 := (hF2.cell 0).trans rfl
           have r0f := hF2.frozen 0
           have rz := hF2.lt))
      have hll : (E0 ++ [e]).length = E0.length + 1 := by simp
      rw [hll] at hF hF3 hF4
      rw [s4]
      exact ⟨(keeps_below hN).trans hF3, KpB.trans ⟨hN.mono h.below.size, hN.cell (p := ⟨L + 3, 0, none⟩) h.it.lt⟩ hF4, _, _, _, by rw [turnsOf_snoc]; exact hF⟩
  case done =>
    rintro D ys W hD rfl ⟨E0, e, sv, h⟩ hK
    rw [turnsOf_all] at h
    gi_wp2
    rename_i K3 a3
    refine wpIn_wide.2 ?_
    have hE := h.ok e (by simp)
    have KO : ∀ w', Below W.heap.size W w' → Calls Try.prog 18 #[.int .i64 wd, .agg #[.int .i64 e.tag, .slice e.a e.ss.length e.cap]] w' fun e' w'' => e' = .returned (.int .u64 (upsD wd key val (zs.map (·.1)))) ∧ Below w'.heap.size w' w'' := fun w' hb => by
      have := ofImg_any wd e.tag e.ss (.agg #[.int .i64 e.tag, .slice e.a e.ss.length e.cap]) w' hw (by have := h.few; unfold maxLen; omega) ⟨_, _, rfl, hE.1.below hb⟩
      rw [← h.dig]
      exact this
    have hud := upsD_bd wd key val (zs.map (·.1))
    have hel : E0.length ≤ 100000 := by have := h.len; simp at this; omega
    have bD : Below W.heap.size W W.drew := (Below.refl _ _).drew
    have hHeld : LastS w.heap.size L wd sv e W.drew := (h.next bD).lastS kW
    refine Code.wp_mono (Q := Exit.then K3 fun _ _ _ => False) (fun e1 a1 w1 h1 => by cases e1 <;> first | exact h1 | exact h1.elim) ?_
    refine wp_region_late (LastS w.heap.size L wd sv e) 7 (by kernel_rfl) ?_
    refine wpAnyM_take (i := 0) (v := ?_) rfl (by kernel_rfl) (by kernel_rfl) (by kernel_rfl) (by kernel_rfl) (by decide) (by kernel_rfl) (fun _ _ _ h => h) (Or.inl ⟨by kernel_rfl, ?_⟩) (by assumption) ?_
    rotate_left
    · intro w' hSw
      obtain ⟨y1, y2, y3, y4⟩ := hSw
      go_simp
      try (with_reducible rfl)
    simp only [Act.put, List.getElem_toArray, List.getElem_cons_succ, List.getElem_cons_zero, List.setIfInBounds_toArray, List.set_cons_zero, List.set_cons_succ]
    refine wpAnyM_take (i := 1) (v := ?_) rfl (by kernel_rfl) (by kernel_rfl) (by kernel_rfl) (by kernel_rfl) (by decide) (by kernel_rfl) (fun _ _ _ h => h) (Or.inl ⟨by kernel_rfl, ?_⟩) (by assumption) ?_
    rotate_left
    · intro w' hSw
      obtain ⟨y1, y2, y3, y4⟩ := hSw
      go_simp
      try (with_reducible rfl)
    simp only [Act.put, List.getElem_toArray, List.getElem_cons_succ, List.getElem_cons_zero, List.setIfInBounds_toArray, List.set_cons_zero, List.set_cons_succ]
    refine wpAnyM_take (i := 2) (v := ?_) rfl (by kernel_rfl) (by kernel_rfl) (by kernel_rfl) (by kernel_rfl) (by decide) (by kernel_rfl) (fun _ _ _ h => h) (Or.inl ⟨by kernel_rfl, ?_⟩) (by assumption) ?_
    rotate_left
    · intro w' hSw
      obtain ⟨y1, y2, y3, y4⟩ := hSw
      go_simp
      try (with_reducible rfl)
    simp only [Act.put, List.getElem_toArray, List.getElem_cons_succ, List.getElem_cons_zero, List.setIfInBounds_toArray, List.set_cons_zero, List.set_cons_succ]
    refine wpAnyM_one (i := 3) (by kernel_rfl) ?_
    refine wpOp_step rfl (fun K hK => ?_)
    go_simp
    refine (KO _ bD).mono ?_
    rintro e' w8 ⟨rfl, b8⟩
    have b8W := bD.trans (b8.mono bD.size)
    refine hK _ _ ⟨fun _ => (h.next b8W).lastS kW, ?_⟩
    clear hK K
    try simp only [Act.put, List.getElem_toArray, List.getElem_cons_succ, List.getElem_cons_zero, List.setIfInBounds_toArray, List.set_cons_zero, List.set_cons_succ]
    refine wpAnyM_one (i := 4) (by kernel_rfl) ?_
    refine wpOp_step rfl (fun K hK => ?_)
    go_simp
    refine (treeI_new _ _ hud).mono ?_
    rintro e' w9 ⟨v9, rfl, ⟨b9, c9, rfl, h9a, h9b, h9c⟩, b9'⟩
    have b9W := b8W.trans (b9'.mono b8W.size)
    refine hK _ _ ⟨fun _ => (h.next b9W).lastS kW, ?_⟩
    clear hK K
    try simp only [Act.put, List.getElem_toArray, List.getElem_cons_succ, List.getElem_cons_zero, List.setIfInBounds_toArray, List.set_cons_zero, List.set_cons_succ]
    refine wpAnyM_one (i := 5) (by kernel_rfl) ?_
    refine wpOp_step rfl (fun K hK => ?_)
    go_simp
    have bA : Below w9.heap.size w9 (w9.alloc (.cells #[.int .i64 5, .slice (some ⟨b9, 0, none⟩) 1 c9] 47)) := (Below.refl _ _).alloc (Nat.le_refl _) _
    refine hK _ _ ⟨fun _ => ((h.next b9W).next bA).lastS kW, ?_⟩
    clear hK K
    try simp only [Act.put, List.getElem_toArray, List.getElem_cons_succ, List.getElem_cons_zero, List.setIfInBounds_toArray, List.set_cons_zero, List.set_cons_succ]
    have hll : (E0 ++ [e]).length = E0.length + 1 := by simp
    refine wpAnyM_one (i := 6) (by kernel_rfl) ?_
    refine wpOp_step rfl (fun K hK => ?_)
    refine step_append_lies _ rfl _ _ 70 rfl (L + 1) 47 i0 (.agg #[.int .i64 0, .slice none 0 0]) 2 32 Try.underlying70 hi hz0 hz1 hz2 rfl (by decide) sv (E0 ++ [e]).length (flatE (E0 ++ [e])) rfl ((h.next b9W).row.alloc _) ⟨w9.heap.size, 0, none⟩ 1 1 [.int .i64 5, .slice (some ⟨b9, 0, none⟩) 1 c9] rfl rfl (cells_pair _ _ _ _ _ rfl) (by simp [Value.oneCell']) (by omega) (by unfold maxLen; omega) (by omega) (by have := h.it.lt; have := b9W.size; simp only [World.size_alloc]; omega) (w9.heap.size + 1) (by simp) ?_
    intro g c10 w10 hown10 hgrow10 hat10 hlt10
    obtain ⟨hT1, hT2, hT3⟩ := WayAt.top (e' := ⟨5, some ⟨b9, 0, none⟩, c9, [str (be (upsD wd key val (zs.map (·.1))) 8)]⟩) kW h b9W rfl (by have := b8W.size; omega) h9b h9c rfl hown10 hgrow10 hat10
    refine hK _ _ ⟨fun _ => hT1, ?_⟩
    clear hK K
    try simp only [Act.put, List.getElem_toArray, List.getElem_cons_succ, List.getElem_cons_zero, List.setIfInBounds_toArray, List.set_cons_zero, List.set_cons_succ]
    refine wpAnyM_one (i := 7) (by kernel_rfl) ?_
    refine wpOp_step rfl (fun K hK => ?_)
    have r0 := (hT2.cell 0).trans rfl
    have r0f := hT2.frozen 0
    have rz := hT2.lt
    go_simp
    refine hK _ _ ⟨fun h => absurd h (by decide), ?_⟩
    clear hK K
    refine wpAnyM_done (by kernel_rfl) ?_ _
    try simp only [Exit.then]
    refine a3 _ _ ?_
    obtain ⟨kF, gne, gL, okF, apF, belF, kpF, mapF, cur, kcur, hsz, hcg, hcm, hH⟩ := hT3 _ rfl
    have hKF := kpF.same D _ ((b9W.block D (Array.getElem?_eq_some_iff.1 hK).1).trans hK) rfl
    have hlen3 : (E0 ++ [e] ++ [(⟨5, some ⟨b9, 0, none⟩, c9, [str (be (upsD wd key val (zs.map (·.1))) 8)]⟩ : Ent)]).length = (E0 ++ [e]).length + 1 := by simp
    rw [← hll]
    generalize E0 ++ [e] ++ [(⟨5, some ⟨b9, 0, none⟩, c9, [str (be (upsD wd key val (zs.map (·.1))) 8)]⟩ : Ent)] = EE at *
    generalize w10.setCell ⟨L + 2, 0, none⟩ (.slice (some ⟨g, 0, none⟩) ((E0 ++ [e]).length + 1) c10) = wF at *
    have hnE : (E0 ++ [e]).length + 1 = EE.length := hlen3.symm
    rw [hnE] at kF apF
    rw [hnE]
    have hEE : EE.length ≤ 4611686018427387904 := by omega
    have KR := rev_any g EE.length c10 cur EE wF rfl hEE hsz kcur hH
    have f0 := (kF.cell 0).trans rfl
    have fz := kF.lt
    clear hT1 hT2 hT3 hown10 hgrow10 r0 r0f rz hlen3 hnE hll
    gi_wp2_with ((try refine ⟨trivial, ?_⟩); (try refine ⟨hdd _, ?_⟩); gi_at_call 59; refine (callsIn_wide.2 KR).mono ?_; rintro e' w12 ⟨rfl, hg12, cur', kc', hH'⟩
                 have k12 := kF.grown hg12 (by intro e0; injection e0 with e0; exact gne e0)
                 have s0 := (k12.cell 0).trans rfl)
    have hK12 : w12.heap[D]? = some (.deferred (some [])) := by
      refine (KeepsOthers.of_grownBy hg12 fun j o ej hj => ?_).same D _ hKF rfl
      injection ej with ej
      subst ej
      have := Option.some.inj (hj.symm.trans kcur)
      subst this
      rfl
    have hnc : ∀ r, (some D : Option Nat) = some r → ∃ o : Obj, w12.heap[r]? = some o ∧ o.isCells = false := fun r e0 => by cases e0; exact ⟨_, hK12, rfl⟩
    have hgp := grownBy_putObj' w12 D (.deferred none)
    have hb12 : Below wB.heap.size wB w12 := belF.grown hg12 belF.size (fun k e0 => Nat.le_trans h.hL (by cases e0; exact Nat.le_of_succ_le gL))
    have hb13 : Below w.heap.size w12 (w12.putObj D (.deferred none)) := belowK_b (n₀ := w.heap.size) (w := w4) (Nat.le_trans bB.size hW0.below.size) w12 D _ _ hD hK12 rfl rfl
    have HB := show Hid (Below w.heap.size w _) from (bB.trans (hb12.mono bB.size)).trans hb13
    have HG : Hid (w.heap.size ≤ g) := Nat.le_trans (Nat.le_trans bB.size h.hL) (Nat.le_of_succ_le gL)
    have HI : Hid (Imgs (w12.putObj D (.deferred none)) (.slice (some ⟨g, 0, none⟩) EE.length c10) EE.reverse) := ⟨fun x hx => ((okF.grown hg12 apF).grownN hgp hnc) x (List.mem_reverse.1 hx), .inr ⟨g, c10, cur', by rw [List.length_reverse], by rw [List.length_reverse]; exact hcg, hcm, blk_grownN kc' hgp hnc, by rw [List.length_reverse]; exact hH'⟩⟩
    refine ⟨by simp, .inl ⟨_, _, rfl, run_takeDeferred hK12, ?_⟩⟩
    exact ⟨_, results_tmp rfl _ _ _, .slice (some ⟨g, 0, none⟩) EE.length c10, EE.reverse, rfl, HI.out, mapF, HB.out, fun g' n' c' e0 => by injection e0 with e0 _ _; injection e0 with e0; injection e0 with e0 _; rw [← e0]; exact HG.out⟩
  case stop =>
    rintro D c pre W _ _ h _
    exact h.elim
end Go.Proofs.Ytcpjcjonlkgblaa
