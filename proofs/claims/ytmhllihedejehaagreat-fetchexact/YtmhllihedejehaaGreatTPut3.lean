/- A key is put into a tree that is not empty. -/
import Derived.Test.YtmhllihedejehaaGreatM15
namespace Go.Proofs.YtmhllihedejehaaGreat
open Go.RowKit
set_option linter.unusedVariables false
set_option linter.unusedSimpArgs false

theorem placeOf_le (key : Key) (t : Tr) (h : key.length ≤ 32) (hl : (t.find key).1.length ≤ 32) : placeOf key t ≤ 288 := by
  unfold placeOf
  split
  · omega
  · rename_i hne
    have := keyPart_lt key (t.find key).1 32 (fun e => hne e.symm) h hl
    omega

theorem parting_of (key : Key) (t : Tr) (w : World) (h : key.length ≤ 32) (hl : (t.find key).1.length ≤ 32) :
    Calls Tryz.prog 49 #[.string (str key), .string (str (t.find key).1)] w fun e w' => e = .returned (.int .i64 (placeOf key t : Nat)) ∧ Below w.heap.size w w' := by
  unfold placeOf
  by_cases hne : (t.find key).1 = key
  · rw [if_pos hne, hne]
    exact (parting_same key w).mono fun _ _ ⟨a, b⟩ => ⟨a, b ▸ Below.refl _ _⟩
  · rw [if_neg hne]
    exact (parting_any key (t.find key).1 w (fun e => hne e.symm) (by omega) (by omega)).mono fun _ _ ⟨a, n, b⟩ => ⟨a, b ▸ below_drewN (Below.refl _ _) n⟩

set_option maxHeartbeats 1600000 in
theorem end_base (wd : Int) (b : Nat) (t : Tr) (key : Key) (w0 w : World) (hk : key.length ≤ maxLen) (hp : t.placed) (h0 : Below w0.heap.size w0 w) (h : NodeAt wd w0 b t) :
    Calls Tryz.prog 50 #[.agg #[.int .i64 wd, .pointer (some ⟨b, 0, none⟩)], .string (str key)] w fun e w' => ∃ c, e = .returned (.pointer (some ⟨c, 0, none⟩)) ∧ NodeAt wd w0 c (.leaf (t.find key).1 (t.find key).2) ∧ Below w.heap.size w w' := by
  have bA : Below w.heap.size w (w.alloc (.cells #[.int .i64 wd, .pointer (some ⟨b, 0, none⟩)] 34)) := (Below.refl _ _).alloc (Nat.le_refl _) _
  have b0A := h0.trans (bA.mono h0.size)
  go_enter Tryz.func50, Tryz.ntmps50
  go_wp2_with fail
  generalize w.alloc (.cells #[.int .i64 wd, .pointer (some ⟨b, 0, none⟩)] 34) = wA at *
  go_loopg [5] t.size (fun g n wr => ∃ (c : Nat) (u : Tr), g = u.size ∧ n = .pointer (some ⟨c, 0, none⟩) ∧ NodeAt wd w0 c u ∧ u.placed ∧ u.find key = t.find key ∧ wr = wA)
  case atStart => exact ⟨b, t, rfl, rfl, h, hp, rfl, rfl⟩
  case round =>
    obtain ⟨c, u, rfl, rfl, hc, hpu, hf, rfl⟩ := hrel
    cases u with
    | leaf k v =>
      have key1 := forks_leaf wd c k v wr (NodeAt.below b0A hc)
      have Hf : Aside (Tr.find key (.leaf k v) = t.find key) := hf
      clear hf
      go_wp2_with fail
      refine key1.mono ?_
      rintro e w' ⟨rfl, rfl⟩
      go_wp2
      go_ret
      refine ⟨c, rfl, ?_, bA⟩
      rw [← Hf.out]; exact hc
    | fork p l r =>
      have key1 := forks_fork wd c p l r wr (NodeAt.below b0A hc)
      obtain ⟨hp1, hpl, hpr⟩ := hpu
      obtain ⟨bl, br, kB0, nl, nr⟩ := hc
      have kB := kB0.below b0A kB0.lt
      have key2 := bit_any key p wr hk hp1
      have key3 := side_any c (bitP key p) bl br _ _ _ _ wr (bitP_01 key p) kB
      have c3 := kB.cell 3
      simp only [List.getElem?_toArray, List.getElem?_cons_succ, List.getElem?_cons_zero] at c3
      have Hf : Aside (Tr.find key (.fork p l r) = t.find key) := hf
      clear hf
      by_cases hb : bitP key p = 0
      · rw [if_pos hb] at key3
        have Hg : Aside (Tr.find key l = t.find key) := by
          show _ = _
          rw [← Hf.out]; simp [Tr.find, hb]
        clear hb Hf
        go_wp2_with fail
        refine key1.mono ?_
        rintro e w' ⟨rfl, rfl⟩
        go_wp2_with fail
        refine key2.mono ?_
        rintro e w' ⟨rfl, rfl⟩
        go_wp2_with fail
        refine key3.mono ?_
        rintro e w' ⟨rfl, rfl⟩
        go_wp2
        go_roundg l.size
        case measure => simp [Tr.size]; omega
        case rel => exact ⟨bl, l, rfl, rfl, nl, hpl, Hg.out, rfl⟩
      · rw [if_neg hb] at key3
        have Hg : Aside (Tr.find key r = t.find key) := by
          show _ = _
          rw [← Hf.out]; simp [Tr.find, hb]
        clear hb Hf
        go_wp2_with fail
        refine key1.mono ?_
        rintro e w' ⟨rfl, rfl⟩
        go_wp2_with fail
        refine key2.mono ?_
        rintro e w' ⟨rfl, rfl⟩
        go_wp2_with fail
        refine key3.mono ?_
        rintro e w' ⟨rfl, rfl⟩
        go_wp2
        go_roundg r.size
        case measure => simp [Tr.size]; omega
        case rel => exact ⟨br, r, rfl, rfl, nr, hpr, Hg.out, rfl⟩

set_option maxHeartbeats 6400000 in
theorem put_with (wd : Int) (b : Nat) (t : Tr) (key value : Key) (w : World) (hw : okW wd) (hk : key.length ≤ 32) (hv : value.length ≤ 4096) (hne : ¬ value = []) (hp : t.placed) (hl : (t.find key).1.length ≤ 32) (h : NodeAt wd w b t) (he : ¬ getO key (some t) = value) :
    Calls Tryz.prog 23 #[.agg #[.int .i64 wd, .pointer (some ⟨b, 0, none⟩)], .string (str key), .string (str value)] w fun e w' => ∃ q, e = .returned (.tuple #[.agg #[.int .i64 wd, .pointer q], .int .i64 0]) ∧ TopAt wd w' (.pointer q) (some (t.with_ key value (placeOf key t))) ∧ Below w.heap.size w w' := by
  have s1 := str_size key
  have s2 := str_size value
  have h1' : ¬ (32 : Int) < (key.length : Int) := by omega
  have h2' : ¬ (4096 : Int) < (value.length : Int) := by omega
  have PA := PutAt.start w wd (some ⟨b, 0, none⟩)
  have key1 := get_any wd (.pointer (some ⟨b, 0, none⟩)) (some t) key _ (by unfold maxLen; omega) (fun u e => by cases e; exact hp) (TopAt.below PA.below ⟨b, rfl, h⟩)
  obtain ⟨G, HG⟩ : ∃ G, Hid (getO key (some t) = G) := ⟨_, rfl⟩
  rw [HG.out] at key1 he
  have hGb : (G == value) = false := by simpa using he
  have hGc : (value == []) = false := by simpa using hne
  have hGe : value.isEmpty = false := by cases value with | nil => exact (hne rfl).elim | cons _ _ => rfl
  have l1 := str_toList G
  have l2 := str_toList value
  have hpl := placeOf_le key t hk hl
  have KP := fun w' => parting_of key t w' hk hl
  generalize placeOf key t = P at *
  obtain ⟨fk, fv, hF⟩ : ∃ fk fv, t.find key = (fk, fv) := ⟨_, _, rfl⟩
  have KE : ∀ w', PutAt w wd (some ⟨b, 0, none⟩) w' → Calls Tryz.prog 50 #[.agg #[.int .i64 wd, .pointer (some ⟨b, 0, none⟩)], .string (str key)] w' fun e w'' => ∃ c, e = .returned (.pointer (some ⟨c, 0, none⟩)) ∧ NodeAt wd w c (.leaf fk fv) ∧ Below w'.heap.size w' w'' := fun w' hP => by
    have := end_base wd b t key w w' (by unfold maxLen; omega) hp hP.below h
    rw [hF] at this
    exact this
  rw [hF] at KP
  simp only at KP
  have KL := fun w' => leafOf_any wd key value w' hw (by omega) (by omega)
  have KW : ∀ (f : Nat) (w' : World), PutAt w wd (some ⟨b, 0, none⟩) w' → NodeAt wd w' f (.leaf key value) → Calls Tryz.prog 48 #[.agg #[.int .i64 wd, .pointer (some ⟨b, 0, none⟩)], .pointer (some ⟨b, 0, none⟩), .pointer (some ⟨f, 0, none⟩), .int .i64 P] w' fun e w'' => ∃ z, e = .returned (.pointer (some ⟨z, 0, none⟩)) ∧ NodeAt wd w'' z (t.with_ key value P) ∧ Below w'.heap.size w' w'' := fun f w' hP hf => with_any wd (some ⟨b, 0, none⟩) key value P hw (by unfold maxLen; omega) (by omega) f t b w' hp (NodeAt.below hP.below h) hf
  go_enter Tryz.func23, Tryz.ntmps23
  go_wp2_with fail
  generalize (w.alloc (.cells #[.int .i64 wd, .pointer (some ⟨b, 0, none⟩)] 34)).alloc (.cells #[.int .i64 0, .pointer none] 34) = wA at *
  refine key1.mono ?_
  rintro e w1 ⟨rfl, b1⟩
  have P1 := PA.next b1
  obtain ⟨t0, t1, r0, r1, g0, g1, g2⟩ := P1.facts
  have z1 := P1.t.lt
  have z2 := P1.r.lt
  clear key1 PA b1
  go_upto_region 3 with fail
  have T0 : ∀ w', PutAt w wd (some ⟨b, 0, none⟩) w' → w'.cell? ⟨w.heap.size, 0, none⟩ = some (.int .i64 wd) := fun w' h => h.facts.1
  have T1 : ∀ w', PutAt w wd (some ⟨b, 0, none⟩) w' → w'.cell? ⟨w.heap.size, 1, none⟩ = some (.pointer (some ⟨b, 0, none⟩)) := fun w' h => h.facts.2.1
  clear T0 T1 t0 t1 r0 r1 g0 g1 g2 z1 z2 h hp hF HG he hGb hGc hGe l1 l2 hne
  have hHeld : PutAt w wd (some ⟨b, 0, none⟩) w1.drew := P1.next ((Below.refl w1.heap.size w1).drew)
  refine wp_region_last (S := fun w' => PutAt w wd (some ⟨b, 0, none⟩) w') 18 _ rfl (by kernel_rfl) (by kernel_rfl) ?_
  simp only [List.setIfInBounds_toArray, List.set_cons_zero, List.set_cons_succ]
  refine wpAnyH_take (i := 0) (v := ?_) rfl (by kernel_rfl) (by kernel_rfl) (by kernel_rfl) (fun _ _ _ h => h) (Or.inl ⟨by kernel_rfl, ?_⟩) (by assumption) ?_
  rotate_left
  · intro w' hSw
    obtain ⟨y0, y1, _⟩ := hSw.facts
    go_simp
    try (with_reducible rfl)
  simp only [Act.put, List.getElem_toArray, List.getElem_cons_succ, List.getElem_cons_zero, List.setIfInBounds_toArray, List.set_cons_zero, List.set_cons_succ]
  refine wpAnyH_take (i := 1) (v := ?_) rfl (by kernel_rfl) (by kernel_rfl) (by kernel_rfl) (fun _ _ _ h => h) (Or.inl ⟨by kernel_rfl, ?_⟩) (by assumption) ?_
  rotate_left
  · intro w' hSw
    obtain ⟨y0, y1, _⟩ := hSw.facts
    go_simp
    try (with_reducible rfl)
  simp only [Act.put, List.getElem_toArray, List.getElem_cons_succ, List.getElem_cons_zero, List.setIfInBounds_toArray, List.set_cons_zero, List.set_cons_succ]
  refine wpAnyH_take (i := 2) (v := ?_) rfl (by kernel_rfl) (by kernel_rfl) (by kernel_rfl) (fun _ _ _ h => h) (Or.inl ⟨by kernel_rfl, ?_⟩) (by assumption) ?_
  rotate_left
  · intro w' hSw
    obtain ⟨y0, y1, _⟩ := hSw.facts
    go_simp
    try (with_reducible rfl)
  simp only [Act.put, List.getElem_toArray, List.getElem_cons_succ, List.getElem_cons_zero, List.setIfInBounds_toArray, List.set_cons_zero, List.set_cons_succ]
  refine wpAnyH_take (i := 3) (v := ?_) rfl (by kernel_rfl) (by kernel_rfl) (by kernel_rfl) (fun _ _ _ h => h) (Or.inl ⟨by kernel_rfl, ?_⟩) (by assumption) ?_
  rotate_left
  · intro w' hSw
    obtain ⟨y0, y1, _⟩ := hSw.facts
    go_simp
    try (with_reducible rfl)
  simp only [Act.put, List.getElem_toArray, List.getElem_cons_succ, List.getElem_cons_zero, List.setIfInBounds_toArray, List.set_cons_zero, List.set_cons_succ]
  refine wpAnyH_take (i := 4) (v := ?_) rfl (by kernel_rfl) (by kernel_rfl) (by kernel_rfl) (fun _ _ _ h => h) (Or.inl ⟨by kernel_rfl, ?_⟩) (by assumption) ?_
  rotate_left
  · intro w' hSw
    obtain ⟨y0, y1, _⟩ := hSw.facts
    go_simp
    try (with_reducible rfl)
  simp only [Act.put, List.getElem_toArray, List.getElem_cons_succ, List.getElem_cons_zero, List.setIfInBounds_toArray, List.set_cons_zero, List.set_cons_succ]
  refine wpAnyH_take (i := 5) (v := ?_) rfl (by kernel_rfl) (by kernel_rfl) (by kernel_rfl) (fun _ _ _ h => h) (Or.inl ⟨by kernel_rfl, ?_⟩) (by assumption) ?_
  rotate_left
  · intro w' hSw
    obtain ⟨y0, y1, _⟩ := hSw.facts
    go_simp
    try (with_reducible rfl)
  simp only [Act.put, List.getElem_toArray, List.getElem_cons_succ, List.getElem_cons_zero, List.setIfInBounds_toArray, List.set_cons_zero, List.set_cons_succ]
  refine wpAnyH_take (i := 6) (v := ?_) rfl (by kernel_rfl) (by kernel_rfl) (by kernel_rfl) (fun _ _ _ h => h) (Or.inl ⟨by kernel_rfl, ?_⟩) (by assumption) ?_
  rotate_left
  · intro w' hSw
    obtain ⟨y0, y1, _⟩ := hSw.facts
    go_simp
    try (with_reducible rfl)
  simp only [Act.put, List.getElem_toArray, List.getElem_cons_succ, List.getElem_cons_zero, List.setIfInBounds_toArray, List.set_cons_zero, List.set_cons_succ]
  refine wpAnyH_take (i := 8) (v := ?_) rfl (by kernel_rfl) (by kernel_rfl) (by kernel_rfl) (fun _ _ _ h => h) (Or.inl ⟨by kernel_rfl, ?_⟩) (by assumption) ?_
  rotate_left
  · intro w' hSw
    obtain ⟨y0, y1, _⟩ := hSw.facts
    go_simp
    try (with_reducible rfl)
  simp only [Act.put, List.getElem_toArray, List.getElem_cons_succ, List.getElem_cons_zero, List.setIfInBounds_toArray, List.set_cons_zero, List.set_cons_succ]
  refine wpAnyH_take (i := 9) (v := ?_) rfl (by kernel_rfl) (by kernel_rfl) (by kernel_rfl) (fun _ _ _ h => h) (Or.inl ⟨by kernel_rfl, ?_⟩) (by assumption) ?_
  rotate_left
  · intro w' hSw
    obtain ⟨y0, y1, _⟩ := hSw.facts
    go_simp
    try (with_reducible rfl)
  simp only [Act.put, List.getElem_toArray, List.getElem_cons_succ, List.getElem_cons_zero, List.setIfInBounds_toArray, List.set_cons_zero, List.set_cons_succ]
  refine wpAnyH_take (i := 10) (v := ?_) rfl (by kernel_rfl) (by kernel_rfl) (by kernel_rfl) (fun _ _ _ h => h) (Or.inl ⟨by kernel_rfl, ?_⟩) (by assumption) ?_
  rotate_left
  · intro w' hSw
    obtain ⟨y0, y1, _⟩ := hSw.facts
    go_simp
    try (with_reducible rfl)
  simp only [Act.put, List.getElem_toArray, List.getElem_cons_succ, List.getElem_cons_zero, List.setIfInBounds_toArray, List.set_cons_zero, List.set_cons_succ]
  refine wpAnyH_ready (rs := [7]) (by kernel_rfl) (by simp) ?_
  refine AllReadyH.cons rfl (fun K hK => ?_) AllReadyH.nil
  go_simp
  refine (KL _).mono ?_
  rintro e w7 ⟨f, rfl, hf, b7⟩
  have hN7 : PutAt w wd (some ⟨b, 0, none⟩) w7 := PutAt.next (by assumption) b7
  refine hK.out _ _ hN7 (fun _ => ?_)
  clear hK K
  try simp only [Act.put, List.getElem_toArray, List.getElem_cons_succ, List.getElem_cons_zero, List.setIfInBounds_toArray, List.set_cons_zero, List.set_cons_succ]
  refine wpAnyH_ready (rs := [11]) (by kernel_rfl) (by simp) ?_
  refine AllReadyH.cons rfl (fun K hK => ?_) AllReadyH.nil
  go_simp
  refine (KE _ (by assumption)).mono ?_
  rintro e w11 ⟨c, rfl, hc, b11⟩
  have hN11 : PutAt w wd (some ⟨b, 0, none⟩) w11 := PutAt.next (by assumption) b11
  have C1 : ∀ w', PutAt w wd (some ⟨b, 0, none⟩) w' → w'.cell? ⟨c, 1, none⟩ = some (.string (str fk)) := fun w' h => (Blk.cell (NodeAt.below h.below hc) 1).trans rfl
  have hf := NodeAt.below b11 hf
  refine hK.out _ _ hN11 (fun _ => ?_)
  clear hK K
  try simp only [Act.put, List.getElem_toArray, List.getElem_cons_succ, List.getElem_cons_zero, List.setIfInBounds_toArray, List.set_cons_zero, List.set_cons_succ]
  refine wpAnyH_take (i := 12) (v := ?_) rfl (by kernel_rfl) (by kernel_rfl) (by kernel_rfl) (fun _ _ _ h => h) (Or.inl ⟨by kernel_rfl, ?_⟩) (by assumption) ?_
  rotate_left
  · intro w' hSw
    obtain ⟨y0, y1, _⟩ := hSw.facts
    go_simp
    try (with_reducible rfl)
  simp only [Act.put, List.getElem_toArray, List.getElem_cons_succ, List.getElem_cons_zero, List.setIfInBounds_toArray, List.set_cons_zero, List.set_cons_succ]
  refine wpAnyH_take (i := 13) (v := ?_) rfl (by kernel_rfl) (by kernel_rfl) (by kernel_rfl) (fun _ _ _ h => h) (Or.inl ⟨by kernel_rfl, ?_⟩) (by assumption) ?_
  rotate_left
  · intro w' hSw
    obtain ⟨y0, y1, _⟩ := hSw.facts
    go_simp
    try (with_reducible rfl)
  simp only [Act.put, List.getElem_toArray, List.getElem_cons_succ, List.getElem_cons_zero, List.setIfInBounds_toArray, List.set_cons_zero, List.set_cons_succ]
  refine wpAnyH_take (i := 14) (v := ?_) rfl (by kernel_rfl) (by kernel_rfl) (by kernel_rfl) (fun _ _ _ h => h) (Or.inl ⟨by kernel_rfl, ?_⟩) (by assumption) ?_
  rotate_left
  · intro w' hSw
    obtain ⟨y0, y1, _⟩ := hSw.facts
    have y2 := C1 _ hSw
    go_simp
    try (with_reducible rfl)
  simp only [Act.put, List.getElem_toArray, List.getElem_cons_succ, List.getElem_cons_zero, List.setIfInBounds_toArray, List.set_cons_zero, List.set_cons_succ]
  refine wpAnyH_ready (rs := [15]) (by kernel_rfl) (by simp) ?_
  refine AllReadyH.cons rfl (fun K hK => ?_) AllReadyH.nil
  go_simp
  refine (KP _).mono ?_
  rintro e w15 ⟨rfl, b15⟩
  have hN15 : PutAt w wd (some ⟨b, 0, none⟩) w15 := PutAt.next (by assumption) b15
  have hf := NodeAt.below b15 hf
  refine hK.out _ _ hN15 (fun _ => ?_)
  clear hK K
  try simp only [Act.put, List.getElem_toArray, List.getElem_cons_succ, List.getElem_cons_zero, List.setIfInBounds_toArray, List.set_cons_zero, List.set_cons_succ]
  refine wpAnyH_ready (rs := [16]) (by kernel_rfl) (by simp) ?_
  refine AllReadyH.cons rfl (fun K hK => ?_) AllReadyH.nil
  go_simp
  refine (KW _ _ (by assumption) (by assumption)).mono ?_
  rintro e w16 ⟨z, rfl, hz, b16⟩
  have hN16 : PutAt w wd (some ⟨b, 0, none⟩) w16 := PutAt.next (by assumption) b16
  refine hK.out _ _ hN16 (fun _ => ?_)
  clear hK K
  try simp only [Act.put, List.getElem_toArray, List.getElem_cons_succ, List.getElem_cons_zero, List.setIfInBounds_toArray, List.set_cons_zero, List.set_cons_succ]
  refine wpAnyH_take (i := 17) (v := ?_) rfl (by kernel_rfl) (by kernel_rfl) (by kernel_rfl) (fun _ _ _ h => h) (Or.inl ⟨by kernel_rfl, ?_⟩) (by assumption) ?_
  rotate_left
  · intro w' hSw
    obtain ⟨y0, y1, _⟩ := hSw.facts
    go_simp
    try (with_reducible rfl)
  simp only [Act.put, List.getElem_toArray, List.getElem_cons_succ, List.getElem_cons_zero, List.setIfInBounds_toArray, List.set_cons_zero, List.set_cons_succ]
  refine wpAnyH_ready (rs := [18]) (by kernel_rfl) (by simp) ?_
  refine AllReadyH.cons rfl (fun K hK => ?_) AllReadyH.nil
  go_simp
  refine hK.out _ _ hN16 (fun _ => ?_)
  clear hK K
  refine wpAnyH_done (by kernel_rfl) ?_ _
  clear KE KL KP KW
  obtain ⟨t0, t1, r0, r1, g0, g1, g2⟩ := hN16.facts
  have P3 := hN16.set (some ⟨z, 0, none⟩)
  obtain ⟨t0', t1', r0', r1', g0', g1', g2'⟩ := P3.facts
  have z1 := hN16.t.lt
  have z2 := hN16.r.lt
  have hv : TopAt wd w16 (.pointer (some ⟨z, 0, none⟩)) (some (t.with_ key value P)) := ⟨z, rfl, hz⟩
  simp only [ThenLast]
  refine wpOp_step rfl (fun K hK => ?_)
  go_simp
  refine hK _ _ ?_
  clear hK K
  try simp only [Exit.then]
  go_wp2
  refine bodyPost_ret (v := .tuple #[.agg #[.int .i64 wd, .pointer (some ⟨z, 0, none⟩)], .int .i64 0]) (by simp [results, Tryz.results23, go_sem, t0, t1, r0, r1, g0, g1, g2, t0', t1', r0', r1', g0', g1', g2', z1, z2]) rfl ⟨_, rfl, ?_, (P3.below.setCell (p := ⟨w.heap.size + 1, 0, none⟩) (Nat.le_succ _) _).setCell (p := ⟨w.heap.size + 1, 1, none⟩) (Nat.le_succ _) _⟩
  exact hN16.tops _ _ _ hv
end Go.Proofs.YtmhllihedejehaaGreat
