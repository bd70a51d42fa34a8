/- turned: a proof that somebody has turned. -/
import Derived.Test.YtcpjcjonlkgblaaM46
namespace Go.Proofs.Ytcpjcjonlkgblaa
open Go.RowKit
set_option linter.unusedVariables false
set_option linter.unusedSimpArgs false

set_option maxRecDepth 8000 in
set_option maxHeartbeats 3200000 in
theorem turned_any (lq lp : Option Addr) (cq cp : Nat) (q p : Pf) (how d : Int) (w : World) (hq : PfIn w lq cq q) (hp : PfIn w lp cp p) (h1 : q.tu.length ≤ 1000) (h2 : p.tu.length ≤ 100000) (hh : -9223372036854775808 ≤ how ∧ how ≤ 9223372036854775807) (hd : -9223372036854775808 ≤ d ∧ d ≤ 9223372036854775807) :
    Calls Try.prog 10 #[pfV lq cq q, .int .i64 how, .int .i64 d, pfV lp cp p] w fun e w' => ∃ la cap x, e = .returned (pfV la cap x) ∧ PfIn w' la cap x ∧ x.tu.length ≤ 101000 ∧ x.key.length ≤ max q.key.length p.key.length ∧ x.val.length ≤ max q.val.length p.val.length ∧ Below w.heap.size w w' := by
  unfold pfV
  obtain ⟨wA, HwA⟩ : ∃ x, Hid (x = ((w.alloc (.cells #[.slice lq q.tu.length cq, .bool q.leaf, .string (str q.key), .string (str q.val)] 25)).alloc (.cells #[.slice lp p.tu.length cp, .bool p.leaf, .string (str p.key), .string (str p.val)] 25)).alloc (.cells #[.slice none 0 0, .bool false, .string ⟨#[]⟩, .string ⟨#[]⟩] 25)) := ⟨_, rfl⟩
  have bA : Below w.heap.size w wA := by rw [HwA.out]; exact (((Below.refl _ _).alloc (Nat.le_refl _) _).alloc (by simp) _).alloc (by simp; omega) _
  have sA : wA.heap.size = w.heap.size + 3 := by rw [HwA.out]; simp
  have kQ : Blk wA w.heap.size #[.slice lq q.tu.length cq, .bool q.leaf, .string (str q.key), .string (str q.val)] 25 := by rw [HwA.out]; exact ((Blk.new w _ _).alloc _).alloc _
  have kP : Blk wA (w.heap.size + 1) #[.slice lp p.tu.length cp, .bool p.leaf, .string (str p.key), .string (str p.val)] 25 := by
    rw [HwA.out]
    have h0 := (Blk.new (w.alloc (.cells #[.slice lq q.tu.length cq, .bool q.leaf, .string (str q.key), .string (str q.val)] 25)) #[.slice lp p.tu.length cp, .bool p.leaf, .string (str p.key), .string (str p.val)] 25).alloc (.cells #[.slice none 0 0, .bool false, .string ⟨#[]⟩, .string ⟨#[]⟩] 25)
    simp only [World.size_alloc] at h0
    exact h0
  have kR : Blk wA (w.heap.size + 2) #[.slice none 0 0, .bool false, .string ⟨#[]⟩, .string ⟨#[]⟩] 25 := by
    rw [HwA.out]
    have h0 := Blk.new ((w.alloc (.cells #[.slice lq q.tu.length cq, .bool q.leaf, .string (str q.key), .string (str q.val)] 25)).alloc (.cells #[.slice lp p.tu.length cp, .bool p.leaf, .string (str p.key), .string (str p.val)] 25)) #[.slice none 0 0, .bool false, .string ⟨#[]⟩, .string ⟨#[]⟩] 25
    simp only [World.size_alloc] at h0
    exact h0
  have hqT : ∀ w', Below wA.heap.size wA w' → TurnsAt w' lq q.tu := fun w' hb => hq.turns.below (bA.trans (hb.mono bA.size))
  have C0 : ∀ w', Below wA.heap.size wA w' → w'.cell? ⟨w.heap.size, 0, none⟩ = some (.slice lq q.tu.length cq) := fun w' hb => ((kQ.below hb kQ.lt).cell 0).trans rfl
  have C1 : ∀ w', Below wA.heap.size wA w' → w'.cell? ⟨w.heap.size, 1, none⟩ = some (.bool q.leaf) := fun w' hb => ((kQ.below hb kQ.lt).cell 1).trans rfl
  have C2 : ∀ w', Below wA.heap.size wA w' → w'.cell? ⟨w.heap.size, 2, none⟩ = some (.string (str q.key)) := fun w' hb => ((kQ.below hb kQ.lt).cell 2).trans rfl
  have C3 : ∀ w', Below wA.heap.size wA w' → w'.cell? ⟨w.heap.size, 3, none⟩ = some (.string (str q.val)) := fun w' hb => ((kQ.below hb kQ.lt).cell 3).trans rfl
  go_enter Try.func10, Try.ntmps10
  go_upto_region 1 with fail
  simp only [Nat.add_assoc, Nat.reduceAdd]
  rw [← HwA.out]
  have hHeld : Below wA.heap.size wA wA.drew := (Below.refl _ _).drew
  have HsA := show Hid (_ = _) from sA
  have hsl : w.heap.size + 3 ≤ wA.heap.size := by omega
  clear sA
  go_cut [9] (fun ov wv => ∃ O sv, ov = .pointer (some ⟨O, 0, none⟩) ∧ OutAt w lp cp p O q sv wv)
  case first =>
    refine wp_region_held (S := fun w' => Below wA.heap.size wA w') (by kernel_rfl) ?_
    refine wpAnyH_take (i := 0) (v := ?_) rfl (by kernel_rfl) (by kernel_rfl) (by kernel_rfl) (fun _ _ _ h => h) (Or.inl ⟨by kernel_rfl, ?_⟩) (by assumption) ?_
    rotate_left
    · intro w' hSw
      have y0 := C0 _ hSw
      have y1 := C1 _ hSw
      have y2 := C2 _ hSw
      have y3 := C3 _ hSw
      go_simp
      try (with_reducible rfl)
    simp only [Act.put, List.getElem_toArray, List.getElem_cons_succ, List.getElem_cons_zero, List.setIfInBounds_toArray, List.set_cons_zero, List.set_cons_succ]
    refine wpAnyH_take (i := 1) (v := ?_) rfl (by kernel_rfl) (by kernel_rfl) (by kernel_rfl) (fun _ _ _ h => h) (Or.inl ⟨by kernel_rfl, ?_⟩) (by assumption) ?_
    rotate_left
    · intro w' hSw
      have y0 := C0 _ hSw
      have y1 := C1 _ hSw
      have y2 := C2 _ hSw
      have y3 := C3 _ hSw
      go_simp
      try (with_reducible rfl)
    simp only [Act.put, List.getElem_toArray, List.getElem_cons_succ, List.getElem_cons_zero, List.setIfInBounds_toArray, List.set_cons_zero, List.set_cons_succ]
    refine wpAnyH_take (i := 2) (v := ?_) rfl (by kernel_rfl) (by kernel_rfl) (by kernel_rfl) (fun _ _ _ h => h) (Or.inl ⟨by kernel_rfl, ?_⟩) (by assumption) ?_
    rotate_left
    · intro w' hSw
      have y0 := C0 _ hSw
      have y1 := C1 _ hSw
      have y2 := C2 _ hSw
      have y3 := C3 _ hSw
      go_simp
      try (with_reducible rfl)
    simp only [Act.put, List.getElem_toArray, List.getElem_cons_succ, List.getElem_cons_zero, List.setIfInBounds_toArray, List.set_cons_zero, List.set_cons_succ]
    refine wpAnyH_take (i := 3) (v := ?_) rfl (by kernel_rfl) (by kernel_rfl) (by kernel_rfl) (fun _ _ _ h => h) (Or.inl ⟨by kernel_rfl, ?_⟩) (by assumption) ?_
    rotate_left
    · intro w' hSw
      have y0 := C0 _ hSw
      have y1 := C1 _ hSw
      have y2 := C2 _ hSw
      have y3 := C3 _ hSw
      go_simp
      try (with_reducible rfl)
    simp only [Act.put, List.getElem_toArray, List.getElem_cons_succ, List.getElem_cons_zero, List.setIfInBounds_toArray, List.set_cons_zero, List.set_cons_succ]
    refine wpAnyH_take (i := 4) (v := ?_) rfl (by kernel_rfl) (by kernel_rfl) (by kernel_rfl) (fun _ _ _ h => h) (Or.inl ⟨by kernel_rfl, ?_⟩) (by assumption) ?_
    rotate_left
    · intro w' hSw
      have y0 := C0 _ hSw
      have y1 := C1 _ hSw
      have y2 := C2 _ hSw
      have y3 := C3 _ hSw
      go_simp
      try (with_reducible rfl)
    simp only [Act.put, List.getElem_toArray, List.getElem_cons_succ, List.getElem_cons_zero, List.setIfInBounds_toArray, List.set_cons_zero, List.set_cons_succ]
    refine wpAnyH_take (i := 5) (v := ?_) rfl (by kernel_rfl) (by kernel_rfl) (by kernel_rfl) (fun _ _ _ h => h) (Or.inl ⟨by kernel_rfl, ?_⟩) (by assumption) ?_
    rotate_left
    · intro w' hSw
      have y0 := C0 _ hSw
      have y1 := C1 _ hSw
      have y2 := C2 _ hSw
      have y3 := C3 _ hSw
      go_simp
      try (with_reducible rfl)
    simp only [Act.put, List.getElem_toArray, List.getElem_cons_succ, List.getElem_cons_zero, List.setIfInBounds_toArray, List.set_cons_zero, List.set_cons_succ]
    refine wpAnyH_take (i := 7) (v := ?_) rfl (by kernel_rfl) (by kernel_rfl) (by kernel_rfl) (fun _ _ _ h => h) (Or.inl ⟨by kernel_rfl, ?_⟩) (by assumption) ?_
    rotate_left
    · intro w' hSw
      have y0 := C0 _ hSw
      have y1 := C1 _ hSw
      have y2 := C2 _ hSw
      have y3 := C3 _ hSw
      go_simp
      try (with_reducible rfl)
    simp only [Act.put, List.getElem_toArray, List.getElem_cons_succ, List.getElem_cons_zero, List.setIfInBounds_toArray, List.set_cons_zero, List.set_cons_succ]
    refine wpAnyH_take (i := 8) (v := ?_) rfl (by kernel_rfl) (by kernel_rfl) (by kernel_rfl) (fun _ _ _ h => h) (Or.inl ⟨by kernel_rfl, ?_⟩) (by assumption) ?_
    rotate_left
    · intro w' hSw
      have y0 := C0 _ hSw
      have y1 := C1 _ hSw
      have y2 := C2 _ hSw
      have y3 := C3 _ hSw
      go_simp
      try (with_reducible rfl)
    simp only [Act.put, List.getElem_toArray, List.getElem_cons_succ, List.getElem_cons_zero, List.setIfInBounds_toArray, List.set_cons_zero, List.set_cons_succ]
    have hrow0 : ∀ (wx : World) (hx : w.heap.size + 3 ≤ wx.heap.size), (wx.alloc (.cells #[] 69)).ownsRow (w.heap.size + 3) 69 2 (.slice (some ⟨wx.heap.size, 0, none⟩) 0 0) ([] : List (Int × Int)).length (flatT []) := fun wx hx => World.ownsRow_made wx #[] 0 hx (Nat.zero_le _) rfl
    refine wpAnyH_ready (rs := [6, 11]) (by kernel_rfl) (by simp) ?_
    refine AllReadyH.cons rfl (fun K hK => ?_) (AllReadyH.cons rfl (fun K hK => ?_) AllReadyH.nil)
    · go_simp
      have bB : Below wA.heap.size wA (wA.alloc (.cells #[] 69)).drew := ((Below.refl _ _).alloc (Nat.le_refl _) _).drew
      refine hK.out _ _ bB (fun _ => ?_)
      clear hK K
      try simp only [Act.put, List.getElem_toArray, List.getElem_cons_succ, List.getElem_cons_zero, List.setIfInBounds_toArray, List.set_cons_zero, List.set_cons_succ]
      obtain ⟨v9, w9, hr9, ho9, hg9⟩ := app_turns (wA.alloc (.cells #[] 69)).drew (w.heap.size + 3) _ [] (hrow0 wA hsl) lq cq q.tu (hqT _ bB) (by simp) (by omega) (by show _ ≤ (wA.alloc _).heap.size; simp; omega)
      have b9 : Below wA.heap.size wA w9 := bB.grown hg9 bB.size (fun k e => by simp [Value.ownBlock] at e; omega)
      simp only [List.nil_append] at ho9
      obtain ⟨l9, c9, rfl, _, _, _⟩ := TurnsAt.of_owns ho9
      refine wpAnyH_ready (rs := [9, 11]) (by kernel_rfl) (by simp) ?_
      refine AllReadyH.cons rfl (fun K hK => ?_) (AllReadyH.cons rfl (fun K hK => ?_) AllReadyH.nil)
      · refine wp_append_run _ _ 23 rfl _ _ _ w9 rfl rfl hr9 ?_
        refine hK.out _ _ b9 (fun _ => ?_)
        clear hK K
        have hHeld := b9
        simp only [Act.put, List.getElem_toArray, List.getElem_cons_succ, List.getElem_cons_zero, List.setIfInBounds_toArray, List.set_cons_zero, List.set_cons_succ]
        refine wpAnyH_take (i := 10) (v := ?_) rfl (by kernel_rfl) (by kernel_rfl) (by kernel_rfl) (fun _ _ _ h => h) (Or.inl ⟨by kernel_rfl, ?_⟩) (by assumption) ?_
        rotate_left
        · intro w' hSw
          have y0 := C0 _ hSw
          have y1 := C1 _ hSw
          have y2 := C2 _ hSw
          have y3 := C3 _ hSw
          go_simp
          try (with_reducible rfl)
        simp only [Act.put, List.getElem_toArray, List.getElem_cons_succ, List.getElem_cons_zero, List.setIfInBounds_toArray, List.set_cons_zero, List.set_cons_succ]
        refine wpAnyH_ready (rs := [11]) (by kernel_rfl) (by simp) ?_
        refine AllReadyH.cons rfl (fun K hK => ?_) AllReadyH.nil
        go_simp
        have b10 : Below wA.heap.size wA (w9.alloc (.cells #[.slice none 0 0, .bool false, .string ⟨#[]⟩, .string ⟨#[]⟩] 25)) := b9.alloc b9.size _
        refine hK.out _ _ b10 (fun _ => ?_)
        clear hK K
        try simp only [Act.put, List.getElem_toArray, List.getElem_cons_succ, List.getElem_cons_zero, List.setIfInBounds_toArray, List.set_cons_zero, List.set_cons_succ]
        have hO9 := out_new (x := q) bA HsA.out kP kR b9 ho9
        refine wpAnyH_ready (rs := [12]) (by kernel_rfl) (by simp) ?_
        refine AllReadyH.cons rfl (fun K hK => ?_) AllReadyH.nil
        go_simp
        refine hK.out _ _ (b9.alloc b9.size _) (fun _ => ?_)
        refine wpAnyH_done (by kernel_rfl) ?_ _
        clear hK K
        go_wp2
        go_meet
        case rel => exact ⟨_, _, rfl, hO9⟩
      · go_simp
        have b8 : Below wA.heap.size wA ((wA.alloc (.cells #[] 69)).drew.alloc (.cells #[.slice none 0 0, .bool false, .string ⟨#[]⟩, .string ⟨#[]⟩] 25)) := bB.alloc bB.size _
        refine hK.out _ _ b8 (fun _ => ?_)
        clear hK K hr9 ho9 hg9 b9
        try simp only [Act.put, List.getElem_toArray, List.getElem_cons_succ, List.getElem_cons_zero, List.setIfInBounds_toArray, List.set_cons_zero, List.set_cons_succ]
        obtain ⟨v9, w9, hr9, ho9, hg9⟩ := app_turns ((wA.alloc (.cells #[] 69)).drew.alloc (.cells #[.slice none 0 0, .bool false, .string ⟨#[]⟩, .string ⟨#[]⟩] 25)) (w.heap.size + 3) _ [] ((hrow0 wA hsl).alloc _) lq cq q.tu (hqT _ b8) (by simp) (by omega) (by have := b8.size; omega)
        have b9 : Below wA.heap.size wA w9 := b8.grown hg9 b8.size (fun k e => by simp [Value.ownBlock] at e; omega)
        simp only [List.nil_append] at ho9
        obtain ⟨l9, c9, rfl, _, _, _⟩ := TurnsAt.of_owns ho9
        have kO8 := Blk.new (wA.alloc (.cells #[] 69)).drew #[.slice none 0 0, .bool false, .string ⟨#[]⟩, .string ⟨#[]⟩] 25
        have e8 : (wA.alloc (.cells #[] 69)).drew.heap.size = wA.heap.size + 1 := World.size_alloc _ _
        rw [e8] at kO8
        have kO := kO8.grown hg9 (by simp only [Value.ownBlock, ne_eq, Option.some.injEq]; omega)
        have hO9 := out_made (x := q) bA HsA.out kP kR b9 (Nat.le_succ _) kO ho9
        refine wpAnyH_ready (rs := [9]) (by kernel_rfl) (by simp) ?_
        refine AllReadyH.cons rfl (fun K hK => ?_) AllReadyH.nil
        refine wp_append_run _ _ 23 rfl _ _ _ w9 rfl rfl hr9 ?_
        refine hK.out _ _ b9 (fun _ => ?_)
        clear hK K
        have hHeld := b9
        simp only [Act.put, List.getElem_toArray, List.getElem_cons_succ, List.getElem_cons_zero, List.setIfInBounds_toArray, List.set_cons_zero, List.set_cons_succ]
        refine wpAnyH_take (i := 10) (v := ?_) rfl (by kernel_rfl) (by kernel_rfl) (by kernel_rfl) (fun _ _ _ h => h) (Or.inl ⟨by kernel_rfl, ?_⟩) (by assumption) ?_
        rotate_left
        · intro w' hSw
          have y0 := C0 _ hSw
          have y1 := C1 _ hSw
          have y2 := C2 _ hSw
          have y3 := C3 _ hSw
          go_simp
          try (with_reducible rfl)
        simp only [Act.put, List.getElem_toArray, List.getElem_cons_succ, List.getElem_cons_zero, List.setIfInBounds_toArray, List.set_cons_zero, List.set_cons_succ]
        have hbS := b9
        have hOO := Nat.le_succ wA.heap.size
        have q0 := (kO.cell 0).trans rfl
        have q1 := (kO.cell 1).trans rfl
        have q2 := (kO.cell 2).trans rfl
        have q3 := (kO.cell 3).trans rfl
        have f0 := kO.frozen 0
        have f1 := kO.frozen 1
        have f2 := kO.frozen 2
        have f3 := kO.frozen 3
        have zO := kO.lt
        refine wpAnyH_ready (rs := [12]) (by kernel_rfl) (by simp) ?_
        refine AllReadyH.cons rfl (fun K hK => ?_) AllReadyH.nil
        go_simp
        refine hK.out _ _ ?_ (fun _ => ?_)
        rotate_left
        · refine wpAnyH_done (by kernel_rfl) ?_ _
          clear hK K
          go_wp2
          go_meet
          case rel => exact ⟨_, _, rfl, hO9⟩
        · exact (((hbS.setCell (p := ⟨_, 0, none⟩) hOO _).setCell (p := ⟨_, 1, none⟩) hOO _).setCell (p := ⟨_, 2, none⟩) hOO _).setCell (p := ⟨_, 3, none⟩) hOO _
    · go_simp
      have b8 : Below wA.heap.size wA (wA.alloc (.cells #[.slice none 0 0, .bool false, .string ⟨#[]⟩, .string ⟨#[]⟩] 25)).drew := ((Below.refl _ _).alloc (Nat.le_refl _) _).drew
      refine hK.out _ _ b8 (fun _ => ?_)
      clear hK K
      try simp only [Act.put, List.getElem_toArray, List.getElem_cons_succ, List.getElem_cons_zero, List.setIfInBounds_toArray, List.set_cons_zero, List.set_cons_succ]
      refine wpAnyH_ready (rs := [6]) (by kernel_rfl) (by simp) ?_
      refine AllReadyH.cons rfl (fun K hK => ?_) AllReadyH.nil
      go_simp
      have bB : Below wA.heap.size wA ((wA.alloc (.cells #[.slice none 0 0, .bool false, .string ⟨#[]⟩, .string ⟨#[]⟩] 25)).drew.alloc (.cells #[] 69)) := b8.alloc b8.size _
      refine hK.out _ _ bB (fun _ => ?_)
      clear hK K
      try simp only [Act.put, List.getElem_toArray, List.getElem_cons_succ, List.getElem_cons_zero, List.setIfInBounds_toArray, List.set_cons_zero, List.set_cons_succ]
      obtain ⟨v9, w9, hr9, ho9, hg9⟩ := app_turns ((wA.alloc (.cells #[.slice none 0 0, .bool false, .string ⟨#[]⟩, .string ⟨#[]⟩] 25)).drew.alloc (.cells #[] 69)) (w.heap.size + 3) _ [] (hrow0 (wA.alloc (.cells #[.slice none 0 0, .bool false, .string ⟨#[]⟩, .string ⟨#[]⟩] 25)).drew (by show _ ≤ (wA.alloc _).heap.size; simp; omega)) lq cq q.tu (hqT _ bB) (by simp) (by omega) (by have := bB.size; omega)
      have e8 : (wA.alloc (.cells #[.slice none 0 0, .bool false, .string ⟨#[]⟩, .string ⟨#[]⟩] 25)).drew.heap.size = wA.heap.size + 1 := World.size_alloc _ _
      rw [e8] at hr9 hg9
      have b9 : Below wA.heap.size wA w9 := bB.grown hg9 bB.size (fun k e => by simp only [Value.ownBlock, Option.some.injEq] at e; omega)
      simp only [List.nil_append] at ho9
      obtain ⟨l9, c9, rfl, _, _, _⟩ := TurnsAt.of_owns ho9
      have kO8 : Blk ((wA.alloc (.cells #[.slice none 0 0, .bool false, .string ⟨#[]⟩, .string ⟨#[]⟩] 25)).drew.alloc (.cells #[] 69)) wA.heap.size #[.slice none 0 0, .bool false, .string ⟨#[]⟩, .string ⟨#[]⟩] 25 := (Blk.new wA #[.slice none 0 0, .bool false, .string ⟨#[]⟩, .string ⟨#[]⟩] 25).drew.alloc _
      have kO := kO8.grown hg9 (by simp only [Value.ownBlock, ne_eq, Option.some.injEq]; omega)
      have hO9 := out_made (x := q) bA HsA.out kP kR b9 (Nat.le_refl _) kO ho9
      refine wpAnyH_ready (rs := [9]) (by kernel_rfl) (by simp) ?_
      refine AllReadyH.cons rfl (fun K hK => ?_) AllReadyH.nil
      refine wp_append_run _ _ 23 rfl _ _ _ w9 rfl rfl hr9 ?_
      refine hK.out _ _ b9 (fun _ => ?_)
      clear hK K
      have hHeld := b9
      simp only [Act.put, List.getElem_toArray, List.getElem_cons_succ, List.getElem_cons_zero, List.setIfInBounds_toArray, List.set_cons_zero, List.set_cons_succ]
      refine wpAnyH_take (i := 10) (v := ?_) rfl (by kernel_rfl) (by kernel_rfl) (by kernel_rfl) (fun _ _ _ h => h) (Or.inl ⟨by kernel_rfl, ?_⟩) (by assumption) ?_
      rotate_left
      · intro w' hSw
        have y0 := C0 _ hSw
        have y1 := C1 _ hSw
        have y2 := C2 _ hSw
        have y3 := C3 _ hSw
        go_simp
        try (with_reducible rfl)
      simp only [Act.put, List.getElem_toArray, List.getElem_cons_succ, List.getElem_cons_zero, List.setIfInBounds_toArray, List.set_cons_zero, List.set_cons_succ]
      have hbS := b9
      have hOO := Nat.le_refl wA.heap.size
      have q0 := (kO.cell 0).trans rfl
      have q1 := (kO.cell 1).trans rfl
      have q2 := (kO.cell 2).trans rfl
      have q3 := (kO.cell 3).trans rfl
      have f0 := kO.frozen 0
      have f1 := kO.frozen 1
      have f2 := kO.frozen 2
      have f3 := kO.frozen 3
      have zO := kO.lt
      refine wpAnyH_ready (rs := [12]) (by kernel_rfl) (by simp) ?_
      refine AllReadyH.cons rfl (fun K hK => ?_) AllReadyH.nil
      go_simp
      refine hK.out _ _ ?_ (fun _ => ?_)
      rotate_left
      · refine wpAnyH_done (by kernel_rfl) ?_ _
        clear hK K
        go_wp2
        go_meet
        case rel => exact ⟨_, _, rfl, hO9⟩
      · exact (((hbS.setCell (p := ⟨_, 0, none⟩) hOO _).setCell (p := ⟨_, 1, none⟩) hOO _).setCell (p := ⟨_, 2, none⟩) hOO _).setCell (p := ⟨_, 3, none⟩) hOO _
  case rest =>
    obtain ⟨O, sv, rfl, G⟩ := hcut
    generalize wc = wy at *
    obtain ⟨la, cap, rfl, _, _, _⟩ := TurnsAt.of_owns G.row
    obtain ⟨_, F⟩ := G.fin hq.each hq.key hq.val
    have o0 := (G.out.cell 0).trans rfl
    have o0f := G.out.frozen 0
    have o2 := (G.out.cell 2).trans rfl
    have o2f := G.out.frozen 2
    have o3 := (G.out.cell 3).trans rfl
    have o3f := G.out.frozen 3
    have zO := G.out.lt
    have p0 := (G.pb.cell 0).trans rfl
    have p2 := (G.pb.cell 2).trans rfl
    have p3 := (G.pb.cell 3).trans rfl
    have zP := G.pb.lt
    clear C0 C1 C2 C3 kQ kP kR hHeld hqT
    have KP := fun w' => pick_any how 9 w' hh (by omega)
    have hlq : q.key.length ≤ max q.key.length p.key.length := Nat.le_max_left _ _
    have hlq2 : q.val.length ≤ max q.val.length p.val.length := Nat.le_max_left _ _
    have hlp : p.key.length ≤ max q.key.length p.key.length := Nat.le_max_right _ _
    have hlp2 : p.val.length ≤ max q.val.length p.val.length := Nat.le_max_right _ _
    have HF := show Hid (FinAt _ _ _ _ _ _) from F
    have HG := show Hid (OutAt _ _ _ _ _ _ _ _) from G
    clear F G
    have s0 := (HG.out.res.cell 0).trans rfl
    have s1 := (HG.out.res.cell 1).trans rfl
    have s2 := (HG.out.res.cell 2).trans rfl
    have s3 := (HG.out.res.cell 3).trans rfl
    have s0f := HG.out.res.frozen 0
    have s1f := HG.out.res.frozen 1
    have s2f := HG.out.res.frozen 2
    have s3f := HG.out.res.frozen 3
    have zS := HG.out.res.lt
    have o1 := (HG.out.out.cell 1).trans rfl
    have neO : w.heap.size + 2 ≠ O := by have := HG.out.lo; omega
    have neO' : O ≠ w.heap.size + 2 := by omega
    go_wp2_with fail
    refine (KP _).mono ?_
    rintro e _ ⟨⟨r, rfl, hr0, hr9⟩, rfl⟩
    clear KP
    by_cases e1 : r = 1
    · subst e1
      have F' := (HF.out.setKV q.key p.val hq.key hp.val).2
      go_wp2
      exact bodyPost_ret (v := pfV la cap ⟨q.leaf, q.key, p.val, q.tu⟩) (by simp [results, Try.results10, go_sem, pfV, s0, s1, s2, s3, s0f, s1f, s2f, s3f, zS, neO, neO']) rfl ⟨la, cap, ⟨q.leaf, q.key, p.val, q.tu⟩, rfl, F'.done.1, by simp only; omega, hlq, hlp2, F'.done.2⟩
    have r1 : (r == 1) = false := by simpa using e1
    by_cases e2 : r = 2
    · subst e2
      have F' := (HF.out.setKV p.key q.val hp.key hq.val).1
      go_wp2
      exact bodyPost_ret (v := pfV la cap ⟨q.leaf, p.key, q.val, q.tu⟩) (by simp [results, Try.results10, go_sem, pfV, s0, s1, s2, s3, s0f, s1f, s2f, s3f, zS, neO, neO']) rfl ⟨la, cap, ⟨q.leaf, p.key, q.val, q.tu⟩, rfl, F'.done.1, by simp only; omega, hlp, hlq2, F'.done.2⟩
    have r2 : (r == 2) = false := by simpa using e2
    by_cases e3 : r = 3
    · subst e3
      clear e1 e2
      by_cases hz : q.tu.length > 0
      · have hz' : ((q.tu.length : Nat) : Int) > 0 := by omega
        rcases HF.out.pf.turns with e0 | ⟨b5, o5, e5, z5, c5⟩
        · rw [e0] at hz; simp at hz
        subst e5
        have KD := fun w' => pick_any d q.tu.length w' hd (by omega)
        have fz5 : ∀ m, wy.frozen? ⟨b5, m, none⟩ = false := fun m => by
          rcases HG.out.row.2 with ⟨e0, _⟩ | ⟨g, cg, cur, e0, _, hg2, _⟩
          · cases e0
          · injection e0 with e0 _ _; injection e0 with e0; injection e0 with e0 _
            subst e0
            exact Blk.frozen (cs := cur) (t := 69) hg2 m
        have neB : b5 ≠ O := (HF.out.far (fun e0 => by rw [e0] at hz; simp at hz) b5 o5 rfl).2
        have D0 : ∀ w' : World, w'.cell? ⟨O, 0, none⟩ = some (.slice (some ⟨b5, o5, none⟩) q.tu.length cap) → w'.cell? ⟨O, 0, none⟩ = some (.slice (some ⟨b5, o5, none⟩) q.tu.length cap) := fun w' hb => hb
        have o0d : wy.drew.cell? ⟨O, 0, none⟩ = some (.slice (some ⟨b5, o5, none⟩) q.tu.length cap) := o0
        go_upto_region 9 with fail
        go_region_held3 (fun w' : World => w'.cell? ⟨O, 0, none⟩ = some (.slice (some ⟨b5, o5, none⟩) q.tu.length cap)) (first | assumption | exact o0d | exact (cell_off ⟨b5, _, none⟩ ⟨O, 0, none⟩ _ neB).trans o0)
          (first
          | (go_at_call 6
             refine (KD _).mono ?_
             rintro e _ ⟨⟨r3, rfl, hk0, hk1⟩, rfl⟩
             obtain ⟨i3, rfl⟩ : ∃ i3 : Nat, r3 = i3 := ⟨r3.toNat, by omega⟩
             have hi3 : i3 < q.tu.length := by omega
             obtain ⟨g1, g2⟩ := c5 i3 _ (List.getElem?_eq_getElem hi3)
             have g2d : wy.drew.cell? ⟨b5, o5 + i3 * 2 + 1, none⟩ = some (.int .u64 q.tu[i3].2) := g2
             have g2f : wy.drew.frozen? ⟨b5, o5 + i3 * 2 + 1, none⟩ = false := fz5 _))
        have e3' := hq.each _ (List.getElem_mem hi3)
        have F3 := (HF.out.put (i := i3) (j := 1) (y := (q.tu[i3].1, IntKind.u64.wrap d)) (u := .int .u64 (IntKind.u64.wrap d)) hi3 ⟨e3'.1, wrap_u64 d⟩ (.inr ⟨rfl, rfl, rfl⟩)).drew
        have F5 := show Hid (FinAt _ _ _ _ _ _) from F3
        clear o0 o1 o2 o3 s0 s1 s2 s3 s0f s1f s2f s3f zS D0 o0d KD
        have o0 := (F3.out.cell 0).trans rfl
        have o1 := (F3.out.cell 1).trans rfl
        have o2 := (F3.out.cell 2).trans rfl
        have o3 := (F3.out.cell 3).trans rfl
        have zO3 := F3.out.lt
        have s0 := (F3.res.cell 0).trans rfl
        have s1 := (F3.res.cell 1).trans rfl
        have s2 := (F3.res.cell 2).trans rfl
        have s3 := (F3.res.cell 3).trans rfl
        have s0f := F3.res.frozen 0
        have s1f := F3.res.frozen 1
        have s2f := F3.res.frozen 2
        have s3f := F3.res.frozen 3
        have zS := F3.res.lt
        clear F3
        generalize (wy.setCell ⟨b5, o5 + i3 * 2 + 1, none⟩ (.int .u64 (IntKind.u64.wrap d))).drew = wX at *
        simp only [List.length_set] at o0
        go_wp2
        have hdn := F5.out.done
        simp only [List.length_set] at hdn
        exact bodyPost_ret (v := .agg #[.slice (some ⟨b5, o5, none⟩) q.tu.length cap, .bool q.leaf, .string (str q.key), .string (str q.val)]) (by simp [results, Try.results10, go_sem, s0, s1, s2, s3, s0f, s1f, s2f, s3f, zS, neO, neO']) rfl ⟨some ⟨b5, o5, none⟩, cap, ⟨q.leaf, q.key, q.val, q.tu.set i3 (q.tu[i3].1, IntKind.u64.wrap d)⟩, by simp, hdn.1, by simp; omega, hlq, hlq2, hdn.2⟩
      · have hz' : ¬ ((q.tu.length : Nat) : Int) > 0 := by omega
        have F' := HF.out
        go_wp2
        exact bodyPost_ret (v := pfV la cap q) (by simp [results, Try.results10, go_sem, pfV, s0, s1, s2, s3, s0f, s1f, s2f, s3f, zS, neO, neO']) rfl ⟨la, cap, q, rfl, F'.done.1, by omega, hlq, hlq2, F'.done.2⟩
    have r3 : (r == 3) = false := by simpa using e3
    by_cases e5 : r = 5
    · subst e5
      clear e1 e2 e3
      by_cases hz : q.tu.length > 0
      · have hz' : ((q.tu.length : Nat) : Int) > 0 := by omega
        by_cases hcap : cap = 1
        · have F5 := show Hid (FinAt _ _ _ _ _ _) from HF.out.tail0 hcap hz
          go_upto_region 12 with fail
          go_wp2
          have hdn := F5.out.done
          simp only [List.length_tail] at hdn
          exact bodyPost_ret (v := .agg #[.slice la (q.tu.length - 1) 0, .bool q.leaf, .string (str q.key), .string (str q.val)]) (by simp [results, Try.results10, go_sem, pfV, s0, s1, s2, s3, s0f, s1f, s2f, s3f, zS, neO, neO']) rfl ⟨la, 0, ⟨q.leaf, q.key, q.val, q.tu.tail⟩, by simp [pfV], hdn.1, by simp; omega, hlq, hlq2, hdn.2⟩
        · rcases HF.out.pf.turns with e0 | ⟨b5, o5, e5, _, _⟩
          · rw [e0] at hz; simp at hz
          subst e5
          have F5 := show Hid (FinAt _ _ _ _ _ _) from HF.out.tail1 hz
          go_upto_region 12 with fail
          go_wp2
          have hdn := F5.out.done
          simp only [List.length_tail] at hdn
          exact bodyPost_ret (v := .agg #[.slice (some ⟨b5, o5 + 2, none⟩) (q.tu.length - 1) (cap - 1), .bool q.leaf, .string (str q.key), .string (str q.val)]) (by simp [results, Try.results10, go_sem, pfV, s0, s1, s2, s3, s0f, s1f, s2f, s3f, zS, neO, neO']) rfl ⟨(some ⟨b5, o5 + 2, none⟩), (cap - 1), ⟨q.leaf, q.key, q.val, q.tu.tail⟩, by simp [pfV], hdn.1, by simp; omega, hlq, hlq2, hdn.2⟩
      · have hz' : ¬ ((q.tu.length : Nat) : Int) > 0 := by omega
        have F' := HF.out
        go_wp2
        exact bodyPost_ret (v := pfV la cap q) (by simp [results, Try.results10, go_sem, pfV, s0, s1, s2, s3, s0f, s1f, s2f, s3f, zS, neO, neO']) rfl ⟨la, cap, q, rfl, F'.done.1, by omega, hlq, hlq2, F'.done.2⟩
    have r5 : (r == 5) = false := by simpa using e5
    by_cases e6 : r = 6
    · subst e6
      clear e1 e2 e3 e5
      have hpT : TurnsAt wy lp p.tu := hp.turns.below HG.out.below
      obtain ⟨v9, w9, hr9, ho9, hg9⟩ := app_turns wy (w.heap.size + 3) _ q.tu HG.out.row lp cp p.tu hpT (by omega) (by omega) (by have := HG.out.out.lt; have := HG.out.lo; omega)
      obtain ⟨l9, c9, rfl, _, _, _⟩ := TurnsAt.of_owns ho9
      obtain ⟨k9, k9r, G9⟩ := HG.out.app ho9 hg9
      obtain ⟨_, F9⟩ := G9.fin (fun t ht => (List.mem_append.1 ht).elim (hq.each t) (hp.each t)) hq.key hq.val
      have F6 := show Hid (FinAt _ _ _ _ _ _) from F9
      clear F9 G9 o2 o3 o1 s0 s1 s2 s3 s0f s1f s2f s3f zS
      have j0 := (k9.cell 0).trans rfl
      have j0f := k9.frozen 0
      have j1 := (k9.cell 1).trans rfl
      have j2 := (k9.cell 2).trans rfl
      have j3 := (k9.cell 3).trans rfl
      have zj := k9.lt
      have s0 := (k9r.cell 0).trans rfl
      have s1 := (k9r.cell 1).trans rfl
      have s2 := (k9r.cell 2).trans rfl
      have s3 := (k9r.cell 3).trans rfl
      have s0f := k9r.frozen 0
      have s1f := k9r.frozen 1
      have s2f := k9r.frozen 2
      have s3f := k9r.frozen 3
      have zS := k9r.lt
      go_upto_region 14 with fail
      go_wp2_with (at_builtin; refine wpList_plain rfl fun K hK => wp_append_run _ _ 23 rfl _ _ _ w9 rfl rfl hr9 (hK _ _ ?_); go_frame)
      have hdn := F6.out.done
      simp only [List.length_append] at hdn
      exact bodyPost_ret (v := .agg #[.slice l9 (q.tu.length + p.tu.length) c9, .bool q.leaf, .string (str q.key), .string (str q.val)]) (by simp [results, Try.results10, go_sem, s0, s1, s2, s3, s0f, s1f, s2f, s3f, zS, neO, neO']) rfl ⟨l9, c9, ⟨q.leaf, q.key, q.val, q.tu ++ p.tu⟩, by simp, hdn.1, by simp; omega, hlq, hlq2, hdn.2⟩
    have r6 : (r == 6) = false := by simpa using e6
    by_cases e7 : r = 7
    · subst e7
      clear e1 e2 e3 e5 e6
      by_cases hz : q.tu.length > 0
      · have hz' : ((q.tu.length : Nat) : Int) > 0 := by omega
        rcases HF.out.pf.turns with e0 | ⟨b5, o5, e5, z5, c5⟩
        · rw [e0] at hz; simp at hz
        subst e5
        have KD := fun w' => pick_any d q.tu.length w' hd (by omega)
        have KD7 := fun w' => pick_any (IntKind.i64.wrap (d.tdiv 7)) 300 w' (wrap_i64 _) (by omega)
        have fz5 : ∀ m, wy.frozen? ⟨b5, m, none⟩ = false := fun m => by
          rcases HG.out.row.2 with ⟨e0, _⟩ | ⟨g, cg, cur, e0, _, hg2, _⟩
          · cases e0
          · injection e0 with e0 _ _; injection e0 with e0; injection e0 with e0 _
            subst e0
            exact Blk.frozen (cs := cur) (t := 69) hg2 m
        have neB : b5 ≠ O := (HF.out.far (fun e0 => by rw [e0] at hz; simp at hz) b5 o5 rfl).2
        have D0 : ∀ w' : World, w'.cell? ⟨O, 0, none⟩ = some (.slice (some ⟨b5, o5, none⟩) q.tu.length cap) → w'.cell? ⟨O, 0, none⟩ = some (.slice (some ⟨b5, o5, none⟩) q.tu.length cap) := fun w' hb => hb
        have o0d : wy.drew.cell? ⟨O, 0, none⟩ = some (.slice (some ⟨b5, o5, none⟩) q.tu.length cap) := o0
        go_upto_region 17 with fail
        go_region_held3 (fun w' : World => w'.cell? ⟨O, 0, none⟩ = some (.slice (some ⟨b5, o5, none⟩) q.tu.length cap)) (first | assumption | exact o0d | exact (cell_off ⟨b5, _, none⟩ ⟨O, 0, none⟩ _ neB).trans o0)
          (first
          | (go_at_call 6
             with_reducible refine (KD _).mono ?_
             rintro e _ ⟨⟨r3, rfl, hk0, hk1⟩, rfl⟩
             obtain ⟨i3, rfl⟩ : ∃ i3 : Nat, r3 = i3 := ⟨r3.toNat, by omega⟩
             have hi3 : i3 < q.tu.length := by omega
             obtain ⟨g1, g2⟩ := c5 i3 _ (List.getElem?_eq_getElem hi3)
             have g2d : wy.drew.cell? ⟨b5, o5 + i3 * 2, none⟩ = some (.int .i64 q.tu[i3].1) := g1
             have g2f : wy.drew.frozen? ⟨b5, o5 + i3 * 2, none⟩ = false := fz5 _)
          | (go_at_call 6
             with_reducible refine (KD7 _).mono ?_
             rintro e _ ⟨⟨r7, rfl, hk70, hk71⟩, rfl⟩))
        have e3' := hq.each _ (List.getElem_mem hi3)
        have F3 := (HF.out.put (i := i3) (j := 0) (y := (r7, q.tu[i3].2)) (u := .int .i64 r7) hi3 ⟨⟨by omega, by omega⟩, e3'.2⟩ (.inl ⟨rfl, rfl, rfl⟩)).drew
        have F5 := show Hid (FinAt _ _ _ _ _ _) from F3
        clear o0 o1 o2 o3 s0 s1 s2 s3 s0f s1f s2f s3f zS D0 o0d KD
        have o0 := (F3.out.cell 0).trans rfl
        have o1 := (F3.out.cell 1).trans rfl
        have o2 := (F3.out.cell 2).trans rfl
        have o3 := (F3.out.cell 3).trans rfl
        have zO3 := F3.out.lt
        have s0 := (F3.res.cell 0).trans rfl
        have s1 := (F3.res.cell 1).trans rfl
        have s2 := (F3.res.cell 2).trans rfl
        have s3 := (F3.res.cell 3).trans rfl
        have s0f := F3.res.frozen 0
        have s1f := F3.res.frozen 1
        have s2f := F3.res.frozen 2
        have s3f := F3.res.frozen 3
        have zS := F3.res.lt
        clear F3
        generalize (wy.setCell ⟨b5, o5 + i3 * 2, none⟩ (.int .i64 r7)).drew = wX at *
        simp only [List.length_set] at o0
        go_wp2
        have hdn := F5.out.done
        simp only [List.length_set] at hdn
        exact bodyPost_ret (v := .agg #[.slice (some ⟨b5, o5, none⟩) q.tu.length cap, .bool q.leaf, .string (str q.key), .string (str q.val)]) (by simp [results, Try.results10, go_sem, s0, s1, s2, s3, s0f, s1f, s2f, s3f, zS, neO, neO']) rfl ⟨some ⟨b5, o5, none⟩, cap, ⟨q.leaf, q.key, q.val, q.tu.set i3 (r7, q.tu[i3].2)⟩, by simp, hdn.1, by simp; omega, hlq, hlq2, hdn.2⟩
      · have hz' : ¬ ((q.tu.length : Nat) : Int) > 0 := by omega
        have F' := HF.out
        go_wp2
        exact bodyPost_ret (v := pfV la cap q) (by simp [results, Try.results10, go_sem, pfV, s0, s1, s2, s3, s0f, s1f, s2f, s3f, zS, neO, neO']) rfl ⟨la, cap, q, rfl, F'.done.1, by omega, hlq, hlq2, F'.done.2⟩
    have r7 : (r == 7) = false := by simpa using e7
    clear e1 e2 e3 e5 e6 e7
    have F' := HF.out
    go_wp2
    exact bodyPost_ret (v := pfV la cap q) (by simp [results, Try.results10, go_sem, pfV, s0, s1, s2, s3, s0f, s1f, s2f, s3f, zS, neO, neO']) rfl ⟨la, cap, q, rfl, F'.done.1, by omega, hlq, hlq2, F'.done.2⟩
end Go.Proofs.Ytcpjcjonlkgblaa
