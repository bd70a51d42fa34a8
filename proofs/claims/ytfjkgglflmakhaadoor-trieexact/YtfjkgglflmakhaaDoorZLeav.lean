/- The leaves to which a text leads. -/
import Derived.Test.YtfjkgglflmakhaaDoorZPure
import Derived.Test.YtfjkgglflmakhaaDoorM33
import Derived.Test.YtfjkgglflmakhaaDoorM09
import Derived.Test.YtfjkgglflmakhaaDoorTLast
namespace Go.Proofs.YtfjkgglflmakhaaDoor
open Go.RowKit
set_option linter.unusedVariables false
set_option linter.unusedSimpArgs false

theorem Blk.trans' {w : World} {b bl br bl' br' : Nat} {d p : Int} {s1 s2 : ByteArray} (h : Blk w b #[.int .u64 d, .string s1, .string s2, .int .i64 p, .pointer (some ⟨bl, 0, none⟩), .pointer (some ⟨br, 0, none⟩)] 63) (g : Blk w b #[.int .u64 d, .string s1, .string s2, .int .i64 p, .pointer (some ⟨bl', 0, none⟩), .pointer (some ⟨br', 0, none⟩)] 63) : bl' = bl ∧ br' = br := by
  unfold Blk at h g
  rw [h] at g
  simp at g
  exact ⟨g.1.symm, g.2.symm⟩
/-- The box of n, under way. -/
structure LvAt (wd : Int) (w0 w : World) (b : Nat) (s : Tr) (W : World) : Prop where
  below : Below w.heap.size w W
  box : Blk W (w.heap.size + 1) #[.pointer (some ⟨b, 0, none⟩)] 25
  node : NodeAt wd w0 b s
theorem LvAt.drew {wd : Int} {w0 w : World} {b : Nat} {s : Tr} {W : World} (h : LvAt wd w0 w b s W) : LvAt wd w0 w b s W.drew := ⟨h.below.drew, h.box.drew, h.node⟩

set_option maxRecDepth 4000 in
set_option maxHeartbeats 3200000 in
theorem leaves_pre (wd : Int) (b : Nat) (t : Tr) (p : Key) (w0 w : World) (hB0 : Below w0.heap.size w0 w) (hp : p.length ≤ 100000000) (hpl : t.placed) (h : NodeAt wd w0 b t) :
    Calls Tryd.prog 33 #[.agg #[.int .i64 wd, .pointer (some ⟨b, 0, none⟩)], .string (str p)] w fun e w' => (∃ c, LeavesFn (some ⟨c, 0, none⟩) w e w' ∧ NodeAt wd w0 c (t.sub p)) ∧ Below w.heap.size w w' := by
  have hmf : ∀ (fn : Fn) (first cap : Array Value) (w : World), (Instr.makeFunc fn first cap).run Tryd.prog w = .ok (.func fn first cap) w := fun _ _ _ _ => rfl
  have bA : Below w.heap.size w ((w.alloc (.cells #[.int .i64 wd, .pointer (some ⟨b, 0, none⟩)] 27)).alloc (.cells #[.pointer (some ⟨b, 0, none⟩)] 25)) := ((Below.refl _ _).alloc (Nat.le_refl _) _).alloc (by simp) _
  have s0 := str_size p
  have kB := Blk.new (w.alloc (.cells #[.int .i64 wd, .pointer (some ⟨b, 0, none⟩)] 27)) #[.pointer (some ⟨b, 0, none⟩)] 25
  rw [World.size_alloc] at kB
  have L0 : LvAt wd w0 w b t _ := ⟨bA, kB, h⟩
  clear bA kB h
  go_enter Tryd.func33, Tryd.ntmps33
  go_wp2_with fail
  generalize (w.alloc (.cells #[.int .i64 wd, .pointer (some ⟨b, 0, none⟩)] 27)).alloc (.cells #[.pointer (some ⟨b, 0, none⟩)] 25) = wA at *
  go_loopg [] t.size (fun g wr => ∃ (c : Nat) (u : Tr), g = u.size ∧ u.placed ∧ Hid (u.sub p = t.sub p) ∧ LvAt wd w0 w c u wr)
  case atStart => exact ⟨b, t, rfl, hpl, rfl, L0⟩
  case round =>
    obtain ⟨c, u, rfl, hpu, HS, L⟩ := hrel
    clear L0
    have q0 := (L.box.cell 0).trans rfl
    have zB := L.box.lt
    cases u with
    | leaf k v =>
      have K1 := fun w' (hb : Below w.heap.size w w') => forks_leaf wd c k v w' (NodeAt.below (hB0.trans (hb.mono hB0.size)) L.node)
      have HE : Hid (LvAt wd w0 w c (t.sub p) wr) := by
        have e : Tr.leaf k v = t.sub p := HS.out
        rw [← e]; exact L
      have hb := L.below
      clear HS L
      go_wp2_with fail
      refine (K1 _ hb).mono ?_
      rintro e w' ⟨rfl, rfl⟩
      go_wp2
      go_ret
      exact ⟨⟨c, ⟨w.heap.size + 1, rfl, q0, by omega, zB⟩, HE.out.node⟩, HE.out.below⟩
    | fork q l r =>
      have K1 := fun w' (hb : Below w.heap.size w w') => forks_fork wd c q l r w' (NodeAt.below (hB0.trans (hb.mono hB0.size)) L.node)
      have hNw := NodeAt.below (hB0.trans (L.below.mono hB0.size)) L.node
      obtain ⟨bl, br, kN, nl', nr'⟩ := hNw
      have c3 := (kN.cell 3).trans rfl
      have zN := kN.lt
      have hb := L.below
      by_cases hq : q < 9 * p.length
      · have hq' : (q : Int) < 9 * (p.length : Int) := by omega
        have KB := fun w' => bit_any p q w' (by unfold maxLen; omega) hpu.1
        obtain ⟨bl2, br2, kW, nl, nr⟩ := L.node
        have eB := kN.trans' (kW.below (hB0.trans (L.below.mono hB0.size)) kW.lt)
        obtain ⟨rfl, rfl⟩ := eB
        have Y0 : ∀ w', LvAt wd w0 w c (.fork q l r) w' → w'.cell? ⟨w.heap.size + 1, 0, none⟩ = some (.pointer (some ⟨c, 0, none⟩)) := fun w' h => (h.box.cell 0).trans rfl
        have Y3 : ∀ w', LvAt wd w0 w c (.fork q l r) w' → w'.cell? ⟨c, 3, none⟩ = some (.int .i64 q) := fun w' h => ((kW.below (hB0.trans (h.below.mono hB0.size)) kW.lt).cell 3).trans rfl
        rcases bitP_01 p q with hbit | hbit
        · rw [hbit] at KB
          have HS2 : Hid (l.sub p = t.sub p) := by
            have e := HS.out
            simp only [Tr.sub, if_pos hq, hbit, if_true] at e
            exact e
          have KD : ∀ w', LvAt wd w0 w c (.fork q l r) w' → Calls Tryd.prog 38 #[.pointer (some ⟨c, 0, none⟩), .int .i64 0] w' fun e w'' => e = .returned (.pointer (some ⟨bl2, 0, none⟩)) ∧ w' = w'' := fun w' h => side_any c 0 bl2 br2 _ _ _ _ w' (.inl rfl) (kW.below (hB0.trans (h.below.mono hB0.size)) kW.lt)
          clear HS hbit hq
          go_wp2_with fail
          refine (K1 _ hb).mono ?_
          rintro e w' ⟨rfl, rfl⟩
          go_upto_region 3 with fail
          have LD := L.drew
          have bx0 := (LD.box.cell 0).trans rfl
          have bxf := LD.box.frozen 0
          have bxz := LD.box.lt
          have L2 : LvAt wd w0 w bl2 l (wr.drew.setCell ⟨w.heap.size + 1, 0, none⟩ (.pointer (some ⟨bl2, 0, none⟩))) := ⟨LD.below.setCell (p := ⟨w.heap.size + 1, 0, none⟩) (by show _ ≤ w.heap.size + 1; omega) _, LD.box.set 0 _, nl⟩
          have HL2 := show Hid (LvAt _ _ _ _ _ _) from L2
          clear L2 q0 zB c3 zN L
          refine wp_region_last (S := fun w' => LvAt wd w0 w c (.fork q l r) w') 8 _ rfl (by kernel_rfl) (by kernel_rfl) ?_
          simp only [List.setIfInBounds_toArray, List.set_cons_zero, List.set_cons_succ]
          refine wpAnyH_take (i := 0) (v := .pointer (some ⟨c, 0, none⟩)) rfl (by kernel_rfl) (by kernel_rfl) (by kernel_rfl) (fun _ _ _ h => h) (Or.inl ⟨by kernel_rfl, ?_⟩) (by assumption) ?_
          · intro w' hSw
            have yY := Y0 _ hSw
            go_simp
            first | (with_reducible rfl) | done | assumption | skip
          simp only [Act.put, List.getElem_toArray, List.getElem_cons_succ, List.getElem_cons_zero, List.setIfInBounds_toArray, List.set_cons_zero, List.set_cons_succ]
          refine wpAnyH_take (i := 1) (v := ?_) rfl (by kernel_rfl) (by kernel_rfl) (by kernel_rfl) (fun _ _ _ h => h) (Or.inl ⟨by kernel_rfl, ?_⟩) (by assumption) ?_
          rotate_left
          · intro w' hSw
            go_simp
            first | (with_reducible rfl) | done | assumption | skip
          simp only [Act.put, List.getElem_toArray, List.getElem_cons_succ, List.getElem_cons_zero, List.setIfInBounds_toArray, List.set_cons_zero, List.set_cons_succ]
          refine wpAnyH_take (i := 2) (v := .pointer (some ⟨c, 0, none⟩)) rfl (by kernel_rfl) (by kernel_rfl) (by kernel_rfl) (fun _ _ _ h => h) (Or.inl ⟨by kernel_rfl, ?_⟩) (by assumption) ?_
          · intro w' hSw
            have yY := Y0 _ hSw
            go_simp
            first | (with_reducible rfl) | done | assumption | skip
          simp only [Act.put, List.getElem_toArray, List.getElem_cons_succ, List.getElem_cons_zero, List.setIfInBounds_toArray, List.set_cons_zero, List.set_cons_succ]
          refine wpAnyH_take (i := 3) (v := ?_) rfl (by kernel_rfl) (by kernel_rfl) (by kernel_rfl) (fun _ _ _ h => h) (Or.inl ⟨by kernel_rfl, ?_⟩) (by assumption) ?_
          rotate_left
          · intro w' hSw
            go_simp
            first | (with_reducible rfl) | done | assumption | skip
          simp only [Act.put, List.getElem_toArray, List.getElem_cons_succ, List.getElem_cons_zero, List.setIfInBounds_toArray, List.set_cons_zero, List.set_cons_succ]
          refine wpAnyH_take (i := 4) (v := ?_) rfl (by kernel_rfl) (by kernel_rfl) (by kernel_rfl) (fun _ _ _ h => h) (Or.inl ⟨by kernel_rfl, ?_⟩) (by assumption) ?_
          rotate_left
          · intro w' hSw
            go_simp
            first | (with_reducible rfl) | done | assumption | skip
          simp only [Act.put, List.getElem_toArray, List.getElem_cons_succ, List.getElem_cons_zero, List.setIfInBounds_toArray, List.set_cons_zero, List.set_cons_succ]
          refine wpAnyH_take (i := 5) (v := .int .i64 q) rfl (by kernel_rfl) (by kernel_rfl) (by kernel_rfl) (fun _ _ _ h => h) (Or.inl ⟨by kernel_rfl, ?_⟩) (by assumption) ?_
          · intro w' hSw
            have yY := Y3 _ hSw
            go_simp
            first | (with_reducible rfl) | done | assumption | skip
          simp only [Act.put, List.getElem_toArray, List.getElem_cons_succ, List.getElem_cons_zero, List.setIfInBounds_toArray, List.set_cons_zero, List.set_cons_succ]
          refine wpAnyH_ready (rs := [6]) (by kernel_rfl) (by simp) ?_
          refine AllReadyH.cons rfl (fun K hK => ?_) AllReadyH.nil
          go_simp
          refine (KB _).mono ?_
          rintro e w' ⟨rfl, rfl⟩
          refine hK.out _ _ (by assumption) (fun _ => ?_)
          clear hK K
          try simp only [Act.put, List.getElem_toArray, List.getElem_cons_succ, List.getElem_cons_zero, List.setIfInBounds_toArray, List.set_cons_zero, List.set_cons_succ]
          refine wpAnyH_ready (rs := [7]) (by kernel_rfl) (by simp) ?_
          refine AllReadyH.cons rfl (fun K hK => ?_) AllReadyH.nil
          go_simp
          refine (KD _ LD).mono ?_
          rintro e w' ⟨rfl, rfl⟩
          refine hK.out _ _ (by assumption) (fun _ => ?_)
          clear hK K
          try simp only [Act.put, List.getElem_toArray, List.getElem_cons_succ, List.getElem_cons_zero, List.setIfInBounds_toArray, List.set_cons_zero, List.set_cons_succ]
          refine wpAnyH_ready (rs := [8]) (by kernel_rfl) (by simp) ?_
          refine AllReadyH.cons rfl (fun K hK => ?_) AllReadyH.nil
          go_simp
          refine hK.out _ _ (by assumption) (fun _ => ?_)
          clear hK K
          try simp only [Act.put, List.getElem_toArray, List.getElem_cons_succ, List.getElem_cons_zero, List.setIfInBounds_toArray, List.set_cons_zero, List.set_cons_succ]
          refine wpAnyH_done (by kernel_rfl) ?_ _
          simp only [ThenLast]
          refine wpOp_step rfl (fun K hK => ?_)
          go_simp
          refine hK _ _ ?_
          clear hK K
          try simp only [Exit.then]
          go_wp2
          go_roundg l.size
          case measure => simp [Tr.size]; omega
          case rel => exact ⟨bl2, l, rfl, hpu.2.1, HS2, HL2.out⟩
        · rw [hbit] at KB
          have HS2 : Hid (r.sub p = t.sub p) := by
            have e := HS.out
            simp only [Tr.sub, if_pos hq, hbit, Nat.one_ne_zero, if_false] at e
            exact e
          have KD : ∀ w', LvAt wd w0 w c (.fork q l r) w' → Calls Tryd.prog 38 #[.pointer (some ⟨c, 0, none⟩), .int .i64 1] w' fun e w'' => e = .returned (.pointer (some ⟨br2, 0, none⟩)) ∧ w' = w'' := fun w' h => side_any c 1 bl2 br2 _ _ _ _ w' (.inr rfl) (kW.below (hB0.trans (h.below.mono hB0.size)) kW.lt)
          clear HS hbit hq
          go_wp2_with fail
          refine (K1 _ hb).mono ?_
          rintro e w' ⟨rfl, rfl⟩
          go_upto_region 3 with fail
          have LD := L.drew
          have bx0 := (LD.box.cell 0).trans rfl
          have bxf := LD.box.frozen 0
          have bxz := LD.box.lt
          have L2 : LvAt wd w0 w br2 r (wr.drew.setCell ⟨w.heap.size + 1, 0, none⟩ (.pointer (some ⟨br2, 0, none⟩))) := ⟨LD.below.setCell (p := ⟨w.heap.size + 1, 0, none⟩) (by show _ ≤ w.heap.size + 1; omega) _, LD.box.set 0 _, nr⟩
          have HL2 := show Hid (LvAt _ _ _ _ _ _) from L2
          clear L2 q0 zB c3 zN L
          refine wp_region_last (S := fun w' => LvAt wd w0 w c (.fork q l r) w') 8 _ rfl (by kernel_rfl) (by kernel_rfl) ?_
          simp only [List.setIfInBounds_toArray, List.set_cons_zero, List.set_cons_succ]
          refine wpAnyH_take (i := 0) (v := .pointer (some ⟨c, 0, none⟩)) rfl (by kernel_rfl) (by kernel_rfl) (by kernel_rfl) (fun _ _ _ h => h) (Or.inl ⟨by kernel_rfl, ?_⟩) (by assumption) ?_
          · intro w' hSw
            have yY := Y0 _ hSw
            go_simp
            first | (with_reducible rfl) | done | assumption | skip
          simp only [Act.put, List.getElem_toArray, List.getElem_cons_succ, List.getElem_cons_zero, List.setIfInBounds_toArray, List.set_cons_zero, List.set_cons_succ]
          refine wpAnyH_take (i := 1) (v := ?_) rfl (by kernel_rfl) (by kernel_rfl) (by kernel_rfl) (fun _ _ _ h => h) (Or.inl ⟨by kernel_rfl, ?_⟩) (by assumption) ?_
          rotate_left
          · intro w' hSw
            go_simp
            first | (with_reducible rfl) | done | assumption | skip
          simp only [Act.put, List.getElem_toArray, List.getElem_cons_succ, List.getElem_cons_zero, List.setIfInBounds_toArray, List.set_cons_zero, List.set_cons_succ]
          refine wpAnyH_take (i := 2) (v := .pointer (some ⟨c, 0, none⟩)) rfl (by kernel_rfl) (by kernel_rfl) (by kernel_rfl) (fun _ _ _ h => h) (Or.inl ⟨by kernel_rfl, ?_⟩) (by assumption) ?_
          · intro w' hSw
            have yY := Y0 _ hSw
            go_simp
            first | (with_reducible rfl) | done | assumption | skip
          simp only [Act.put, List.getElem_toArray, List.getElem_cons_succ, List.getElem_cons_zero, List.setIfInBounds_toArray, List.set_cons_zero, List.set_cons_succ]
          refine wpAnyH_take (i := 3) (v := ?_) rfl (by kernel_rfl) (by kernel_rfl) (by kernel_rfl) (fun _ _ _ h => h) (Or.inl ⟨by kernel_rfl, ?_⟩) (by assumption) ?_
          rotate_left
          · intro w' hSw
            go_simp
            first | (with_reducible rfl) | done | assumption | skip
          simp only [Act.put, List.getElem_toArray, List.getElem_cons_succ, List.getElem_cons_zero, List.setIfInBounds_toArray, List.set_cons_zero, List.set_cons_succ]
          refine wpAnyH_take (i := 4) (v := ?_) rfl (by kernel_rfl) (by kernel_rfl) (by kernel_rfl) (fun _ _ _ h => h) (Or.inl ⟨by kernel_rfl, ?_⟩) (by assumption) ?_
          rotate_left
          · intro w' hSw
            go_simp
            first | (with_reducible rfl) | done | assumption | skip
          simp only [Act.put, List.getElem_toArray, List.getElem_cons_succ, List.getElem_cons_zero, List.setIfInBounds_toArray, List.set_cons_zero, List.set_cons_succ]
          refine wpAnyH_take (i := 5) (v := .int .i64 q) rfl (by kernel_rfl) (by kernel_rfl) (by kernel_rfl) (fun _ _ _ h => h) (Or.inl ⟨by kernel_rfl, ?_⟩) (by assumption) ?_
          · intro w' hSw
            have yY := Y3 _ hSw
            go_simp
            first | (with_reducible rfl) | done | assumption | skip
          simp only [Act.put, List.getElem_toArray, List.getElem_cons_succ, List.getElem_cons_zero, List.setIfInBounds_toArray, List.set_cons_zero, List.set_cons_succ]
          refine wpAnyH_ready (rs := [6]) (by kernel_rfl) (by simp) ?_
          refine AllReadyH.cons rfl (fun K hK => ?_) AllReadyH.nil
          go_simp
          refine (KB _).mono ?_
          rintro e w' ⟨rfl, rfl⟩
          refine hK.out _ _ (by assumption) (fun _ => ?_)
          clear hK K
          try simp only [Act.put, List.getElem_toArray, List.getElem_cons_succ, List.getElem_cons_zero, List.setIfInBounds_toArray, List.set_cons_zero, List.set_cons_succ]
          refine wpAnyH_ready (rs := [7]) (by kernel_rfl) (by simp) ?_
          refine AllReadyH.cons rfl (fun K hK => ?_) AllReadyH.nil
          go_simp
          refine (KD _ LD).mono ?_
          rintro e w' ⟨rfl, rfl⟩
          refine hK.out _ _ (by assumption) (fun _ => ?_)
          clear hK K
          try simp only [Act.put, List.getElem_toArray, List.getElem_cons_succ, List.getElem_cons_zero, List.setIfInBounds_toArray, List.set_cons_zero, List.set_cons_succ]
          refine wpAnyH_ready (rs := [8]) (by kernel_rfl) (by simp) ?_
          refine AllReadyH.cons rfl (fun K hK => ?_) AllReadyH.nil
          go_simp
          refine hK.out _ _ (by assumption) (fun _ => ?_)
          clear hK K
          try simp only [Act.put, List.getElem_toArray, List.getElem_cons_succ, List.getElem_cons_zero, List.setIfInBounds_toArray, List.set_cons_zero, List.set_cons_succ]
          refine wpAnyH_done (by kernel_rfl) ?_ _
          simp only [ThenLast]
          refine wpOp_step rfl (fun K hK => ?_)
          go_simp
          refine hK _ _ ?_
          clear hK K
          try simp only [Exit.then]
          go_wp2
          go_roundg r.size
          case measure => simp [Tr.size]; omega
          case rel => exact ⟨br2, r, rfl, hpu.2.2, HS2, HL2.out⟩
      · have hq' : ¬ (q : Int) < 9 * (p.length : Int) := by omega
        have HE : Hid (LvAt wd w0 w c (t.sub p) wr) := by
          have e := HS.out
          simp only [Tr.sub, if_neg hq] at e
          show LvAt _ _ _ _ _ _
          rw [← e]; exact L
        clear HS L
        go_wp2_with fail
        refine (K1 _ hb).mono ?_
        rintro e w' ⟨rfl, rfl⟩
        go_wp2
        go_ret
        exact ⟨⟨c, ⟨w.heap.size + 1, rfl, q0, by omega, zB⟩, HE.out.node⟩, HE.out.below⟩
end Go.Proofs.YtfjkgglflmakhaaDoor
