/- Prove. -/
import Derived.Test.YtfjkgglflmakhaaDoorPPrvAt
namespace Go.Proofs.YtfjkgglflmakhaaDoor
open Go.RowKit
set_option linter.unusedVariables false
set_option linter.unusedSimpArgs false

set_option maxHeartbeats 1600000 in
theorem prove_none (wd : Int) (key : Key) (w : World) (hk : key.length ≤ 32) :
    Calls Tryd.prog 16 #[.agg #[.int .i64 wd, .pointer none], .string (str key)] w fun e w' => e = .returned (.tuple #[.agg #[.slice none 0 0, .bool false, .string (str []), .string (str [])], .int .i64 0]) ∧ Below w.heap.size w w' := by
  have hs := str_size key
  have hk' : ¬ ((key.length : Int) > 32) := by omega
  go_enter Tryd.func16, Tryd.ntmps16
  go_wp2
  exact bodyPost_ret (v := .tuple #[.agg #[.slice none 0 0, .bool false, .string (str []), .string (str [])], .int .i64 0]) (by simp [results, Tryd.results16, go_sem, str]) rfl ⟨rfl, ((Below.refl _ _).alloc (Nat.le_refl _) _).alloc (by simp) _⟩

set_option maxRecDepth 8000 in
set_option maxHeartbeats 6400000 in
theorem prove_some (wd : Int) (b : Nat) (t : Tr) (key : Key) (w : World) (hk : key.length ≤ 32) (hn : NodeAt wd w b t) (hp : t.placed) (hlen : (proveT wd key t).length ≤ 100000) :
    Calls Tryd.prog 16 #[.agg #[.int .i64 wd, .pointer (some ⟨b, 0, none⟩)], .string (str key)] w fun e w' => ∃ la cap, e = .returned (.tuple #[.agg #[.slice la (proveT wd key t).length cap, .bool true, .string (str (t.find key).1), .string (str (t.find key).2)], .int .i64 0]) ∧ (proveT wd key t).length ≤ cap ∧ cap ≤ maxLen ∧ TurnsAt w' la (proveT wd key t) ∧ Below w.heap.size w w' := by
  have hs := str_size key
  have hk' : ¬ ((key.length : Int) > 32) := by omega
  have hkm : key.length ≤ maxLen := by unfold maxLen; omega
  obtain ⟨i0, hi, hz0, hz1, hz2⟩ := info_parts infoTurn
  go_enter Tryd.func16, Tryd.ntmps16
  go_wp2_with fail
  have G0 := prv_start w wd b
  generalize hwA : ((w.alloc (.cells #[.int .i64 wd, .pointer (some ⟨b, 0, none⟩)] 27)).alloc (.cells #[.slice none 0 0, .bool false, .string ⟨#[]⟩, .string ⟨#[]⟩] 47)).alloc (.cells #[.slice none 0 0, .bool false, .string ⟨#[]⟩, .string ⟨#[]⟩] 47) = wA at *
  clear hwA
  simp only [Nat.add_assoc, Nat.reduceAdd]
  go_loopg [7] t.size (fun gm n wr => ∃ (c : Nat) (u : Tr) (done : List (Int × Int)) (sv : Value), gm = u.size ∧ n = .pointer (some ⟨c, 0, none⟩) ∧ NodeAt wd w c u ∧ u.placed ∧ Hid (u.find key = t.find key) ∧ Hid (done ++ proveT wd key u = proveT wd key t) ∧ PrvAt w (w.heap.size + 2) done sv wr)
  case atStart => exact ⟨b, t, [], .slice none 0 0, rfl, rfl, hn, hp, rfl, rfl, G0⟩
  case round =>
    obtain ⟨c, u, done, sv, rfl, rfl, hc, hpu, Hf, Hd, G⟩ := hrel
    clear G0 hn hp
    have hW := NodeAt.below G.below hc
    cases u with
    | leaf k v =>
      have key1 := forks_leaf wd c k v wr hW
      have k1 := (Blk.cell hW 1).trans rfl
      have k2 := (Blk.cell hW 2).trans rfl
      have q0 := (G.p.cell 0).trans rfl
      have q1 := (G.p.cell 1).trans rfl
      have q2 := (G.p.cell 2).trans rfl
      have q3 := (G.p.cell 3).trans rfl
      have f0 := G.p.frozen 0
      have f1 := G.p.frozen 1
      have f2 := G.p.frozen 2
      have f3 := G.p.frozen 3
      have zc := (Blk.lt hW)
      go_wp2_with fail
      refine key1.mono ?_
      rintro e w' ⟨rfl, rfl⟩
      have hcP : c ≠ w.heap.size + 2 := by have := Blk.lt hc; omega
      have zp := G.p.lt
      go_upto_region 11 with fail
      go_region
      have hdone : done = proveT wd key t := by have := Hd.out; simpa [proveT] using this
      have hfind : t.find key = (k, v) := Hf.out.symm
      obtain ⟨la, cap, rfl, hc1, hc2, hT⟩ := TurnsAt.of_owns G.row
      have kP := (((G.p.set 1 (.bool true)).set 2 (.string (str k))).set 3 (.string (str v))).drew
      have kR := (((G.res.setOther ⟨w.heap.size + 2, 1, none⟩ (by show w.heap.size + 1 ≠ w.heap.size + 2; omega) (.bool true)).setOther ⟨w.heap.size + 2, 2, none⟩ (by show w.heap.size + 1 ≠ w.heap.size + 2; omega) (.string (str k))).setOther ⟨w.heap.size + 2, 3, none⟩ (by show w.heap.size + 1 ≠ w.heap.size + 2; omega) (.string (str v))).drew
      have hB := (((G.below.setCell (p := ⟨w.heap.size + 2, 1, none⟩) (by show w.heap.size ≤ w.heap.size + 2; omega) (.bool true)).setCell (p := ⟨w.heap.size + 2, 2, none⟩) (by show w.heap.size ≤ w.heap.size + 2; omega) (.string (str k))).setCell (p := ⟨w.heap.size + 2, 3, none⟩) (by show w.heap.size ≤ w.heap.size + 2; omega) (.string (str v))).drew
      have hra := G.rowAt
      have hT2 : TurnsAt (((wr.setCell ⟨w.heap.size + 2, 1, none⟩ (.bool true)).setCell ⟨w.heap.size + 2, 2, none⟩ (.string (str k))).setCell ⟨w.heap.size + 2, 3, none⟩ (.string (str v))).drew la done := TurnsAt.below (((hT.set (fun hd b off e0 => by have := hra hd b off e0; omega) 1 _).set (fun hd b off e0 => by have := hra hd b off e0; omega) 2 _).set (fun hd b off e0 => by have := hra hd b off e0; omega) 3 _) ((Below.refl _ _).drew)
      clear q0 q1 q2 q3 f0 f1 f2 f3 k1 k2
      generalize (((wr.setCell ⟨w.heap.size + 2, 1, none⟩ (.bool true)).setCell ⟨w.heap.size + 2, 2, none⟩ (.string (str k))).setCell ⟨w.heap.size + 2, 3, none⟩ (.string (str v))).drew = wz at *
      have q0 := (kP.cell 0).trans rfl
      have q1 := (kP.cell 1).trans rfl
      have q2 := (kP.cell 2).trans rfl
      have q3 := (kP.cell 3).trans rfl
      have r0 := (kR.cell 0).trans rfl
      have r1 := (kR.cell 1).trans rfl
      have r2 := (kR.cell 2).trans rfl
      have r3 := (kR.cell 3).trans rfl
      have f0 := kR.frozen 0
      have f1 := kR.frozen 1
      have f2 := kR.frozen 2
      have f3 := kR.frozen 3
      have zr := kR.lt
      have HT : Hid (TurnsAt wz la done) := hT2
      have HD := show Hid (_ = _) from hdone
      have HF := show Hid (_ = _) from hfind
      have HR := show Hid (_) from hra
      clear hT2 hdone hfind hT hra
      go_wp2
      have hF : Below w.heap.size w ((((wz.setCell ⟨w.heap.size + 1, 0, none⟩ (.slice la done.length cap)).setCell ⟨w.heap.size + 1, 1, none⟩ (.bool true)).setCell ⟨w.heap.size + 1, 2, none⟩ (.string (str k))).setCell ⟨w.heap.size + 1, 3, none⟩ (.string (str v))) := (((hB.setCell (p := ⟨w.heap.size + 1, 0, none⟩) (Nat.le_succ _) _).setCell (p := ⟨w.heap.size + 1, 1, none⟩) (Nat.le_succ _) _).setCell (p := ⟨w.heap.size + 1, 2, none⟩) (Nat.le_succ _) _).setCell (p := ⟨w.heap.size + 1, 3, none⟩) (Nat.le_succ _) _
      have hT3 := ((((show TurnsAt wz la done from HT.out).set (fun hd b off e0 => by have := HR.out hd b off e0; show w.heap.size + 1 ≠ b; omega) 0 (.slice la done.length cap)).set (fun hd b off e0 => by have := HR.out hd b off e0; show w.heap.size + 1 ≠ b; omega) 1 (.bool true)).set (fun hd b off e0 => by have := HR.out hd b off e0; show w.heap.size + 1 ≠ b; omega) 2 (.string (str k))).set (fun hd b off e0 => by have := HR.out hd b off e0; show w.heap.size + 1 ≠ b; omega) 3 (.string (str v))
      exact bodyPost_ret (v := .tuple #[.agg #[.slice la done.length cap, .bool true, .string (str k), .string (str v)], .int .i64 0]) (by simp [results, Tryd.results16, go_sem, r0, r1, r2, r3, f0, f1, f2, f3, zr]) rfl ⟨la, cap, by rw [HF.out, ← HD.out], by rw [← HD.out]; exact hc1, hc2, by rw [← HD.out]; exact hT3, hF⟩
    | fork p l r =>
      have key1 := forks_fork wd c p l r wr hW
      obtain ⟨hp1, hpl, hpr⟩ := hpu
      obtain ⟨bl, br, kB, nl, nr⟩ := hc
      have kW := kB.below G.below kB.lt
      have key2 := bit_any key p wr hkm hp1
      have c3 := (kW.cell 3).trans rfl
      have b3 := (kB.cell 3).trans rfl
      have zB := kB.lt
      have hdl : done.length ≤ 100000 := by have := congrArg List.length Hd.out; simp at this; omega
      by_cases hb : bitP key p = 0
      · have HX : Hid (done ++ [((p : Int), Tr.dig wd r)] ++ proveT wd key l = proveT wd key t) := by
          show _ = _
          rw [← Hd.out]
          simp [proveT, hb, if_true]
        have HY : Hid (Tr.find key l = t.find key) := by
          show _ = _
          rw [← Hf.out]
          simp [Tr.find, hb, if_true]
        have hbv : bitP key p = 0 := by rcases bitP_01 key p with h0 | h0 <;> first | exact h0 | (exact absurd h0 hb) | (exact absurd hb (by rw [h0]; decide))
        rw [hbv] at key2
        have d0 := NodeAt.dig nr
        have zO := NodeAt.lt nr
        have KS : ∀ w', Below w.heap.size w w' → Calls Tryd.prog 38 #[.pointer (some ⟨c, 0, none⟩), .int .i64 (1 - 0)] w' fun e w'' => e = .returned (.pointer (some ⟨br, 0, none⟩)) ∧ w' = w'' := fun w' hb' => side_any c (1 - 0) bl br _ _ _ _ w' (by decide) (kB.below hb' kB.lt)
        have KT : ∀ w', Below w.heap.size w w' → Calls Tryd.prog 38 #[.pointer (some ⟨c, 0, none⟩), .int .i64 0] w' fun e w'' => e = .returned (.pointer (some ⟨bl, 0, none⟩)) ∧ w' = w'' := fun w' hb' => side_any c 0 bl br _ _ _ _ w' (by decide) (kB.below hb' kB.lt)
        clear Hd Hf hb hbv hW
        have HG := show Hid (PrvAt _ _ _ _ _) from G
        clear G
        go_wp2_with fail
        refine key1.mono ?_
        rintro e w' ⟨rfl, rfl⟩
        go_wp2_with fail
        refine key2.mono ?_
        rintro e w' ⟨rfl, rfl⟩
        go_upto_region 9 with fail
        have bD : Below wr.heap.size wr wr.drew := (Below.refl _ _).drew
        have GD := HG.out.next bD
        have hHeld : LastP (w.heap.size + 2) c br sv (p : Int) (Tr.dig wd r) wr.drew := GD.lastP b3 zB d0 zO
        refine wp_region_late (LastP (w.heap.size + 2) c br sv (p : Int) (Tr.dig wd r)) 17 (by kernel_rfl) ?_
        refine wpAnyM_take (i := 0) (v := ?_) rfl (by kernel_rfl) (by kernel_rfl) (by kernel_rfl) (by kernel_rfl) (by decide) (by kernel_rfl) (fun _ _ _ h => h) (Or.inl ⟨by kernel_rfl, ?_⟩) (by assumption) ?_
        rotate_left
        · intro w' hSw
          obtain ⟨y1, y2, y3⟩ := hSw
          go_simp
          try (with_reducible rfl)
        simp only [Act.put, List.getElem_toArray, List.getElem_cons_succ, List.getElem_cons_zero, List.setIfInBounds_toArray, List.set_cons_zero, List.set_cons_succ]
        refine wpAnyM_take (i := 1) (v := ?_) rfl (by kernel_rfl) (by kernel_rfl) (by kernel_rfl) (by kernel_rfl) (by decide) (by kernel_rfl) (fun _ _ _ h => h) (Or.inl ⟨by kernel_rfl, ?_⟩) (by assumption) ?_
        rotate_left
        · intro w' hSw
          obtain ⟨y1, y2, y3⟩ := hSw
          go_simp
          try (with_reducible rfl)
        simp only [Act.put, List.getElem_toArray, List.getElem_cons_succ, List.getElem_cons_zero, List.setIfInBounds_toArray, List.set_cons_zero, List.set_cons_succ]
        refine wpAnyM_take (i := 2) (v := ?_) rfl (by kernel_rfl) (by kernel_rfl) (by kernel_rfl) (by kernel_rfl) (by decide) (by kernel_rfl) (fun _ _ _ h => h) (Or.inl ⟨by kernel_rfl, ?_⟩) (by assumption) ?_
        rotate_left
        · intro w' hSw
          obtain ⟨y1, y2, y3⟩ := hSw
          go_simp
          try (with_reducible rfl)
        simp only [Act.put, List.getElem_toArray, List.getElem_cons_succ, List.getElem_cons_zero, List.setIfInBounds_toArray, List.set_cons_zero, List.set_cons_succ]
        refine wpAnyM_take (i := 3) (v := ?_) rfl (by kernel_rfl) (by kernel_rfl) (by kernel_rfl) (by kernel_rfl) (by decide) (by kernel_rfl) (fun _ _ _ h => h) (Or.inl ⟨by kernel_rfl, ?_⟩) (by assumption) ?_
        rotate_left
        · intro w' hSw
          obtain ⟨y1, y2, y3⟩ := hSw
          go_simp
          try (with_reducible rfl)
        simp only [Act.put, List.getElem_toArray, List.getElem_cons_succ, List.getElem_cons_zero, List.setIfInBounds_toArray, List.set_cons_zero, List.set_cons_succ]
        refine wpAnyM_take (i := 4) (v := ?_) rfl (by kernel_rfl) (by kernel_rfl) (by kernel_rfl) (by kernel_rfl) (by decide) (by kernel_rfl) (fun _ _ _ h => h) (Or.inl ⟨by kernel_rfl, ?_⟩) (by assumption) ?_
        rotate_left
        · intro w' hSw
          obtain ⟨y1, y2, y3⟩ := hSw
          go_simp
          try (with_reducible rfl)
        simp only [Act.put, List.getElem_toArray, List.getElem_cons_succ, List.getElem_cons_zero, List.setIfInBounds_toArray, List.set_cons_zero, List.set_cons_succ]
        refine wpAnyM_take (i := 5) (v := ?_) rfl (by kernel_rfl) (by kernel_rfl) (by kernel_rfl) (by kernel_rfl) (by decide) (by kernel_rfl) (fun _ _ _ h => h) (Or.inl ⟨by kernel_rfl, ?_⟩) (by assumption) ?_
        rotate_left
        · intro w' hSw
          obtain ⟨y1, y2, y3⟩ := hSw
          go_simp
          try (with_reducible rfl)
        simp only [Act.put, List.getElem_toArray, List.getElem_cons_succ, List.getElem_cons_zero, List.setIfInBounds_toArray, List.set_cons_zero, List.set_cons_succ]
        refine wpAnyM_take (i := 6) (v := ?_) rfl (by kernel_rfl) (by kernel_rfl) (by kernel_rfl) (by kernel_rfl) (by decide) (by kernel_rfl) (fun _ _ _ h => h) (Or.inl ⟨by kernel_rfl, ?_⟩) (by assumption) ?_
        rotate_left
        · intro w' hSw
          obtain ⟨y1, y2, y3⟩ := hSw
          go_simp
          try (with_reducible rfl)
        simp only [Act.put, List.getElem_toArray, List.getElem_cons_succ, List.getElem_cons_zero, List.setIfInBounds_toArray, List.set_cons_zero, List.set_cons_succ]
        refine wpAnyM_take (i := 7) (v := ?_) rfl (by kernel_rfl) (by kernel_rfl) (by kernel_rfl) (by kernel_rfl) (by decide) (by kernel_rfl) (fun _ _ _ h => h) (Or.inl ⟨by kernel_rfl, ?_⟩) (by assumption) ?_
        rotate_left
        · intro w' hSw
          obtain ⟨y1, y2, y3⟩ := hSw
          go_simp
          try (with_reducible rfl)
        simp only [Act.put, List.getElem_toArray, List.getElem_cons_succ, List.getElem_cons_zero, List.setIfInBounds_toArray, List.set_cons_zero, List.set_cons_succ]
        refine wpAnyM_take (i := 8) (v := ?_) rfl (by kernel_rfl) (by kernel_rfl) (by kernel_rfl) (by kernel_rfl) (by decide) (by kernel_rfl) (fun _ _ _ h => h) (Or.inl ⟨by kernel_rfl, ?_⟩) (by assumption) ?_
        rotate_left
        · intro w' hSw
          obtain ⟨y1, y2, y3⟩ := hSw
          go_simp
          try (with_reducible rfl)
        simp only [Act.put, List.getElem_toArray, List.getElem_cons_succ, List.getElem_cons_zero, List.setIfInBounds_toArray, List.set_cons_zero, List.set_cons_succ]
        refine wpAnyM_one (i := 9) (by kernel_rfl) ?_
        refine wpOp_step rfl (fun K hK => ?_)
        go_simp
        refine (KS _ GD.below).mono ?_
        rintro e w' ⟨rfl, rfl⟩
        refine hK _ _ ⟨fun _ => hHeld, ?_⟩
        clear hK K
        try simp only [Act.put, List.getElem_toArray, List.getElem_cons_succ, List.getElem_cons_zero, List.setIfInBounds_toArray, List.set_cons_zero, List.set_cons_succ]
        refine wpAnyM_take (i := 10) (v := ?_) rfl (by kernel_rfl) (by kernel_rfl) (by kernel_rfl) (by kernel_rfl) (by decide) (by kernel_rfl) (fun _ _ _ h => h) (Or.inl ⟨by kernel_rfl, ?_⟩) (by assumption) ?_
        rotate_left
        · intro w' hSw
          obtain ⟨y1, y2, y3⟩ := hSw
          go_simp
          try (with_reducible rfl)
        simp only [Act.put, List.getElem_toArray, List.getElem_cons_succ, List.getElem_cons_zero, List.setIfInBounds_toArray, List.set_cons_zero, List.set_cons_succ]
        refine wpAnyM_take (i := 11) (v := ?_) rfl (by kernel_rfl) (by kernel_rfl) (by kernel_rfl) (by kernel_rfl) (by decide) (by kernel_rfl) (fun _ _ _ h => h) (Or.inl ⟨by kernel_rfl, ?_⟩) (by assumption) ?_
        rotate_left
        · intro w' hSw
          obtain ⟨y1, y2, y3⟩ := hSw
          go_simp
          try (with_reducible rfl)
        simp only [Act.put, List.getElem_toArray, List.getElem_cons_succ, List.getElem_cons_zero, List.setIfInBounds_toArray, List.set_cons_zero, List.set_cons_succ]
        refine wpAnyM_take (i := 12) (v := ?_) rfl (by kernel_rfl) (by kernel_rfl) (by kernel_rfl) (by kernel_rfl) (by decide) (by kernel_rfl) (fun _ _ _ h => h) (Or.inl ⟨by kernel_rfl, ?_⟩) (by assumption) ?_
        rotate_left
        · intro w' hSw
          obtain ⟨y1, y2, y3⟩ := hSw
          go_simp
          try (with_reducible rfl)
        simp only [Act.put, List.getElem_toArray, List.getElem_cons_succ, List.getElem_cons_zero, List.setIfInBounds_toArray, List.set_cons_zero, List.set_cons_succ]
        refine wpAnyM_take (i := 13) (v := ?_) rfl (by kernel_rfl) (by kernel_rfl) (by kernel_rfl) (by kernel_rfl) (by decide) (by kernel_rfl) (fun _ _ _ h => h) (Or.inl ⟨by kernel_rfl, ?_⟩) (by assumption) ?_
        rotate_left
        · intro w' hSw
          obtain ⟨y1, y2, y3⟩ := hSw
          go_simp
          try (with_reducible rfl)
        simp only [Act.put, List.getElem_toArray, List.getElem_cons_succ, List.getElem_cons_zero, List.setIfInBounds_toArray, List.set_cons_zero, List.set_cons_succ]
        refine wpAnyM_one (i := 14) (by kernel_rfl) ?_
        refine wpOp_step rfl (fun K hK => ?_)
        go_simp
        have bA : Below wr.drew.heap.size wr.drew (wr.drew.alloc (.cells #[.int .i64 (p : Int), .int .u64 (Tr.dig wd r)] 83)) := (Below.refl _ _).alloc (Nat.le_refl _) _
        refine hK _ _ ⟨fun _ => (GD.next bA).lastP b3 zB d0 zO, ?_⟩
        clear hK K
        try simp only [Act.put, List.getElem_toArray, List.getElem_cons_succ, List.getElem_cons_zero, List.setIfInBounds_toArray, List.set_cons_zero, List.set_cons_succ]
        refine wpAnyM_one (i := 15) (by kernel_rfl) ?_
        refine wpOp_step rfl (fun K hK => ?_)
        refine step_append_lies _ rfl _ _ 45 rfl (w.heap.size + 2 + 1) 83 i0 (.agg #[.int .i64 0, .int .u64 0]) 2 16 Tryd.underlying45 hi hz0 hz1 hz2 rfl (by decide) sv done.length (flatT done) rfl (GD.row.alloc _) ⟨wr.heap.size, 0, none⟩ 1 1 [.int .i64 (p : Int), .int .u64 (Tr.dig wd r)] rfl rfl (cells_pr wr.drew _ _ _ _ rfl) (by simp [Value.oneCell']) (by omega) (by unfold maxLen; omega) (by omega) (Nat.le_trans (Nat.succ_le_of_lt GD.p.lt) bA.size) (wr.heap.size + 1) (World.size_alloc _ _) ?_
        intro g7 c7 w7 hown7 hgrow7 hat7 hlt7
        obtain ⟨hS7, p7, G7⟩ := GD.grow b3 zB d0 zO hown7 hgrow7
        refine hK _ _ ⟨fun _ => hS7, ?_⟩
        clear hK K
        try simp only [Act.put, List.getElem_toArray, List.getElem_cons_succ, List.getElem_cons_zero, List.setIfInBounds_toArray, List.set_cons_zero, List.set_cons_succ]
        have hHeld := hS7
        refine wpAnyM_take (i := 16) (v := ?_) rfl (by kernel_rfl) (by kernel_rfl) (by kernel_rfl) (by kernel_rfl) (by decide) (by kernel_rfl) (fun _ _ _ h => h) (Or.inl ⟨by kernel_rfl, ?_⟩) (by assumption) ?_
        rotate_left
        · intro w' hSw
          obtain ⟨y1, y2, y3⟩ := hSw
          go_simp
          try (with_reducible rfl)
        simp only [Act.put, List.getElem_toArray, List.getElem_cons_succ, List.getElem_cons_zero, List.setIfInBounds_toArray, List.set_cons_zero, List.set_cons_succ]
        refine wpAnyM_one (i := 17) (by kernel_rfl) ?_
        refine wpOp_step rfl (fun K hK => ?_)
        have r0 := (p7.cell 0).trans rfl
        have r0f := p7.frozen 0
        have rz := p7.lt
        go_simp
        refine hK _ _ ⟨fun h => absurd h (by decide), ?_⟩
        clear hK K
        refine wpAnyM_done (by kernel_rfl) ?_ _
        try simp only [Exit.then]
        clear hown7 hgrow7 hat7 hlt7 hS7 p7 r0 r0f rz hHeld GD bA bD HG
        generalize w7.setCell ⟨w.heap.size + 2, 0, none⟩ (.slice (some ⟨g7, 0, none⟩) (done.length + 1) c7) = wy at *
        have KT1 := KT wy G7.below
        have HG7 := show Hid (PrvAt _ _ _ _ _) from G7
        clear G7 KS KT
        go_wp2_with fail
        refine KT1.mono ?_
        rintro e w' ⟨rfl, rfl⟩
        go_wp2
        go_roundg (Tr.size l)
        case measure => simp [Tr.size]; omega
        case rel => exact ⟨bl, l, _, _, rfl, rfl, nl, hpl, HY, HX, HG7.out⟩
      · have HX : Hid (done ++ [((p : Int), Tr.dig wd l)] ++ proveT wd key r = proveT wd key t) := by
          show _ = _
          rw [← Hd.out]
          simp [proveT, hb, if_false]
        have HY : Hid (Tr.find key r = t.find key) := by
          show _ = _
          rw [← Hf.out]
          simp [Tr.find, hb, if_false]
        have hbv : bitP key p = 1 := by rcases bitP_01 key p with h0 | h0 <;> first | exact h0 | (exact absurd h0 hb) | (exact absurd hb (by rw [h0]; decide))
        rw [hbv] at key2
        have d0 := NodeAt.dig nl
        have zO := NodeAt.lt nl
        have KS : ∀ w', Below w.heap.size w w' → Calls Tryd.prog 38 #[.pointer (some ⟨c, 0, none⟩), .int .i64 (1 - 1)] w' fun e w'' => e = .returned (.pointer (some ⟨bl, 0, none⟩)) ∧ w' = w'' := fun w' hb' => side_any c (1 - 1) bl br _ _ _ _ w' (by decide) (kB.below hb' kB.lt)
        have KT : ∀ w', Below w.heap.size w w' → Calls Tryd.prog 38 #[.pointer (some ⟨c, 0, none⟩), .int .i64 1] w' fun e w'' => e = .returned (.pointer (some ⟨br, 0, none⟩)) ∧ w' = w'' := fun w' hb' => side_any c 1 bl br _ _ _ _ w' (by decide) (kB.below hb' kB.lt)
        clear Hd Hf hb hbv hW
        have HG := show Hid (PrvAt _ _ _ _ _) from G
        clear G
        go_wp2_with fail
        refine key1.mono ?_
        rintro e w' ⟨rfl, rfl⟩
        go_wp2_with fail
        refine key2.mono ?_
        rintro e w' ⟨rfl, rfl⟩
        go_upto_region 9 with fail
        have bD : Below wr.heap.size wr wr.drew := (Below.refl _ _).drew
        have GD := HG.out.next bD
        have hHeld : LastP (w.heap.size + 2) c bl sv (p : Int) (Tr.dig wd l) wr.drew := GD.lastP b3 zB d0 zO
        refine wp_region_late (LastP (w.heap.size + 2) c bl sv (p : Int) (Tr.dig wd l)) 17 (by kernel_rfl) ?_
        refine wpAnyM_take (i := 0) (v := ?_) rfl (by kernel_rfl) (by kernel_rfl) (by kernel_rfl) (by kernel_rfl) (by decide) (by kernel_rfl) (fun _ _ _ h => h) (Or.inl ⟨by kernel_rfl, ?_⟩) (by assumption) ?_
        rotate_left
        · intro w' hSw
          obtain ⟨y1, y2, y3⟩ := hSw
          go_simp
          try (with_reducible rfl)
        simp only [Act.put, List.getElem_toArray, List.getElem_cons_succ, List.getElem_cons_zero, List.setIfInBounds_toArray, List.set_cons_zero, List.set_cons_succ]
        refine wpAnyM_take (i := 1) (v := ?_) rfl (by kernel_rfl) (by kernel_rfl) (by kernel_rfl) (by kernel_rfl) (by decide) (by kernel_rfl) (fun _ _ _ h => h) (Or.inl ⟨by kernel_rfl, ?_⟩) (by assumption) ?_
        rotate_left
        · intro w' hSw
          obtain ⟨y1, y2, y3⟩ := hSw
          go_simp
          try (with_reducible rfl)
        simp only [Act.put, List.getElem_toArray, List.getElem_cons_succ, List.getElem_cons_zero, List.setIfInBounds_toArray, List.set_cons_zero, List.set_cons_succ]
        refine wpAnyM_take (i := 2) (v := ?_) rfl (by kernel_rfl) (by kernel_rfl) (by kernel_rfl) (by kernel_rfl) (by decide) (by kernel_rfl) (fun _ _ _ h => h) (Or.inl ⟨by kernel_rfl, ?_⟩) (by assumption) ?_
        rotate_left
        · intro w' hSw
          obtain ⟨y1, y2, y3⟩ := hSw
          go_simp
          try (with_reducible rfl)
        simp only [Act.put, List.getElem_toArray, List.getElem_cons_succ, List.getElem_cons_zero, List.setIfInBounds_toArray, List.set_cons_zero, List.set_cons_succ]
        refine wpAnyM_take (i := 3) (v := ?_) rfl (by kernel_rfl) (by kernel_rfl) (by kernel_rfl) (by kernel_rfl) (by decide) (by kernel_rfl) (fun _ _ _ h => h) (Or.inl ⟨by kernel_rfl, ?_⟩) (by assumption) ?_
        rotate_left
        · intro w' hSw
          obtain ⟨y1, y2, y3⟩ := hSw
          go_simp
          try (with_reducible rfl)
        simp only [Act.put, List.getElem_toArray, List.getElem_cons_succ, List.getElem_cons_zero, List.setIfInBounds_toArray, List.set_cons_zero, List.set_cons_succ]
        refine wpAnyM_take (i := 4) (v := ?_) rfl (by kernel_rfl) (by kernel_rfl) (by kernel_rfl) (by kernel_rfl) (by decide) (by kernel_rfl) (fun _ _ _ h => h) (Or.inl ⟨by kernel_rfl, ?_⟩) (by assumption) ?_
        rotate_left
        · intro w' hSw
          obtain ⟨y1, y2, y3⟩ := hSw
          go_simp
          try (with_reducible rfl)
        simp only [Act.put, List.getElem_toArray, List.getElem_cons_succ, List.getElem_cons_zero, List.setIfInBounds_toArray, List.set_cons_zero, List.set_cons_succ]
        refine wpAnyM_take (i := 5) (v := ?_) rfl (by kernel_rfl) (by kernel_rfl) (by kernel_rfl) (by kernel_rfl) (by decide) (by kernel_rfl) (fun _ _ _ h => h) (Or.inl ⟨by kernel_rfl, ?_⟩) (by assumption) ?_
        rotate_left
        · intro w' hSw
          obtain ⟨y1, y2, y3⟩ := hSw
          go_simp
          try (with_reducible rfl)
        simp only [Act.put, List.getElem_toArray, List.getElem_cons_succ, List.getElem_cons_zero, List.setIfInBounds_toArray, List.set_cons_zero, List.set_cons_succ]
        refine wpAnyM_take (i := 6) (v := ?_) rfl (by kernel_rfl) (by kernel_rfl) (by kernel_rfl) (by kernel_rfl) (by decide) (by kernel_rfl) (fun _ _ _ h => h) (Or.inl ⟨by kernel_rfl, ?_⟩) (by assumption) ?_
        rotate_left
        · intro w' hSw
          obtain ⟨y1, y2, y3⟩ := hSw
          go_simp
          try (with_reducible rfl)
        simp only [Act.put, List.getElem_toArray, List.getElem_cons_succ, List.getElem_cons_zero, List.setIfInBounds_toArray, List.set_cons_zero, List.set_cons_succ]
        refine wpAnyM_take (i := 7) (v := ?_) rfl (by kernel_rfl) (by kernel_rfl) (by kernel_rfl) (by kernel_rfl) (by decide) (by kernel_rfl) (fun _ _ _ h => h) (Or.inl ⟨by kernel_rfl, ?_⟩) (by assumption) ?_
        rotate_left
        · intro w' hSw
          obtain ⟨y1, y2, y3⟩ := hSw
          go_simp
          try (with_reducible rfl)
        simp only [Act.put, List.getElem_toArray, List.getElem_cons_succ, List.getElem_cons_zero, List.setIfInBounds_toArray, List.set_cons_zero, List.set_cons_succ]
        refine wpAnyM_take (i := 8) (v := ?_) rfl (by kernel_rfl) (by kernel_rfl) (by kernel_rfl) (by kernel_rfl) (by decide) (by kernel_rfl) (fun _ _ _ h => h) (Or.inl ⟨by kernel_rfl, ?_⟩) (by assumption) ?_
        rotate_left
        · intro w' hSw
          obtain ⟨y1, y2, y3⟩ := hSw
          go_simp
          try (with_reducible rfl)
        simp only [Act.put, List.getElem_toArray, List.getElem_cons_succ, List.getElem_cons_zero, List.setIfInBounds_toArray, List.set_cons_zero, List.set_cons_succ]
        refine wpAnyM_one (i := 9) (by kernel_rfl) ?_
        refine wpOp_step rfl (fun K hK => ?_)
        go_simp
        refine (KS _ GD.below).mono ?_
        rintro e w' ⟨rfl, rfl⟩
        refine hK _ _ ⟨fun _ => hHeld, ?_⟩
        clear hK K
        try simp only [Act.put, List.getElem_toArray, List.getElem_cons_succ, List.getElem_cons_zero, List.setIfInBounds_toArray, List.set_cons_zero, List.set_cons_succ]
        refine wpAnyM_take (i := 10) (v := ?_) rfl (by kernel_rfl) (by kernel_rfl) (by kernel_rfl) (by kernel_rfl) (by decide) (by kernel_rfl) (fun _ _ _ h => h) (Or.inl ⟨by kernel_rfl, ?_⟩) (by assumption) ?_
        rotate_left
        · intro w' hSw
          obtain ⟨y1, y2, y3⟩ := hSw
          go_simp
          try (with_reducible rfl)
        simp only [Act.put, List.getElem_toArray, List.getElem_cons_succ, List.getElem_cons_zero, List.setIfInBounds_toArray, List.set_cons_zero, List.set_cons_succ]
        refine wpAnyM_take (i := 11) (v := ?_) rfl (by kernel_rfl) (by kernel_rfl) (by kernel_rfl) (by kernel_rfl) (by decide) (by kernel_rfl) (fun _ _ _ h => h) (Or.inl ⟨by kernel_rfl, ?_⟩) (by assumption) ?_
        rotate_left
        · intro w' hSw
          obtain ⟨y1, y2, y3⟩ := hSw
          go_simp
          try (with_reducible rfl)
        simp only [Act.put, List.getElem_toArray, List.getElem_cons_succ, List.getElem_cons_zero, List.setIfInBounds_toArray, List.set_cons_zero, List.set_cons_succ]
        refine wpAnyM_take (i := 12) (v := ?_) rfl (by kernel_rfl) (by kernel_rfl) (by kernel_rfl) (by kernel_rfl) (by decide) (by kernel_rfl) (fun _ _ _ h => h) (Or.inl ⟨by kernel_rfl, ?_⟩) (by assumption) ?_
        rotate_left
        · intro w' hSw
          obtain ⟨y1, y2, y3⟩ := hSw
          go_simp
          try (with_reducible rfl)
        simp only [Act.put, List.getElem_toArray, List.getElem_cons_succ, List.getElem_cons_zero, List.setIfInBounds_toArray, List.set_cons_zero, List.set_cons_succ]
        refine wpAnyM_take (i := 13) (v := ?_) rfl (by kernel_rfl) (by kernel_rfl) (by kernel_rfl) (by kernel_rfl) (by decide) (by kernel_rfl) (fun _ _ _ h => h) (Or.inl ⟨by kernel_rfl, ?_⟩) (by assumption) ?_
        rotate_left
        · intro w' hSw
          obtain ⟨y1, y2, y3⟩ := hSw
          go_simp
          try (with_reducible rfl)
        simp only [Act.put, List.getElem_toArray, List.getElem_cons_succ, List.getElem_cons_zero, List.setIfInBounds_toArray, List.set_cons_zero, List.set_cons_succ]
        refine wpAnyM_one (i := 14) (by kernel_rfl) ?_
        refine wpOp_step rfl (fun K hK => ?_)
        go_simp
        have bA : Below wr.drew.heap.size wr.drew (wr.drew.alloc (.cells #[.int .i64 (p : Int), .int .u64 (Tr.dig wd l)] 83)) := (Below.refl _ _).alloc (Nat.le_refl _) _
        refine hK _ _ ⟨fun _ => (GD.next bA).lastP b3 zB d0 zO, ?_⟩
        clear hK K
        try simp only [Act.put, List.getElem_toArray, List.getElem_cons_succ, List.getElem_cons_zero, List.setIfInBounds_toArray, List.set_cons_zero, List.set_cons_succ]
        refine wpAnyM_one (i := 15) (by kernel_rfl) ?_
        refine wpOp_step rfl (fun K hK => ?_)
        refine step_append_lies _ rfl _ _ 45 rfl (w.heap.size + 2 + 1) 83 i0 (.agg #[.int .i64 0, .int .u64 0]) 2 16 Tryd.underlying45 hi hz0 hz1 hz2 rfl (by decide) sv done.length (flatT done) rfl (GD.row.alloc _) ⟨wr.heap.size, 0, none⟩ 1 1 [.int .i64 (p : Int), .int .u64 (Tr.dig wd l)] rfl rfl (cells_pr wr.drew _ _ _ _ rfl) (by simp [Value.oneCell']) (by omega) (by unfold maxLen; omega) (by omega) (Nat.le_trans (Nat.succ_le_of_lt GD.p.lt) bA.size) (wr.heap.size + 1) (World.size_alloc _ _) ?_
        intro g7 c7 w7 hown7 hgrow7 hat7 hlt7
        obtain ⟨hS7, p7, G7⟩ := GD.grow b3 zB d0 zO hown7 hgrow7
        refine hK _ _ ⟨fun _ => hS7, ?_⟩
        clear hK K
        try simp only [Act.put, List.getElem_toArray, List.getElem_cons_succ, List.getElem_cons_zero, List.setIfInBounds_toArray, List.set_cons_zero, List.set_cons_succ]
        have hHeld := hS7
        refine wpAnyM_take (i := 16) (v := ?_) rfl (by kernel_rfl) (by kernel_rfl) (by kernel_rfl) (by kernel_rfl) (by decide) (by kernel_rfl) (fun _ _ _ h => h) (Or.inl ⟨by kernel_rfl, ?_⟩) (by assumption) ?_
        rotate_left
        · intro w' hSw
          obtain ⟨y1, y2, y3⟩ := hSw
          go_simp
          try (with_reducible rfl)
        simp only [Act.put, List.getElem_toArray, List.getElem_cons_succ, List.getElem_cons_zero, List.setIfInBounds_toArray, List.set_cons_zero, List.set_cons_succ]
        refine wpAnyM_one (i := 17) (by kernel_rfl) ?_
        refine wpOp_step rfl (fun K hK => ?_)
        have r0 := (p7.cell 0).trans rfl
        have r0f := p7.frozen 0
        have rz := p7.lt
        go_simp
        refine hK _ _ ⟨fun h => absurd h (by decide), ?_⟩
        clear hK K
        refine wpAnyM_done (by kernel_rfl) ?_ _
        try simp only [Exit.then]
        clear hown7 hgrow7 hat7 hlt7 hS7 p7 r0 r0f rz hHeld GD bA bD HG
        generalize w7.setCell ⟨w.heap.size + 2, 0, none⟩ (.slice (some ⟨g7, 0, none⟩) (done.length + 1) c7) = wy at *
        have KT1 := KT wy G7.below
        have HG7 := show Hid (PrvAt _ _ _ _ _) from G7
        clear G7 KS KT
        go_wp2_with fail
        refine KT1.mono ?_
        rintro e w' ⟨rfl, rfl⟩
        go_wp2
        go_roundg (Tr.size r)
        case measure => simp [Tr.size]; omega
        case rel => exact ⟨br, r, _, _, rfl, rfl, nr, hpr, HY, HX, HG7.out⟩
end Go.Proofs.YtfjkgglflmakhaaDoor
