/- The answer's At. -/
import Derived.Test.YtmhllihedejehaaGreatM41
import Derived.Test.YtmhllihedejehaaGreatZTop
import Derived.Deep.RegionHeld3
namespace Go.Proofs.YtmhllihedejehaaGreat
open Go.RowKit
set_option linter.unusedVariables false
set_option linter.unusedSimpArgs false

theorem isWay_snoc (l : Key) (c : UInt8) : isWay (l ++ [c]) = (isWay l && (c == 48 || c == 49)) := by
  unfold isWay
  rw [List.all_append]; simp
theorem isWay_bad (way : Key) (i : Nat) (hi : i < way.length) (h : (way[i] == 48 || way[i] == 49) = false) : isWay way = false := by
  unfold isWay
  rw [Bool.eq_false_iff]
  intro e
  rw [List.all_eq_true] at e
  have := e _ (List.getElem_mem hi)
  rw [h] at this; cases this

set_option maxRecDepth 4000 in
set_option maxHeartbeats 6400000 in
theorem rat_any (wd : Int) (o : Option Tr) (la0 : Option Addr) (c0 : Nat) (way : Key) (w : World) (hw : okW wd) (hwl : way.length ≤ maxLen) (ht : FineO o) (hc0 : (itemsO o).length ≤ c0) (hi0 : ItemsAt w la0 (itemsO o)) :
    Calls Tryz.prog 12 #[.agg #[.int .i64 wd, .slice la0 (itemsO o).length c0], .string (str way)] w fun e w' => AtE w (atP wd way o) e w' := by
  have sz := str_size way
  unfold maxLen at hwl
  have BW : Below w.heap.size w ((w.alloc (.cells #[.int .i64 wd, .slice la0 (itemsO o).length c0] 36)).alloc (.cells #[.int .i64 0, .string ⟨#[]⟩, .string ⟨#[]⟩, .int .i64 0, .int .u64 0, .int .u64 0] 28)) := ((Below.refl _ _).alloc (Nat.le_refl _) _).alloc (by simp) _
  have kT := (Blk.new w #[.int .i64 wd, .slice la0 (itemsO o).length c0] 36).alloc (.cells #[.int .i64 0, .string ⟨#[]⟩, .string ⟨#[]⟩, .int .i64 0, .int .u64 0, .int .u64 0] 28)
  have kR := Blk.new (w.alloc (.cells #[.int .i64 wd, .slice la0 (itemsO o).length c0] 36)) #[.int .i64 0, .string ⟨#[]⟩, .string ⟨#[]⟩, .int .i64 0, .int .u64 0, .int .u64 0] 28
  rw [World.size_alloc] at kR
  have HT := show Hid (FineO o ∧ (itemsO o).length ≤ c0 ∧ ItemsAt w la0 (itemsO o)) from ⟨ht, hc0, hi0⟩
  have HW := show Hid (okW wd) from hw
  clear ht hc0 hi0 hw
  obtain ⟨nt, HNT⟩ : ∃ nt, Hid ((itemsO o).length = nt) := ⟨_, rfl⟩
  rw [HNT.out] at BW kT kR ⊢
  go_enter Tryz.func12, Tryz.ntmps12
  go_wp2_with fail
  generalize (w.alloc (.cells #[.int .i64 wd, .slice la0 nt c0] 36)).alloc (.cells #[.int .i64 0, .string ⟨#[]⟩, .string ⟨#[]⟩, .int .i64 0, .int .u64 0, .int .u64 0] 28) = w1 at *
  have t1 := (kT.cell 1).trans rfl
  have zt := kT.lt
  have x0 := (kR.cell 0).trans rfl
  have x1 := (kR.cell 1).trans rfl
  have x2 := (kR.cell 2).trans rfl
  have x3 := (kR.cell 3).trans rfl
  have x4 := (kR.cell 4).trans rfl
  have x5 := (kR.cell 5).trans rfl
  have f0 := kR.frozen 0
  have f1 := kR.frozen 1
  have f2 := kR.frozen 2
  have f3 := kR.frozen 3
  have f4 := kR.frozen 4
  have f5 := kR.frozen 5
  have zr := kR.lt
  have B3 := node_stored (R := w.heap.size + 1) (Nat.le_succ _) BW
  go_loopw [6] (fun iv wv => ∃ (i : Nat), i ≤ way.length ∧ iv = .int .i64 i ∧ Hid (isWay (way.take i) = true) ∧ w1 = wv) (fun iv _ => way.length - (intOf iv).toNat)
  case atStart => exact ⟨0, Nat.zero_le _, rfl, rfl, rfl⟩
  case round =>
    obtain ⟨i, hi, rfl, HI, rfl⟩ := hrel
    by_cases hil : i < way.length
    · have hil' : (i : Int) < (way.length : Int) := by omega
      obtain ⟨c, hcw⟩ : ∃ c, way[i] = c := ⟨_, rfl⟩
      have hst : way.take (i + 1) = way.take i ++ [c] := by rw [← hcw]; exact List.take_succ_eq_append_getElem hil
      have hidx : ∀ hh : i < (str way).size, ((str way)[i]'hh).toNat = c.toNat := fun hh => congrArg UInt8.toNat ((str_get way i hil hh).trans hcw)
      have HB : Hid ((c == 48 || c == 49) = false → isWay way = false) := fun q => isWay_bad way i hil (by rw [hcw]; exact q)
      clear hcw
      by_cases hc : c = 48
      · have hcn : c.toNat = 48 := by rw [hc]; rfl
        rw [hcn] at hidx
        have HN : Hid (isWay (way.take (i + 1)) = true) := by show _ = _; rw [hst, isWay_snoc, HI.out, hc]; rfl
        clear HB hst hc hcn
        go_wp2
        exact ⟨⟨i + 1, by omega, by go_num, HN, trivial⟩, by simp [intOf]; omega⟩
      · by_cases hc2 : c = 49
        · have hcn : c.toNat = 49 := by rw [hc2]; rfl
          rw [hcn] at hidx
          have HN : Hid (isWay (way.take (i + 1)) = true) := by show _ = _; rw [hst, isWay_snoc, HI.out, hc2]; rfl
          clear HB hst hc hc2 hcn
          go_wp2
          exact ⟨⟨i + 1, by omega, by go_num, HN, trivial⟩, by simp [intOf]; omega⟩
        · have h1 : ((c.toNat : Int) != 48) = true := by
            rw [bne_iff_ne]; intro e; exact hc (UInt8.toNat_inj.1 (by show c.toNat = 48; omega))
          have h2 : ((c.toNat : Int) != 49) = true := by
            rw [bne_iff_ne]; intro e; exact hc2 (UInt8.toNat_inj.1 (by show c.toNat = 49; omega))
          have hbad := HB.out (by simp [hc, hc2])
          have HE : Hid (atP wd way o = (nodeV wd none, 2)) := by show _ = _; unfold atP; rw [hbad]; rfl
          clear HB hst hc hc2 hbad
          generalize c.toNat = cn at *
          go_wp2
          exact bodyPost_ret (v := .tuple #[.agg #[.int .i64 0, .string ⟨#[]⟩, .string ⟨#[]⟩, .int .i64 0, .int .u64 0, .int .u64 0], .int .i64 2]) (by simp [results, Tryz.results12, go_sem, x0, x1, x2, x3, x4, x5, f0, f1, f2, f3, f4, f5, zr]) rfl ⟨by rw [HE.out]; rfl, B3 _ _ _ _ _ _⟩
    · have hge : ¬ (i : Int) < (way.length : Int) := by omega
      have hway : isWay way = true := by have := HI.out; rw [List.take_of_length_le (by omega)] at this; exact this
      have HA : Hid (atP wd way o = match goP way o with | none => (nodeV wd none, 30) | some s => (nodeV wd s, 0)) := by show _ = _; unfold atP; rw [if_pos hway]; rfl
      have HWY := show Hid (_) from hway
      clear HI hway
      generalize w1 = wq at *
      go_wp2_with fail
      go_loopw [7, 8] (fun lv iv wv => ∃ (j : Nat) (s : Option Tr) (la : Option Addr) (c : Nat), j ≤ way.length ∧ iv = .int .i64 j ∧ lv = .slice la (itemsO s).length c ∧ Hid (FineO s ∧ (itemsO s).length ≤ c ∧ ItemsAt w la (itemsO s)) ∧ Hid (goP way o = goP (way.drop j) s) ∧ wq = wv) (fun _ iv _ => way.length - (intOf iv).toNat)
      case atStart => exact ⟨0, o, la0, c0, Nat.zero_le _, rfl, by rw [HNT.out], HT, rfl, rfl⟩
      case round =>
        obtain ⟨j, s, la, c, hj, rfl, rfl, HS, HG, rfl⟩ := hrel
        by_cases hjl : j < way.length
        · have hjl' : (j : Int) < (way.length : Int) := by omega
          obtain ⟨cb, hcw⟩ : ∃ c, way[j] = c := ⟨_, rfl⟩
          have hd : way.drop j = cb :: way.drop (j + 1) := by rw [← hcw]; exact List.drop_eq_getElem_cons hjl
          have hcc := way_at way HWY.out j hjl
          rw [hcw] at hcc
          have hidx : ∀ hh : j < (str way).size, ((str way)[j]'hh).toNat = cb.toNat := fun hh => congrArg UInt8.toNat ((str_get way j hjl hh).trans hcw)
          clear hcw
          cases s with
          | none =>
            have e0 : (itemsO none).length = 0 := rfl
            rw [e0]
            have HE : Hid (atP wd way o = (nodeV wd none, 30)) := by show _ = _; rw [HA.out, HG.out, hd]; rfl
            clear HA HG hd hcc hidx HS e0
            go_wp2
            exact bodyPost_ret (v := .tuple #[.agg #[.int .i64 0, .string ⟨#[]⟩, .string ⟨#[]⟩, .int .i64 0, .int .u64 0, .int .u64 0], .int .i64 30]) (by simp [results, Tryz.results12, go_sem, x0, x1, x2, x3, x4, x5, f0, f1, f2, f3, f4, f5, zr]) rfl ⟨by rw [HE.out]; rfl, B3 _ _ _ _ _ _⟩
          | some t =>
            cases t with
            | leaf k v =>
              have e0 : (itemsO (some (.leaf k v))).length = 1 := rfl
              rw [e0]
              have HE : Hid (atP wd way o = (nodeV wd none, 30)) := by show _ = _; rw [HA.out, HG.out, hd]; rfl
              clear HA HG hd hcc hidx HS e0
              go_wp2
              exact bodyPost_ret (v := .tuple #[.agg #[.int .i64 0, .string ⟨#[]⟩, .string ⟨#[]⟩, .int .i64 0, .int .u64 0, .int .u64 0], .int .i64 30]) (by simp [results, Tryz.results12, go_sem, x0, x1, x2, x3, x4, x5, f0, f1, f2, f3, f4, f5, zr]) rfl ⟨by rw [HE.out]; rfl, B3 _ _ _ _ _ _⟩
            | fork p l r =>
              have hfine := HS.out.1 _ rfl
              have hitm := HS.out.2.2
              have hcap := HS.out.2.1
              obtain ⟨b, off, ela⟩ : ∃ b off, la = some ⟨b, off, none⟩ := by
                rcases hitm with h0 | ⟨b, off, e, _⟩
                · have := l.items_pos; simp only [itemsO, Tr.items] at h0; rw [(List.append_eq_nil_iff.1 h0).1] at this; simp at this
                · exact ⟨b, off, e⟩
              subst ela
              have hle : (itemsO (some (.fork p l r))).length = l.items.length + r.items.length := by simp [itemsO, Tr.items]
              have hle' : (Tr.fork p l r).items.length = l.items.length + r.items.length := hle
              have hlp := l.items_pos
              have hrp := r.items_pos
              have hp8 : p ≤ 100000000 := hfine.pl.1
              have KF := rfork_fine hfine (some ⟨b, off, none⟩) c wq (hitm.below BW)
              rw [hle'] at KF
              have HSL : Hid (FineO (some l) ∧ (itemsO (some l)).length ≤ c ∧ ItemsAt w (some ⟨b, off, none⟩) (itemsO (some l))) := ⟨fun t e => by injection e with e; rw [← e]; exact hfine.left, by show l.items.length ≤ c; omega, ItemsAt.left hitm⟩
              have HSR : Hid (FineO (some r) ∧ (itemsO (some r)).length ≤ c - l.items.length ∧ ItemsAt w (some ⟨b, off + l.items.length * 2, none⟩) (itemsO (some r))) := ⟨fun t e => by injection e with e; rw [← e]; exact hfine.right, by show r.items.length ≤ c - l.items.length; omega, ItemsAt.right hitm⟩
              rw [hle]
              have HE1 : Hid ((itemsO (some l)).length = l.items.length) := rfl
              have HE2 : Hid ((itemsO (some r)).length = r.items.length) := rfl
              have hcap' : l.items.length + r.items.length ≤ c := by rw [← hle]; exact hcap
              have y1 : ¬ ((l.items.length + r.items.length : Nat) : Int) < 2 := by omega
              have y2 : (l.items.length : Int) ≤ (c : Int) := by omega
              have y3 : (l.items.length : Int) ≤ ((l.items.length + r.items.length : Nat) : Int) := by omega
              have y4 : l.items.length + r.items.length - l.items.length = r.items.length := by omega
              have HGL : Hid (cb = 48 → goP way o = goP (way.drop (j + 1)) (some l)) := fun q => by rw [HG.out, hd, q]; rfl
              have HGR : Hid (cb = 49 → goP way o = goP (way.drop (j + 1)) (some r)) := fun q => by rw [HG.out, hd, q]; rfl
              clear HS hfine hitm hcap hle hle' HG hd
              generalize l.items.length = nl at *
              generalize r.items.length = nr at *
              rcases hcc with hc | hc
              · have hcn : cb.toNat = 48 := by rw [hc]; rfl
                rw [hcn] at hidx
                have HGx := show Hid (_) from HGL.out hc
                clear hcn hc HGL HGR
                go_wp2_with fail
                refine KF.mono ?_
                rintro e w2 ⟨rfl, rfl⟩
                go_wp2
                exact ⟨⟨j + 1, some l, some ⟨b, off, none⟩, c, by omega, by go_num, by rw [HE1.out], HSL, HGx, trivial⟩, by simp [intOf]; omega⟩
              · have hcn : cb.toNat = 49 := by rw [hc]; rfl
                rw [hcn] at hidx
                have HGx := show Hid (_) from HGR.out hc
                clear hcn hc HGL HGR
                go_wp2_with fail
                refine KF.mono ?_
                rintro e w2 ⟨rfl, rfl⟩
                go_wp2
                exact ⟨⟨j + 1, some r, some ⟨b, off + nl * 2, none⟩, c - nl, by omega, by go_num, by rw [HE2.out], HSR, HGx, trivial⟩, by simp [intOf]; omega⟩
        · have hge2 : ¬ (j : Int) < (way.length : Int) := by omega
          have HE : Hid (atP wd way o = (nodeV wd s, 0)) := by
            show _ = _
            rw [HA.out, HG.out, List.drop_of_length_le (by omega)]; rfl
          clear HA HG
          cases s with
          | none =>
            have e0 : (itemsO none).length = 0 := rfl
            rw [e0]
            clear HS e0
            go_wp2
            exact bodyPost_ret (v := .tuple #[.agg #[.int .i64 0, .string ⟨#[]⟩, .string ⟨#[]⟩, .int .i64 0, .int .u64 0, .int .u64 0], .int .i64 0]) (by simp [results, Tryz.results12, go_sem, x0, x1, x2, x3, x4, x5, f0, f1, f2, f3, f4, f5, zr]) rfl ⟨by rw [HE.out]; rfl, B3 _ _ _ _ _ _⟩
          | some t =>
            cases t with
            | leaf k v =>
              have e0 : (itemsO (some (.leaf k v))).length = 1 := rfl
              rw [e0]
              rcases HS.out.2.2 with h0 | ⟨b, off, ela, hbl, hcc⟩
              · cases h0
              subst ela
              obtain ⟨d0, d1⟩ := hcc 0 (k, v) rfl
              simp only [Nat.zero_mul, Nat.add_zero] at d0 d1
              have d0 := (BW.cell (p := ⟨b, off, none⟩) hbl).trans d0
              have d1 := (BW.cell (p := ⟨b, off + 1, none⟩) hbl).trans d1
              have zb := Nat.lt_of_lt_of_le hbl BW.size
              clear HS e0 hcc
              have kS := ((((((kR.set 0 (.int .i64 1)).set 1 (.string (str k))).set 2 (.string (str v))).set 3 (.int .i64 0)).set 4 (.int .u64 0)).set 5 (.int .u64 0)).drew
              have x0' := (kS.cell 0).trans rfl
              have x1' := (kS.cell 1).trans rfl
              have x2' := (kS.cell 2).trans rfl
              have x3' := (kS.cell 3).trans rfl
              have x4' := (kS.cell 4).trans rfl
              have x5' := (kS.cell 5).trans rfl
              have zr' := kS.lt
              go_wp2_with fail
              go_region
              clear x0 x1 x2 x3 x4 x5 f0 f1 f2 f3 f4 f5 zr
              go_wp2
              exact bodyPost_ret (v := .tuple #[.agg #[.int .i64 1, .string (str k), .string (str v), .int .i64 0, .int .u64 0, .int .u64 0], .int .i64 0]) (by simp [results, Tryz.results12, go_sem, x0', x1', x2', x3', x4', x5', zr']) rfl ⟨by rw [HE.out]; rfl, (B3 _ _ _ _ _ _).drew⟩
            | fork p l r =>
              have hfine := HS.out.1 _ rfl
              have hitm := HS.out.2.2
              have hcap := HS.out.2.1
              obtain ⟨b, off, ela⟩ : ∃ b off, la = some ⟨b, off, none⟩ := by
                rcases hitm with h0 | ⟨b, off, e, _⟩
                · have := l.items_pos; simp only [itemsO, Tr.items] at h0; rw [(List.append_eq_nil_iff.1 h0).1] at this; simp at this
                · exact ⟨b, off, e⟩
              subst ela
              have hle : (itemsO (some (.fork p l r))).length = l.items.length + r.items.length := by simp [itemsO, Tr.items]
              have hle' : (Tr.fork p l r).items.length = l.items.length + r.items.length := hle
              have hlp := l.items_pos
              have hrp := r.items_pos
              have hp8 : p ≤ 100000000 := hfine.pl.1
              have KF := rfork_fine hfine (some ⟨b, off, none⟩) c wq (hitm.below BW)
              rw [hle'] at KF
              have hcap' : l.items.length + r.items.length ≤ c := by rw [← hle]; exact hcap
              have KL := fun w' hb => topD_any wd HW.out l hfine.left (some ⟨b, off, none⟩) c w' (by omega) (ItemsAt.left (hitm.below hb))
              have KR := fun w' hb => topD_any wd HW.out r hfine.right (some ⟨b, off + l.items.length * 2, none⟩) (c - l.items.length) w' (by omega) (ItemsAt.right (hitm.below hb))
              rw [hle]
              have y0 : (((l.items.length + r.items.length : Nat) : Int) == 0) = false := by simp; omega
              have y1 : (((l.items.length + r.items.length : Nat) : Int) == 1) = false := by simp; omega
              have y2 : (l.items.length : Int) ≤ (c : Int) := by omega
              have y3 : (l.items.length : Int) ≤ ((l.items.length + r.items.length : Nat) : Int) := by omega
              have y4 : l.items.length + r.items.length - l.items.length = r.items.length := by omega
              have y5 : (l.items.length : Int) ≤ (l.items.length : Int) + (r.items.length : Int) := by omega
              have y6 : ¬ c = l.items.length := by omega
              have HEd : Hid (nodeV wd (some (.fork p l r)) = .agg #[.int .i64 2, .string ⟨#[]⟩, .string ⟨#[]⟩, .int .i64 p, .int .u64 (l.dig wd), .int .u64 (r.dig wd)]) := rfl
              clear HS hfine hitm hcap hle hle'
              generalize l.items.length = nl at *
              generalize r.items.length = nr at *
              generalize l.dig wd = dl at *
              generalize r.dig wd = dr at *
              go_wp2_with fail
              refine KF.mono ?_
              rintro e w2 ⟨rfl, rfl⟩
              clear KF x0 x1 x2 x3 x4 x5 f0 f1 f2 f3 f4 f5 zr B3 t1 zt
              go_upto_region 21 with fail
              have bd : Below wq.heap.size wq wq.drew := (Below.refl _ _).drew
              have T0 : ∀ w', Below wq.heap.size wq w' → w'.cell? ⟨w.heap.size, 0, none⟩ = some (.int .i64 wd) := fun w' hb => ((kT.below hb kT.lt).cell 0).trans rfl
              have KK := KL _ (BW.trans (bd.mono BW.size))
              refine wp_region_held (S := fun w' => Below wq.heap.size wq w') (by kernel_rfl) ?_
              refine wpAnyH_take (i := 0) (v := ?_) rfl (by kernel_rfl) (by kernel_rfl) (by kernel_rfl) (fun _ _ _ h => h) (Or.inl ⟨by kernel_rfl, ?_⟩) (by assumption) ?_
              rotate_left
              · intro w' hSw
                go_simp
                first | (with_reducible rfl) | done | assumption | skip
              simp only [Act.put, List.getElem_toArray, List.getElem_cons_succ, List.getElem_cons_zero, List.setIfInBounds_toArray, List.set_cons_zero, List.set_cons_succ]
              refine wpAnyH_take (i := 1) (v := .int .i64 wd) rfl (by kernel_rfl) (by kernel_rfl) (by kernel_rfl) (fun _ _ _ h => h) (Or.inl ⟨by kernel_rfl, ?_⟩) (by assumption) ?_
              · intro w' hSw
                have yY := T0 _ hSw
                go_simp
                first | (with_reducible rfl) | done | assumption | skip
              simp only [Act.put, List.getElem_toArray, List.getElem_cons_succ, List.getElem_cons_zero, List.setIfInBounds_toArray, List.set_cons_zero, List.set_cons_succ]
              refine wpAnyH_take (i := 2) (v := ?_) rfl (by kernel_rfl) (by kernel_rfl) (by kernel_rfl) (fun _ _ _ h => h) (Or.inl ⟨by kernel_rfl, ?_⟩) (by assumption) ?_
              rotate_left
              · intro w' hSw
                go_simp
                first | (with_reducible rfl) | done | assumption | skip
              simp only [Act.put, List.getElem_toArray, List.getElem_cons_succ, List.getElem_cons_zero, List.setIfInBounds_toArray, List.set_cons_zero, List.set_cons_succ]
              refine wpAnyH_take (i := 3) (v := ?_) rfl (by kernel_rfl) (by kernel_rfl) (by kernel_rfl) (fun _ _ _ h => h) (Or.inl ⟨by kernel_rfl, ?_⟩) (by assumption) ?_
              rotate_left
              · intro w' hSw
                go_simp
                first | (with_reducible rfl) | done | assumption | skip
              simp only [Act.put, List.getElem_toArray, List.getElem_cons_succ, List.getElem_cons_zero, List.setIfInBounds_toArray, List.set_cons_zero, List.set_cons_succ]
              refine wpAnyH_take (i := 4) (v := .slice (some ⟨b, off, none⟩) nl c) rfl (by kernel_rfl) (by kernel_rfl) (by kernel_rfl) (fun _ _ _ h => h) (Or.inl ⟨by kernel_rfl, ?_⟩) (by assumption) ?_
              · intro w' hSw
                go_simp
                first | (with_reducible rfl) | done | assumption | skip
              simp only [Act.put, List.getElem_toArray, List.getElem_cons_succ, List.getElem_cons_zero, List.setIfInBounds_toArray, List.set_cons_zero, List.set_cons_succ]
              refine wpAnyH_ready (rs := [5]) (by kernel_rfl) (by simp) ?_
              refine AllReadyH.cons rfl (fun K hK => ?_) AllReadyH.nil
              go_simp
              refine KK.mono ?_
              rintro e w3 ⟨rfl, bw3⟩
              have cw3 : Below wq.heap.size wq w3 := bd.trans (bw3.mono bd.size)
              refine hK.out _ _ cw3 (fun _ => ?_)
              clear hK K KK
              try simp only [Act.put, List.getElem_toArray, List.getElem_cons_succ, List.getElem_cons_zero, List.setIfInBounds_toArray, List.set_cons_zero, List.set_cons_succ]
              refine wpAnyH_take (i := 6) (v := ?_) rfl (by kernel_rfl) (by kernel_rfl) (by kernel_rfl) (fun _ _ _ h => h) (Or.inl ⟨by kernel_rfl, ?_⟩) (by assumption) ?_
              rotate_left
              · intro w' hSw
                go_simp
                first | (with_reducible rfl) | done | assumption | skip
              simp only [Act.put, List.getElem_toArray, List.getElem_cons_succ, List.getElem_cons_zero, List.setIfInBounds_toArray, List.set_cons_zero, List.set_cons_succ]
              refine wpAnyH_done (by kernel_rfl) ?_ _
              have kT' := kT.below cw3 kT.lt
              have kR' := kR.below cw3 kR.lt
              have BW' := BW.trans (cw3.mono BW.size)
              clear kT kR BW bd T0 bw3 cw3
              have kT := kT'
              have kR := kR'
              have BW := BW'
              clear kT' kR' BW'
              go_upto_region 22 with fail
              have bd : Below w3.heap.size w3 w3.drew := (Below.refl _ _).drew
              have T0 : ∀ w', Below w3.heap.size w3 w' → w'.cell? ⟨w.heap.size, 0, none⟩ = some (.int .i64 wd) := fun w' hb => ((kT.below hb kT.lt).cell 0).trans rfl
              have KK := KR _ (BW.trans (bd.mono BW.size))
              refine wp_region_held (S := fun w' => Below w3.heap.size w3 w') (by kernel_rfl) ?_
              refine wpAnyH_take (i := 0) (v := ?_) rfl (by kernel_rfl) (by kernel_rfl) (by kernel_rfl) (fun _ _ _ h => h) (Or.inl ⟨by kernel_rfl, ?_⟩) (by assumption) ?_
              rotate_left
              · intro w' hSw
                go_simp
                first | (with_reducible rfl) | done | assumption | skip
              simp only [Act.put, List.getElem_toArray, List.getElem_cons_succ, List.getElem_cons_zero, List.setIfInBounds_toArray, List.set_cons_zero, List.set_cons_succ]
              refine wpAnyH_take (i := 1) (v := .int .i64 wd) rfl (by kernel_rfl) (by kernel_rfl) (by kernel_rfl) (fun _ _ _ h => h) (Or.inl ⟨by kernel_rfl, ?_⟩) (by assumption) ?_
              · intro w' hSw
                have yY := T0 _ hSw
                go_simp
                first | (with_reducible rfl) | done | assumption | skip
              simp only [Act.put, List.getElem_toArray, List.getElem_cons_succ, List.getElem_cons_zero, List.setIfInBounds_toArray, List.set_cons_zero, List.set_cons_succ]
              refine wpAnyH_take (i := 2) (v := ?_) rfl (by kernel_rfl) (by kernel_rfl) (by kernel_rfl) (fun _ _ _ h => h) (Or.inl ⟨by kernel_rfl, ?_⟩) (by assumption) ?_
              rotate_left
              · intro w' hSw
                go_simp
                first | (with_reducible rfl) | done | assumption | skip
              simp only [Act.put, List.getElem_toArray, List.getElem_cons_succ, List.getElem_cons_zero, List.setIfInBounds_toArray, List.set_cons_zero, List.set_cons_succ]
              refine wpAnyH_take (i := 3) (v := ?_) rfl (by kernel_rfl) (by kernel_rfl) (by kernel_rfl) (fun _ _ _ h => h) (Or.inl ⟨by kernel_rfl, ?_⟩) (by assumption) ?_
              rotate_left
              · intro w' hSw
                go_simp
                first | (with_reducible rfl) | done | assumption | skip
              simp only [Act.put, List.getElem_toArray, List.getElem_cons_succ, List.getElem_cons_zero, List.setIfInBounds_toArray, List.set_cons_zero, List.set_cons_succ]
              refine wpAnyH_take (i := 4) (v := .slice (some ⟨b, off + nl * 2, none⟩) nr (c - nl)) rfl (by kernel_rfl) (by kernel_rfl) (by kernel_rfl) (fun _ _ _ h => h) (Or.inl ⟨by kernel_rfl, ?_⟩) (by assumption) ?_
              · intro w' hSw
                go_simp
                first | (with_reducible rfl) | done | assumption | skip
              simp only [Act.put, List.getElem_toArray, List.getElem_cons_succ, List.getElem_cons_zero, List.setIfInBounds_toArray, List.set_cons_zero, List.set_cons_succ]
              refine wpAnyH_ready (rs := [5]) (by kernel_rfl) (by simp) ?_
              refine AllReadyH.cons rfl (fun K hK => ?_) AllReadyH.nil
              go_simp
              refine KK.mono ?_
              rintro e w4 ⟨rfl, bw4⟩
              have cw4 : Below w3.heap.size w3 w4 := bd.trans (bw4.mono bd.size)
              refine hK.out _ _ cw4 (fun _ => ?_)
              clear hK K KK
              try simp only [Act.put, List.getElem_toArray, List.getElem_cons_succ, List.getElem_cons_zero, List.setIfInBounds_toArray, List.set_cons_zero, List.set_cons_succ]
              refine wpAnyH_take (i := 6) (v := ?_) rfl (by kernel_rfl) (by kernel_rfl) (by kernel_rfl) (fun _ _ _ h => h) (Or.inl ⟨by kernel_rfl, ?_⟩) (by assumption) ?_
              rotate_left
              · intro w' hSw
                go_simp
                first | (with_reducible rfl) | done | assumption | skip
              simp only [Act.put, List.getElem_toArray, List.getElem_cons_succ, List.getElem_cons_zero, List.setIfInBounds_toArray, List.set_cons_zero, List.set_cons_succ]
              refine wpAnyH_done (by kernel_rfl) ?_ _
              have kT' := kT.below cw4 kT.lt
              have kR' := kR.below cw4 kR.lt
              have BW' := BW.trans (cw4.mono BW.size)
              clear kT kR BW bd T0 bw4 cw4
              have kT := kT'
              have kR := kR'
              have BW := BW'
              clear kT' kR' BW'
              have B3 := node_stored (R := w.heap.size + 1) (Nat.le_succ _) BW
              have x0 := (kR.cell 0).trans rfl
              have x1 := (kR.cell 1).trans rfl
              have x2 := (kR.cell 2).trans rfl
              have x3 := (kR.cell 3).trans rfl
              have x4 := (kR.cell 4).trans rfl
              have x5 := (kR.cell 5).trans rfl
              have f0 := kR.frozen 0
              have f1 := kR.frozen 1
              have f2 := kR.frozen 2
              have f3 := kR.frozen 3
              have f4 := kR.frozen 4
              have f5 := kR.frozen 5
              have zr := kR.lt
              go_wp2
              exact bodyPost_ret (v := .tuple #[.agg #[.int .i64 2, .string ⟨#[]⟩, .string ⟨#[]⟩, .int .i64 p, .int .u64 dl, .int .u64 dr], .int .i64 0]) (by simp [results, Tryz.results12, go_sem, x0, x1, x2, x3, x4, x5, f0, f1, f2, f3, f4, f5, zr]) rfl ⟨by rw [HE.out, HEd.out], B3 _ _ _ _ _ _⟩
end Go.Proofs.YtmhllihedejehaaGreat
