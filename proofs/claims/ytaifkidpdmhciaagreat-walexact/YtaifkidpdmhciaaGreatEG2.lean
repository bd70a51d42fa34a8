/- The answer's reading: votes, records of votes. -/
import Derived.Test.YtaifkidpdmhciaaGreatM14
import Derived.Test.YtaifkidpdmhciaaGreatEGet
namespace Go.Proofs.YtaifkidpdmhciaaGreat
open Go.RowKit
set_option linter.unusedVariables false
set_option linter.unusedSimpArgs false

set_option maxHeartbeats 3200000 in
theorem gvote_any (gb : Nat) (B : List UInt8) (a0 : Nat) (h rd sg : Int) (has : Bool) (bl f : Int) (r : List UInt8) (w : World) (k : GtAt w gb B a0) (hh : 0 ≤ h ∧ h ≤ 1099511627775) (hrd : 0 ≤ rd ∧ rd ≤ 1099511627775) (hsg : 0 ≤ sg ∧ sg ≤ 1099511627775) (hbl : 0 ≤ bl ∧ bl ≤ 18446744073709551615) (hf : 0 ≤ f ∧ f ≤ 1099511627775)
    (hB : B.drop a0 = voteBy h rd sg has bl f ++ r) (hL : B.length ≤ 1099511626000) :
    Calls Tryz.prog 45 #[.pointer (some ⟨gb, 0, none⟩)] w fun e w' => e = .returned (.agg #[.int .i64 h, .int .i64 rd, .int .i64 sg, .bool has, .int .u64 bl, .int .i64 f]) ∧ (∃ a', GtAt w' gb B a' ∧ B.drop a' = r) ∧ But (fun k => k = gb) w w' := by
  have D0 : B.drop a0 = numB h ++ (numB rd ++ (numB sg ++ (flagB has ++ (be bl 8 ++ (numB f ++ r))))) := by rw [hB]; simp [voteBy, encs, List.append_assoc]
  have hgb : gb < w.heap.size := Blk.lt k
  have bA : Below w.heap.size w ((w.alloc (.cells #[.int .i64 0, .int .i64 0, .int .i64 0, .bool false, .int .u64 0, .int .i64 0] 31)).alloc (.cells #[.int .i64 0, .int .i64 0, .int .i64 0, .bool false, .int .u64 0, .int .i64 0] 31)) := ((Below.refl _ _).alloc (Nat.le_refl _) _).alloc (by simp) _
  have k0 := GtAt.below k bA
  have r0 := (Blk.new w #[.int .i64 0, .int .i64 0, .int .i64 0, .bool false, .int .u64 0, .int .i64 0] 31).alloc (.cells #[.int .i64 0, .int .i64 0, .int .i64 0, .bool false, .int .u64 0, .int .i64 0] 31)
  have v0 := Blk.new (w.alloc (.cells #[.int .i64 0, .int .i64 0, .int .i64 0, .bool false, .int .u64 0, .int .i64 0] 31)) #[.int .i64 0, .int .i64 0, .int .i64 0, .bool false, .int .u64 0, .int .i64 0] 31
  rw [World.size_alloc] at v0
  have B0 : But (fun k => k = gb) w ((w.alloc (.cells #[.int .i64 0, .int .i64 0, .int .i64 0, .bool false, .int .u64 0, .int .i64 0] 31)).alloc (.cells #[.int .i64 0, .int .i64 0, .int .i64 0, .bool false, .int .u64 0, .int .i64 0] 31)) := But.of_below bA
  clear hB k bA
  go_enter Tryz.func45, Tryz.ntmps45
  go_upto_region 2 with fail
  generalize (w.alloc (.cells #[.int .i64 0, .int .i64 0, .int .i64 0, .bool false, .int .u64 0, .int .i64 0] 31)).alloc (.cells #[.int .i64 0, .int .i64 0, .int .i64 0, .bool false, .int .u64 0, .int .i64 0] 31) = w0 at *
  go_wp2_with fail
  refine (num_any gb B a0 h _ w0 k0 hh.1 hh.2 D0 hL).mono ?_
  rintro e x0 ⟨rfl, g0, hd0, b0⟩
  have D1 := hd0
  have v0' := b0.blk v0 (by omega)
  have r0' := b0.blk r0 (by omega)
  have c0 := (v0'.cell 0).trans rfl
  have f0 := v0'.frozen 0
  have z0 := v0'.lt
  have v1 : Blk (x0.setCell ⟨w.heap.size + 1, 0, none⟩ (.int .i64 h)) (w.heap.size + 1) #[.int .i64 h, .int .i64 0, .int .i64 0, .bool false, .int .u64 0, .int .i64 0] 31 := v0'.set 0 (.int .i64 h)
  have r1 : Blk (x0.setCell ⟨w.heap.size + 1, 0, none⟩ (.int .i64 h)) w.heap.size #[.int .i64 0, .int .i64 0, .int .i64 0, .bool false, .int .u64 0, .int .i64 0] 31 := r0'.setOther ⟨w.heap.size + 1, 0, none⟩ (by show w.heap.size ≠ w.heap.size + 1; omega) (.int .i64 h)
  have k1 : GtAt (x0.setCell ⟨w.heap.size + 1, 0, none⟩ (.int .i64 h)) gb B _ := Blk.setOther g0 ⟨w.heap.size + 1, 0, none⟩ (by show gb ≠ w.heap.size + 1; omega) (.int .i64 h)
  have B1 := B0.trans_new ((b0.mono (fun q hq => Or.inl hq)).trans (But.set (S := fun q => q = gb ∨ q = w.heap.size + 1) x0 (p := ⟨w.heap.size + 1, 0, none⟩) (.inr rfl) (.int .i64 h))) (fun q hq hs => by rcases hs with hs | hs <;> omega)
  clear hd0 b0 v0 r0 k0 g0 v0' r0' B0 D0
  go_upto_region 3 with fail
  generalize x0.setCell ⟨w.heap.size + 1, 0, none⟩ (.int .i64 h) = w1 at *
  clear c0 f0 z0
  obtain ⟨a1, ha1⟩ : ∃ q, q = a0 + (numB h).length := ⟨_, rfl⟩
  rw [← ha1] at k1 D1
  have HA1 := show Hid (_ = _) from ha1
  clear ha1
  go_wp2_with fail
  refine (num_any gb B a1 rd _ w1 k1 hrd.1 hrd.2 D1 hL).mono ?_
  rintro e x1 ⟨rfl, g1, hd1, b1⟩
  have D2 := hd1
  have v1' := b1.blk v1 (by omega)
  have r1' := b1.blk r1 (by omega)
  have c1 := (v1'.cell 1).trans rfl
  have f1 := v1'.frozen 1
  have z1 := v1'.lt
  have v2 : Blk (x1.setCell ⟨w.heap.size + 1, 1, none⟩ (.int .i64 rd)) (w.heap.size + 1) #[.int .i64 h, .int .i64 rd, .int .i64 0, .bool false, .int .u64 0, .int .i64 0] 31 := v1'.set 1 (.int .i64 rd)
  have r2 : Blk (x1.setCell ⟨w.heap.size + 1, 1, none⟩ (.int .i64 rd)) w.heap.size #[.int .i64 0, .int .i64 0, .int .i64 0, .bool false, .int .u64 0, .int .i64 0] 31 := r1'.setOther ⟨w.heap.size + 1, 1, none⟩ (by show w.heap.size ≠ w.heap.size + 1; omega) (.int .i64 rd)
  have k2 : GtAt (x1.setCell ⟨w.heap.size + 1, 1, none⟩ (.int .i64 rd)) gb B _ := Blk.setOther g1 ⟨w.heap.size + 1, 1, none⟩ (by show gb ≠ w.heap.size + 1; omega) (.int .i64 rd)
  have B2 := B1.trans_new ((b1.mono (fun q hq => Or.inl hq)).trans (But.set (S := fun q => q = gb ∨ q = w.heap.size + 1) x1 (p := ⟨w.heap.size + 1, 1, none⟩) (.inr rfl) (.int .i64 rd))) (fun q hq hs => by rcases hs with hs | hs <;> omega)
  clear hd1 b1 v1 r1 k1 g1 v1' r1' B1 D1
  go_upto_region 4 with fail
  generalize x1.setCell ⟨w.heap.size + 1, 1, none⟩ (.int .i64 rd) = w2 at *
  clear c1 f1 z1
  obtain ⟨a2, ha2⟩ : ∃ q, q = a1 + (numB rd).length := ⟨_, rfl⟩
  rw [← ha2] at k2 D2
  have HA2 := show Hid (_ = _) from ha2
  clear ha2
  go_wp2_with fail
  refine (num_any gb B a2 sg _ w2 k2 hsg.1 hsg.2 D2 hL).mono ?_
  rintro e x2 ⟨rfl, g2, hd2, b2⟩
  have D3 := hd2
  have v2' := b2.blk v2 (by omega)
  have r2' := b2.blk r2 (by omega)
  have c2 := (v2'.cell 2).trans rfl
  have f2 := v2'.frozen 2
  have z2 := v2'.lt
  have v3 : Blk (x2.setCell ⟨w.heap.size + 1, 2, none⟩ (.int .i64 sg)) (w.heap.size + 1) #[.int .i64 h, .int .i64 rd, .int .i64 sg, .bool false, .int .u64 0, .int .i64 0] 31 := v2'.set 2 (.int .i64 sg)
  have r3 : Blk (x2.setCell ⟨w.heap.size + 1, 2, none⟩ (.int .i64 sg)) w.heap.size #[.int .i64 0, .int .i64 0, .int .i64 0, .bool false, .int .u64 0, .int .i64 0] 31 := r2'.setOther ⟨w.heap.size + 1, 2, none⟩ (by show w.heap.size ≠ w.heap.size + 1; omega) (.int .i64 sg)
  have k3 : GtAt (x2.setCell ⟨w.heap.size + 1, 2, none⟩ (.int .i64 sg)) gb B _ := Blk.setOther g2 ⟨w.heap.size + 1, 2, none⟩ (by show gb ≠ w.heap.size + 1; omega) (.int .i64 sg)
  have B3 := B2.trans_new ((b2.mono (fun q hq => Or.inl hq)).trans (But.set (S := fun q => q = gb ∨ q = w.heap.size + 1) x2 (p := ⟨w.heap.size + 1, 2, none⟩) (.inr rfl) (.int .i64 sg))) (fun q hq hs => by rcases hs with hs | hs <;> omega)
  clear hd2 b2 v2 r2 k2 g2 v2' r2' B2 D2
  go_upto_region 5 with fail
  generalize x2.setCell ⟨w.heap.size + 1, 2, none⟩ (.int .i64 sg) = w3 at *
  clear c2 f2 z2
  obtain ⟨a3, ha3⟩ : ∃ q, q = a2 + (numB sg).length := ⟨_, rfl⟩
  rw [← ha3] at k3 D3
  have HA3 := show Hid (_ = _) from ha3
  clear ha3
  go_wp2_with fail
  refine (gflag_any gb B a3 has _ w3 k3  D3 hL).mono ?_
  rintro e x3 ⟨rfl, g3, hd3, b3⟩
  have D4 := hd3
  have v3' := b3.blk v3 (by omega)
  have r3' := b3.blk r3 (by omega)
  have c3 := (v3'.cell 3).trans rfl
  have f3 := v3'.frozen 3
  have z3 := v3'.lt
  have v4 : Blk (x3.setCell ⟨w.heap.size + 1, 3, none⟩ (.bool has)) (w.heap.size + 1) #[.int .i64 h, .int .i64 rd, .int .i64 sg, .bool has, .int .u64 0, .int .i64 0] 31 := v3'.set 3 (.bool has)
  have r4 : Blk (x3.setCell ⟨w.heap.size + 1, 3, none⟩ (.bool has)) w.heap.size #[.int .i64 0, .int .i64 0, .int .i64 0, .bool false, .int .u64 0, .int .i64 0] 31 := r3'.setOther ⟨w.heap.size + 1, 3, none⟩ (by show w.heap.size ≠ w.heap.size + 1; omega) (.bool has)
  have k4 : GtAt (x3.setCell ⟨w.heap.size + 1, 3, none⟩ (.bool has)) gb B _ := Blk.setOther g3 ⟨w.heap.size + 1, 3, none⟩ (by show gb ≠ w.heap.size + 1; omega) (.bool has)
  have B4 := B3.trans_new ((b3.mono (fun q hq => Or.inl hq)).trans (But.set (S := fun q => q = gb ∨ q = w.heap.size + 1) x3 (p := ⟨w.heap.size + 1, 3, none⟩) (.inr rfl) (.bool has))) (fun q hq hs => by rcases hs with hs | hs <;> omega)
  clear hd3 b3 v3 r3 k3 g3 v3' r3' B3 D3
  go_upto_region 6 with fail
  generalize x3.setCell ⟨w.heap.size + 1, 3, none⟩ (.bool has) = w4 at *
  clear c3 f3 z3
  obtain ⟨a4, ha4⟩ : ∃ q, q = a3 + 1 := ⟨_, rfl⟩
  rw [← ha4] at k4 D4
  have HA4 := show Hid (_ = _) from ha4
  clear ha4
  go_wp2_with fail
  refine (dig_any gb B a4 bl _ w4 k4 hbl.1 hbl.2 D4 hL).mono ?_
  rintro e x4 ⟨rfl, g4, hd4, b4⟩
  have D5 := hd4
  have v4' := b4.blk v4 (by omega)
  have r4' := b4.blk r4 (by omega)
  have c4 := (v4'.cell 4).trans rfl
  have f4 := v4'.frozen 4
  have z4 := v4'.lt
  have v5 : Blk (x4.setCell ⟨w.heap.size + 1, 4, none⟩ (.int .u64 bl)) (w.heap.size + 1) #[.int .i64 h, .int .i64 rd, .int .i64 sg, .bool has, .int .u64 bl, .int .i64 0] 31 := v4'.set 4 (.int .u64 bl)
  have r5 : Blk (x4.setCell ⟨w.heap.size + 1, 4, none⟩ (.int .u64 bl)) w.heap.size #[.int .i64 0, .int .i64 0, .int .i64 0, .bool false, .int .u64 0, .int .i64 0] 31 := r4'.setOther ⟨w.heap.size + 1, 4, none⟩ (by show w.heap.size ≠ w.heap.size + 1; omega) (.int .u64 bl)
  have k5 : GtAt (x4.setCell ⟨w.heap.size + 1, 4, none⟩ (.int .u64 bl)) gb B _ := Blk.setOther g4 ⟨w.heap.size + 1, 4, none⟩ (by show gb ≠ w.heap.size + 1; omega) (.int .u64 bl)
  have B5 := B4.trans_new ((b4.mono (fun q hq => Or.inl hq)).trans (But.set (S := fun q => q = gb ∨ q = w.heap.size + 1) x4 (p := ⟨w.heap.size + 1, 4, none⟩) (.inr rfl) (.int .u64 bl))) (fun q hq hs => by rcases hs with hs | hs <;> omega)
  clear hd4 b4 v4 r4 k4 g4 v4' r4' B4 D4
  go_upto_region 7 with fail
  generalize x4.setCell ⟨w.heap.size + 1, 4, none⟩ (.int .u64 bl) = w5 at *
  clear c4 f4 z4
  obtain ⟨a5, ha5⟩ : ∃ q, q = a4 + 8 := ⟨_, rfl⟩
  rw [← ha5] at k5 D5
  have HA5 := show Hid (_ = _) from ha5
  clear ha5
  go_wp2_with fail
  refine (num_any gb B a5 f _ w5 k5 hf.1 hf.2 D5 hL).mono ?_
  rintro e x5 ⟨rfl, g5, hd5, b5⟩
  have D6 := hd5
  have v5' := b5.blk v5 (by omega)
  have r5' := b5.blk r5 (by omega)
  have c5 := (v5'.cell 5).trans rfl
  have f5 := v5'.frozen 5
  have z5 := v5'.lt
  have v6 : Blk (x5.setCell ⟨w.heap.size + 1, 5, none⟩ (.int .i64 f)) (w.heap.size + 1) #[.int .i64 h, .int .i64 rd, .int .i64 sg, .bool has, .int .u64 bl, .int .i64 f] 31 := v5'.set 5 (.int .i64 f)
  have r6 : Blk (x5.setCell ⟨w.heap.size + 1, 5, none⟩ (.int .i64 f)) w.heap.size #[.int .i64 0, .int .i64 0, .int .i64 0, .bool false, .int .u64 0, .int .i64 0] 31 := r5'.setOther ⟨w.heap.size + 1, 5, none⟩ (by show w.heap.size ≠ w.heap.size + 1; omega) (.int .i64 f)
  have k6 : GtAt (x5.setCell ⟨w.heap.size + 1, 5, none⟩ (.int .i64 f)) gb B _ := Blk.setOther g5 ⟨w.heap.size + 1, 5, none⟩ (by show gb ≠ w.heap.size + 1; omega) (.int .i64 f)
  have B6 := B5.trans_new ((b5.mono (fun q hq => Or.inl hq)).trans (But.set (S := fun q => q = gb ∨ q = w.heap.size + 1) x5 (p := ⟨w.heap.size + 1, 5, none⟩) (.inr rfl) (.int .i64 f))) (fun q hq hs => by rcases hs with hs | hs <;> omega)
  clear hd5 b5 v5 r5 k5 g5 v5' r5' B5 D5
  go_upto_region 8 with fail
  generalize x5.setCell ⟨w.heap.size + 1, 5, none⟩ (.int .i64 f) = w6 at *
  clear c5 f5 z5
  have HD := show Hid (_ = _) from D6
  clear D6
  obtain ⟨C, HC⟩ : ∃ C : Array Value, Hid (C = #[.int .i64 h, .int .i64 rd, .int .i64 sg, .bool has, .int .u64 bl, .int .i64 f]) := ⟨_, rfl⟩
  rw [← HC.out] at v6
  have hCn : C.size = 6 := by rw [HC.out]; rfl
  have hC1 : C.all (·.oneCell') = true := by rw [HC.out]; simp [Value.oneCell']
  refine wp_region_list ?_
  refine wpList_load_whole (by kernel_rfl) 31 _ rfl (w.heap.size + 1) rfl C _ _ v6 Tryz.underlying31 rfl (by rw [hCn]; kernel_rfl) ?_
  refine wpList_store_mid rfl 31 _ _ rfl w.heap.size 0 C rfl rfl (r6.there C.size (by rw [hCn]; decide)) (by rw [hCn]; kernel_rfl) hC1 ?_
  refine wpList_nil ?_
  simp only [Exit.then]
  have hR := World.rangeAt_setCells_same w6 w.heap.size 0 C.toList (r6.there _ (by rw [Array.length_toList, hCn]; decide))
  have hBt := but_setCells w.heap.size C.toList 0 w6
  have kG : GtAt (w6.setCells w.heap.size 0 C.toList) gb B _ := hBt.blk k6 (by omega)
  have B7 := B6.trans_new hBt (fun q hq hs => by omega)
  generalize w6.setCells w.heap.size 0 C.toList = w11 at *
  have hld := run_loadVar_mid (P := Tryz.prog) w11 w.heap.size 0 31 C.toList _ hR Tryz.underlying31 rfl (by rw [Array.length_toList, hCn]; kernel_rfl)
  rw [Array.toArray_toList] at hld
  have y0 : w11.cell? ⟨w.heap.size, 0, none⟩ = some (.int .i64 h) := by have h := hR 0 (.int .i64 h) (by rw [HC.out]; rfl); rw [Nat.zero_add] at h; exact h
  have y1 : w11.cell? ⟨w.heap.size, 1, none⟩ = some (.int .i64 rd) := by have h := hR 1 (.int .i64 rd) (by rw [HC.out]; rfl); rw [Nat.zero_add] at h; exact h
  have y2 : w11.cell? ⟨w.heap.size, 2, none⟩ = some (.int .i64 sg) := by have h := hR 2 (.int .i64 sg) (by rw [HC.out]; rfl); rw [Nat.zero_add] at h; exact h
  have y3 : w11.cell? ⟨w.heap.size, 3, none⟩ = some (.bool has) := by have h := hR 3 (.bool has) (by rw [HC.out]; rfl); rw [Nat.zero_add] at h; exact h
  have y4 : w11.cell? ⟨w.heap.size, 4, none⟩ = some (.int .u64 bl) := by have h := hR 4 (.int .u64 bl) (by rw [HC.out]; rfl); rw [Nat.zero_add] at h; exact h
  have y5 : w11.cell? ⟨w.heap.size, 5, none⟩ = some (.int .i64 f) := by have h := hR 5 (.int .i64 f) (by rw [HC.out]; rfl); rw [Nat.zero_add] at h; exact h
  go_wp2
  exact bodyPost_ret (v := .agg #[.int .i64 h, .int .i64 rd, .int .i64 sg, .bool has, .int .u64 bl, .int .i64 f]) (by simp [results, Tryz.results45, go_sem, y0, y1, y2, y3, y4, y5]) rfl ⟨rfl, ⟨_, kG, HD.out⟩, B7⟩
def setsAt (cs : Array Value) : Nat → List Value → Array Value
  | _, [] => cs
  | o, v :: r => setsAt (cs.setIfInBounds o v) (o + 1) r
theorem Blk.setCells {b : Nat} {t : TypeId} : ∀ (vs : List Value) (o : Nat) (w : World) (cs : Array Value), Blk w b cs t → Blk (w.setCells b o vs) b (setsAt cs o vs) t
  | [], _, _, _, h => h
  | v :: r, o, w, cs, h => Blk.setCells r (o + 1) _ _ (h.set o v)

theorem RZ_one' : RZ.all (·.oneCell') = true := by simp [RZ, Value.oneCell']
theorem sets_RZ : setsAt RZ 0 RZ.toList = RZ := by kernel_rfl
theorem sets_RC (h rd sg : Int) (has : Bool) (bl f : Int) : setsAt (RZ.setIfInBounds 0 (.int .i64 1)) 1 [.int .i64 h, .int .i64 rd, .int .i64 sg, .bool has, .int .u64 bl, .int .i64 f] = RC h rd sg has bl f := rfl

set_option maxRecDepth 8000 in
set_option maxHeartbeats 3200000 in
theorem grecord_any (gb : Nat) (B : List UInt8) (a0 : Nat) (h rd sg : Int) (has : Bool) (bl f : Int) (r : List UInt8) (w : World) (k : GtAt w gb B a0) (hh : 0 ≤ h ∧ h ≤ 1099511627775) (hrd : 0 ≤ rd ∧ rd ≤ 1099511627775) (hsg : 0 ≤ sg ∧ sg ≤ 1099511627775) (hbl : 0 ≤ bl ∧ bl ≤ 18446744073709551615) (hf : 0 ≤ f ∧ f ≤ 1099511627775)
    (hB : B.drop a0 = recBy h rd sg has bl f ++ r) (hL : B.length ≤ 1099511626000) :
    Calls Tryz.prog 30 #[.pointer (some ⟨gb, 0, none⟩)] w fun e w' => e = .returned (.agg (RC h rd sg has bl f)) ∧ (∃ a', GtAt w' gb B a' ∧ B.drop a' = r) ∧ But (fun k => k = gb) w w' := by
  have D0 : B.drop a0 = numB 1 ++ (voteBy h rd sg has bl f ++ r) := by rw [hB]; simp [recBy, List.append_assoc]
  have hgb : gb < w.heap.size := Blk.lt k
  have bA : Below w.heap.size w (w.alloc (.cells #[.int .i64 0, .int .i64 0, .int .i64 0, .int .i64 0, .bool false, .int .u64 0, .int .i64 0, .int .i64 0, .int .i64 0, .int .i64 0, .int .i64 0, .int .u64 0, .int .u64 0, .int .u64 0, .int .u64 0, .int .u64 0, .int .u64 0, .int .i64 0, .slice none 0 0, .slice none 0 0, .slice none 0 0, .int .i64 0, .int .i64 0, .int .i64 0, .bool false, .int .u64 0, .slice none 0 0, .int .i64 0, .int .i64 0, .int .u64 0, .int .u64 0, .int .u64 0, .int .u64 0, .int .u64 0, .int .u64 0, .int .i64 0, .slice none 0 0, .slice none 0 0] 57)) := (Below.refl _ _).alloc (Nat.le_refl _) _
  have kA := GtAt.below k bA
  have rA := Blk.new w #[.int .i64 0, .int .i64 0, .int .i64 0, .int .i64 0, .bool false, .int .u64 0, .int .i64 0, .int .i64 0, .int .i64 0, .int .i64 0, .int .i64 0, .int .u64 0, .int .u64 0, .int .u64 0, .int .u64 0, .int .u64 0, .int .u64 0, .int .i64 0, .slice none 0 0, .slice none 0 0, .slice none 0 0, .int .i64 0, .int .i64 0, .int .i64 0, .bool false, .int .u64 0, .slice none 0 0, .int .i64 0, .int .i64 0, .int .u64 0, .int .u64 0, .int .u64 0, .int .u64 0, .int .u64 0, .int .u64 0, .int .i64 0, .slice none 0 0, .slice none 0 0] 57
  have zA : (w.alloc (.cells #[.int .i64 0, .int .i64 0, .int .i64 0, .int .i64 0, .bool false, .int .u64 0, .int .i64 0, .int .i64 0, .int .i64 0, .int .i64 0, .int .i64 0, .int .u64 0, .int .u64 0, .int .u64 0, .int .u64 0, .int .u64 0, .int .u64 0, .int .i64 0, .slice none 0 0, .slice none 0 0, .slice none 0 0, .int .i64 0, .int .i64 0, .int .i64 0, .bool false, .int .u64 0, .slice none 0 0, .int .i64 0, .int .i64 0, .int .u64 0, .int .u64 0, .int .u64 0, .int .u64 0, .int .u64 0, .int .u64 0, .int .i64 0, .slice none 0 0, .slice none 0 0] 57)).heap.size = w.heap.size + 1 := by simp
  have BA : But (fun k => k = gb) w (w.alloc (.cells #[.int .i64 0, .int .i64 0, .int .i64 0, .int .i64 0, .bool false, .int .u64 0, .int .i64 0, .int .i64 0, .int .i64 0, .int .i64 0, .int .i64 0, .int .u64 0, .int .u64 0, .int .u64 0, .int .u64 0, .int .u64 0, .int .u64 0, .int .i64 0, .slice none 0 0, .slice none 0 0, .slice none 0 0, .int .i64 0, .int .i64 0, .int .i64 0, .bool false, .int .u64 0, .slice none 0 0, .int .i64 0, .int .i64 0, .int .u64 0, .int .u64 0, .int .u64 0, .int .u64 0, .int .u64 0, .int .u64 0, .int .i64 0, .slice none 0 0, .slice none 0 0] 57)) := But.of_below bA
  clear hB k bA
  go_enter Tryz.func30, Tryz.ntmps30
  go_upto_region 1 with fail
  generalize w.alloc (.cells #[.int .i64 0, .int .i64 0, .int .i64 0, .int .i64 0, .bool false, .int .u64 0, .int .i64 0, .int .i64 0, .int .i64 0, .int .i64 0, .int .i64 0, .int .u64 0, .int .u64 0, .int .u64 0, .int .u64 0, .int .u64 0, .int .u64 0, .int .i64 0, .slice none 0 0, .slice none 0 0, .slice none 0 0, .int .i64 0, .int .i64 0, .int .i64 0, .bool false, .int .u64 0, .slice none 0 0, .int .i64 0, .int .i64 0, .int .u64 0, .int .u64 0, .int .u64 0, .int .u64 0, .int .u64 0, .int .u64 0, .int .i64 0, .slice none 0 0, .slice none 0 0] 57) = wA at *
  refine wp_region_list ?_
  refine wpList_plain rfl (fun K hK => ?_)
  go_simp
  refine hK _ _ ?_
  clear hK K
  refine wpList_plain rfl (fun K hK => ?_)
  go_simp
  refine hK _ _ ?_
  clear hK K
  have bB : Below wA.heap.size wA (wA.alloc (.cells #[.int .i64 0, .int .i64 0, .int .i64 0, .int .i64 0, .bool false, .int .u64 0, .int .i64 0, .int .i64 0, .int .i64 0, .int .i64 0, .int .i64 0, .int .u64 0, .int .u64 0, .int .u64 0, .int .u64 0, .int .u64 0, .int .u64 0, .int .i64 0, .slice none 0 0, .slice none 0 0, .slice none 0 0, .int .i64 0, .int .i64 0, .int .i64 0, .bool false, .int .u64 0, .slice none 0 0, .int .i64 0, .int .i64 0, .int .u64 0, .int .u64 0, .int .u64 0, .int .u64 0, .int .u64 0, .int .u64 0, .int .i64 0, .slice none 0 0, .slice none 0 0] 57)) := (Below.refl _ _).alloc (Nat.le_refl _) _
  have kB := GtAt.below kA bB
  have rB := rA.alloc (.cells #[.int .i64 0, .int .i64 0, .int .i64 0, .int .i64 0, .bool false, .int .u64 0, .int .i64 0, .int .i64 0, .int .i64 0, .int .i64 0, .int .i64 0, .int .u64 0, .int .u64 0, .int .u64 0, .int .u64 0, .int .u64 0, .int .u64 0, .int .i64 0, .slice none 0 0, .slice none 0 0, .slice none 0 0, .int .i64 0, .int .i64 0, .int .i64 0, .bool false, .int .u64 0, .slice none 0 0, .int .i64 0, .int .i64 0, .int .u64 0, .int .u64 0, .int .u64 0, .int .u64 0, .int .u64 0, .int .u64 0, .int .i64 0, .slice none 0 0, .slice none 0 0] 57)
  have vB := Blk.new wA #[.int .i64 0, .int .i64 0, .int .i64 0, .int .i64 0, .bool false, .int .u64 0, .int .i64 0, .int .i64 0, .int .i64 0, .int .i64 0, .int .i64 0, .int .u64 0, .int .u64 0, .int .u64 0, .int .u64 0, .int .u64 0, .int .u64 0, .int .i64 0, .slice none 0 0, .slice none 0 0, .slice none 0 0, .int .i64 0, .int .i64 0, .int .i64 0, .bool false, .int .u64 0, .slice none 0 0, .int .i64 0, .int .i64 0, .int .u64 0, .int .u64 0, .int .u64 0, .int .u64 0, .int .u64 0, .int .u64 0, .int .i64 0, .slice none 0 0, .slice none 0 0] 57
  have BB := BA.trans (But.of_below (S := fun k => k = gb) bB)
  clear kA rA BA bB
  generalize wA.alloc (.cells #[.int .i64 0, .int .i64 0, .int .i64 0, .int .i64 0, .bool false, .int .u64 0, .int .i64 0, .int .i64 0, .int .i64 0, .int .i64 0, .int .i64 0, .int .u64 0, .int .u64 0, .int .u64 0, .int .u64 0, .int .u64 0, .int .u64 0, .int .i64 0, .slice none 0 0, .slice none 0 0, .slice none 0 0, .int .i64 0, .int .i64 0, .int .i64 0, .bool false, .int .u64 0, .slice none 0 0, .int .i64 0, .int .i64 0, .int .u64 0, .int .u64 0, .int .u64 0, .int .u64 0, .int .u64 0, .int .u64 0, .int .i64 0, .slice none 0 0, .slice none 0 0] 57) = wB at *
  simp only [zA] at vB ⊢
  refine wpList_store_mid rfl 57 _ _ rfl (w.heap.size + 1) 0 RZ rfl rfl (vB.there 38 (by decide)) (by kernel_rfl) RZ_one' ?_
  refine wpList_nil ?_
  simp only [Exit.then, Act.put]
  have vB' : Blk wB (w.heap.size + 1) RZ 57 := vB
  have v0 := Blk.setCells RZ.toList 0 wB RZ vB'
  rw [sets_RZ] at v0
  clear vB'
  have hBt := but_setCells (w.heap.size + 1) RZ.toList 0 wB
  have r0 := hBt.blk rB (by omega)
  have k0 : GtAt (wB.setCells (w.heap.size + 1) 0 RZ.toList) gb B a0 := hBt.blk kB (by omega)
  have B0 := BB.trans_new hBt (fun q hq hs => by omega)
  clear hBt rB kB BB vB
  generalize wB.setCells (w.heap.size + 1) 0 RZ.toList = w0 at *
  go_wp2_with fail
  refine (num_any gb B a0 1 _ w0 k0 (by omega) (by omega) D0 hL).mono ?_
  rintro e x0 ⟨rfl, g0, D1, b0⟩
  have v0' := b0.blk v0 (by omega)
  have r0' := b0.blk r0 (by omega)
  have c0 : x0.cell? ⟨w.heap.size + 1, 0, none⟩ = some (.int .i64 0) := v0'.cell 0
  have f0 := v0'.frozen 0
  have z0 := v0'.lt
  have v1 := v0'.set 0 (.int .i64 1)
  have r1 := r0'.setOther ⟨w.heap.size + 1, 0, none⟩ (by show w.heap.size ≠ w.heap.size + 1; omega) (.int .i64 1)
  have k1 : GtAt (x0.setCell ⟨w.heap.size + 1, 0, none⟩ (.int .i64 1)) gb B _ := Blk.setOther g0 ⟨w.heap.size + 1, 0, none⟩ (by show gb ≠ w.heap.size + 1; omega) (.int .i64 1)
  have B1 := B0.trans_new ((b0.mono (fun q hq => Or.inl hq)).trans (But.set (S := fun q => q = gb ∨ q = w.heap.size + 1) x0 (p := ⟨w.heap.size + 1, 0, none⟩) (.inr rfl) (.int .i64 1))) (fun q hq hs => by rcases hs with hs | hs <;> omega)
  clear b0 v0 r0 k0 g0 v0' r0' B0 D0
  go_upto_region 3 with fail
  generalize x0.setCell ⟨w.heap.size + 1, 0, none⟩ (.int .i64 1) = w1 at *
  clear c0 f0 z0
  have c0 : w1.cell? ⟨w.heap.size + 1, 0, none⟩ = some (.int .i64 1) := v1.cell 0
  have z1 := v1.lt
  have HD1 := show Hid (_ = _) from D1
  clear D1
  go_upto_region 4 with fail
  refine wp_region_list ?_
  refine wpList_plain rfl (fun K hK => ?_)
  go_simp
  refine hK _ _ ?_
  clear hK K
  refine wpList_on (by kernel_rfl) (fun K hK => ?_)
  go_simp
  refine (gvote_any gb B _ h rd sg has bl f r w1 k1 hh hrd hsg hbl hf HD1.out hL).mono ?_
  rintro e w2 ⟨rfl, ⟨a2, g2, D2⟩, b2⟩
  refine hK _ _ ?_
  clear hK K
  refine wpList_plain rfl (fun K hK => ?_)
  go_simp
  refine hK _ _ ?_
  clear hK K
  have HD2 := show Hid (_ = _) from D2
  clear D2 HD1 k1 c0 z1
  have v2 := b2.blk v1 (by omega)
  have r2 := b2.blk r1 (by omega)
  obtain ⟨C6, HC6⟩ : ∃ C : Array Value, Hid (C = #[.int .i64 h, .int .i64 rd, .int .i64 sg, .bool has, .int .u64 bl, .int .i64 f]) := ⟨_, rfl⟩
  rw [← HC6.out]
  have h6n : C6.size = 6 := by rw [HC6.out]; rfl
  have h61 : C6.all (·.oneCell') = true := by rw [HC6.out]; simp [Value.oneCell']
  refine wpList_store_mid rfl 31 _ _ rfl (w.heap.size + 1) 1 C6 rfl rfl (fun j hj => ⟨by rw [v2.cell]; have hz : RZ.size = 38 := rfl; simp [hz]; omega, v2.frozen (1 + j)⟩) (by rw [h6n]; kernel_rfl) h61 ?_
  refine wpList_nil ?_
  simp only [Exit.then]
  have v3 := Blk.setCells C6.toList 1 w2 _ v2
  have hBt := but_setCells (w.heap.size + 1) C6.toList 1 w2
  have r3 := hBt.blk r2 (by omega)
  have k3 : GtAt (w2.setCells (w.heap.size + 1) 1 C6.toList) gb B _ := hBt.blk g2 (by omega)
  have B3 := B1.trans_new ((b2.mono (fun q hq => Or.inl hq)).trans (hBt.mono (T := fun q => q = gb ∨ q = w.heap.size + 1) (fun q hq => Or.inr hq))) (fun q hq hs => by rcases hs with hs | hs <;> omega)
  generalize w2.setCells (w.heap.size + 1) 1 C6.toList = w3 at *
  have v3 : Blk w3 (w.heap.size + 1) (RC h rd sg has bl f) 57 := by
    rw [HC6.out] at v3
    rw [← sets_RC]
    exact v3
  clear v2 r2 g2 b2 hBt v1 r1 B1 h61 h6n
  have c0 : w3.cell? ⟨w.heap.size + 1, 0, none⟩ = some (.int .i64 1) := v3.cell 0
  have z1 := v3.lt
  have hCn := RC_size' h rd sg has bl f
  have hC1 := RC_one h rd sg has bl f
  obtain ⟨C, HC⟩ : ∃ C, Hid (C = RC h rd sg has bl f) := ⟨_, rfl⟩
  rw [← HC.out] at hCn hC1 v3
  go_upto_region 9 with fail
  refine wp_region_list ?_
  refine wpList_load_whole (by kernel_rfl) 57 _ rfl (w.heap.size + 1) rfl C _ _ v3 Tryz.underlying57 rfl (by rw [hCn]; kernel_rfl) ?_
  refine wpList_store_mid rfl 57 _ _ rfl w.heap.size 0 C rfl rfl (r3.there C.size (by rw [hCn]; decide)) (by rw [hCn]; kernel_rfl) hC1 ?_
  refine wpList_nil ?_
  simp only [Exit.then]
  have hR := World.rangeAt_setCells_same w3 w.heap.size 0 C.toList (r3.there _ (by rw [Array.length_toList, hCn]; decide))
  have hBt := but_setCells w.heap.size C.toList 0 w3
  have kG : GtAt (w3.setCells w.heap.size 0 C.toList) gb B _ := hBt.blk k3 (by omega)
  have B7 := B3.trans_new hBt (fun q hq hs => by omega)
  generalize w3.setCells w.heap.size 0 C.toList = w11 at *
  have hld := run_loadVar_mid (P := Tryz.prog) w11 w.heap.size 0 57 C.toList _ hR Tryz.underlying57 rfl (by rw [Array.length_toList, hCn]; kernel_rfl)
  rw [Array.toArray_toList] at hld
  go_wp2
  refine bodyPost_ret (v := .agg C) ?_ rfl ⟨by rw [HC.out], ⟨_, kG, HD2.out⟩, B7⟩
  simp [results, Tryz.results30, asAddr, hld, Act.put]

set_option maxHeartbeats 800000 in
theorem gend_any (gb : Nat) (B : List UInt8) (a : Nat) (w : World) (k : GtAt w gb B a) (ha : B.drop a = []) (hL : B.length ≤ 1099511626000) :
    Calls Tryz.prog 31 #[.pointer (some ⟨gb, 0, none⟩), .int .i64 0] w fun e w' => e = .returned (.int .i64 0) ∧ But (fun k => k = gb) w w' := by
  have k' : Blk w gb #[.string ⟨B.toArray⟩, .int .i64 a, .int .i64 0] 80 := k
  have c0 := (k'.cell 0).trans rfl
  have c1 := (k'.cell 1).trans rfl
  have c2 := (k'.cell 2).trans rfl
  have zb := k'.lt
  have sz := str_size' B
  have hle : B.length ≤ a := by have := congrArg List.length ha; rw [List.length_drop] at this; simp at this; omega
  have hng : ¬ (a : Int) < (B.length : Int) := by omega
  clear ha
  go_enter Tryz.func31, Tryz.ntmps31
  go_wp2_with fail
  go_quiet (fail)
  have bq := below_drewN (Below.refl w.heap.size w) nq
  have k1 := k'.below bq zb
  generalize w.drewN nq = wa at *
  clear c0 c1 c2
  have c2 := (k1.cell 2).trans rfl
  have f2 := k1.frozen 2
  have za := k1.lt
  have k2 : Blk (wa.setCell ⟨gb, 2, none⟩ (.int .i64 0)) gb #[.string ⟨B.toArray⟩, .int .i64 a, .int .i64 0] 80 := k1.set 2 (.int .i64 0)
  have d2 := (k2.cell 2).trans rfl
  have zc := k2.lt
  have B2 : But (fun k => k = gb) w (wa.setCell ⟨gb, 2, none⟩ (.int .i64 0)) := (But.of_below bq).trans (but_set wa gb 2 _)
  go_upto_region 5 with fail
  generalize wa.setCell ⟨gb, 2, none⟩ (.int .i64 0) = wb at *
  go_wp2
  go_ret
  exact ⟨rfl, B2⟩

set_option maxRecDepth 8000 in
set_option maxHeartbeats 3200000 in
/-- GetRecord of the answer: KP: what its PutRecord says of it. -/
theorem rgetRecord_v (h rd sg : Int) (has : Bool) (bl f : Int) (w : World) (hh : 0 ≤ h ∧ h ≤ 1099511627775) (hrd : 0 ≤ rd ∧ rd ≤ 1099511627775) (hsg : 0 ≤ sg ∧ sg ≤ 1099511627775) (hbl : 0 ≤ bl ∧ bl ≤ 18446744073709551615) (hf : 0 ≤ f ∧ f ≤ 1099511627775) (S : ByteArray)
    (KP : ∀ w', Calls Tryz.prog 24 #[.agg (RC h rd sg has bl f)] w' fun e w'' => e = .returned (.tuple #[.string S, .int .i64 0]) ∧ Below w'.heap.size w' w'') :
    Calls Tryz.prog 23 #[.string ⟨(recBy h rd sg has bl f).toArray⟩] w fun e w' => e = .returned (.tuple #[.agg (RC h rd sg has bl f), .int .i64 0]) ∧ Below w.heap.size w w' := by
  have hBl : (recBy h rd sg has bl f).length ≤ 1000 := by
    have h1 := numB_len 1
    have h2 := numB_len f
    have h3 := encs_len [(0, h), (0, rd), (0, sg)]
    have h4 := be_len bl 8
    simp only [recBy, voteBy, List.length_append, flagB, List.length_cons, List.length_nil] at *
    omega
  have KR := fun (gb : Nat) (w' : World) (k : GtAt w' gb (recBy h rd sg has bl f) 0) => grecord_any gb (recBy h rd sg has bl f) 0 h rd sg has bl f [] w' k hh hrd hsg hbl hf (by simp) (by omega)
  have hCn := RC_size' h rd sg has bl f
  have hC1 := RC_one h rd sg has bl f
  obtain ⟨C, HC⟩ : ∃ C, Hid (C = RC h rd sg has bl f) := ⟨_, rfl⟩
  rw [← HC.out] at hCn hC1 KP KR
  obtain ⟨B, HB⟩ : ∃ B, Hid (B = recBy h rd sg has bl f) := ⟨_, rfl⟩
  rw [← HB.out] at hBl KR ⊢
  have bA : Below w.heap.size w ((w.alloc (.cells #[.int .i64 0, .int .i64 0, .int .i64 0, .int .i64 0, .bool false, .int .u64 0, .int .i64 0, .int .i64 0, .int .i64 0, .int .i64 0, .int .i64 0, .int .u64 0, .int .u64 0, .int .u64 0, .int .u64 0, .int .u64 0, .int .u64 0, .int .i64 0, .slice none 0 0, .slice none 0 0, .slice none 0 0, .int .i64 0, .int .i64 0, .int .i64 0, .bool false, .int .u64 0, .slice none 0 0, .int .i64 0, .int .i64 0, .int .u64 0, .int .u64 0, .int .u64 0, .int .u64 0, .int .u64 0, .int .u64 0, .int .i64 0, .slice none 0 0, .slice none 0 0] 57)).alloc (.cells #[.string ⟨B.toArray⟩, .int .i64 0, .int .i64 0] 80)) := ((Below.refl _ _).alloc (Nat.le_refl _) _).alloc (by simp) _
  have rA := (Blk.new w #[.int .i64 0, .int .i64 0, .int .i64 0, .int .i64 0, .bool false, .int .u64 0, .int .i64 0, .int .i64 0, .int .i64 0, .int .i64 0, .int .i64 0, .int .u64 0, .int .u64 0, .int .u64 0, .int .u64 0, .int .u64 0, .int .u64 0, .int .i64 0, .slice none 0 0, .slice none 0 0, .slice none 0 0, .int .i64 0, .int .i64 0, .int .i64 0, .bool false, .int .u64 0, .slice none 0 0, .int .i64 0, .int .i64 0, .int .u64 0, .int .u64 0, .int .u64 0, .int .u64 0, .int .u64 0, .int .u64 0, .int .i64 0, .slice none 0 0, .slice none 0 0] 57).alloc (.cells #[.string ⟨B.toArray⟩, .int .i64 0, .int .i64 0] 80)
  have gA := Blk.new (w.alloc (.cells #[.int .i64 0, .int .i64 0, .int .i64 0, .int .i64 0, .bool false, .int .u64 0, .int .i64 0, .int .i64 0, .int .i64 0, .int .i64 0, .int .i64 0, .int .u64 0, .int .u64 0, .int .u64 0, .int .u64 0, .int .u64 0, .int .u64 0, .int .i64 0, .slice none 0 0, .slice none 0 0, .slice none 0 0, .int .i64 0, .int .i64 0, .int .i64 0, .bool false, .int .u64 0, .slice none 0 0, .int .i64 0, .int .i64 0, .int .u64 0, .int .u64 0, .int .u64 0, .int .u64 0, .int .u64 0, .int .u64 0, .int .i64 0, .slice none 0 0, .slice none 0 0] 57)) #[.string ⟨B.toArray⟩, .int .i64 0, .int .i64 0] 80
  rw [World.size_alloc] at gA
  go_enter Tryz.func23, Tryz.ntmps23
  go_upto_region 2 with fail
  generalize (w.alloc (.cells #[.int .i64 0, .int .i64 0, .int .i64 0, .int .i64 0, .bool false, .int .u64 0, .int .i64 0, .int .i64 0, .int .i64 0, .int .i64 0, .int .i64 0, .int .u64 0, .int .u64 0, .int .u64 0, .int .u64 0, .int .u64 0, .int .u64 0, .int .i64 0, .slice none 0 0, .slice none 0 0, .slice none 0 0, .int .i64 0, .int .i64 0, .int .i64 0, .bool false, .int .u64 0, .slice none 0 0, .int .i64 0, .int .i64 0, .int .u64 0, .int .u64 0, .int .u64 0, .int .u64 0, .int .u64 0, .int .u64 0, .int .i64 0, .slice none 0 0, .slice none 0 0] 57)).alloc (.cells #[.string ⟨B.toArray⟩, .int .i64 0, .int .i64 0] 80) = wA at *
  refine wp_region_list ?_
  refine wpList_plain rfl (fun K hK => ?_)
  go_simp
  refine hK _ _ ?_
  clear hK K
  refine wpList_on (by kernel_rfl) (fun K hK => ?_)
  go_simp
  refine (KR (w.heap.size + 1) wA gA).mono ?_
  rintro e w1 ⟨rfl, ⟨a1, g1, D1⟩, b1⟩
  refine hK _ _ ?_
  clear hK K
  refine wpList_plain rfl (fun K hK => ?_)
  go_simp
  refine hK _ _ ?_
  clear hK K
  have r1 := (b1.blk rA (by omega)).alloc (.cells #[.int .i64 0, .int .i64 0, .int .i64 0, .int .i64 0, .bool false, .int .u64 0, .int .i64 0, .int .i64 0, .int .i64 0, .int .i64 0, .int .i64 0, .int .u64 0, .int .u64 0, .int .u64 0, .int .u64 0, .int .u64 0, .int .u64 0, .int .i64 0, .slice none 0 0, .slice none 0 0, .slice none 0 0, .int .i64 0, .int .i64 0, .int .i64 0, .bool false, .int .u64 0, .slice none 0 0, .int .i64 0, .int .i64 0, .int .u64 0, .int .u64 0, .int .u64 0, .int .u64 0, .int .u64 0, .int .u64 0, .int .i64 0, .slice none 0 0, .slice none 0 0] 57)
  have g2 := g1.below ((Below.refl _ _).alloc (Nat.le_refl _) (.cells #[.int .i64 0, .int .i64 0, .int .i64 0, .int .i64 0, .bool false, .int .u64 0, .int .i64 0, .int .i64 0, .int .i64 0, .int .i64 0, .int .i64 0, .int .u64 0, .int .u64 0, .int .u64 0, .int .u64 0, .int .u64 0, .int .u64 0, .int .i64 0, .slice none 0 0, .slice none 0 0, .slice none 0 0, .int .i64 0, .int .i64 0, .int .i64 0, .bool false, .int .u64 0, .slice none 0 0, .int .i64 0, .int .i64 0, .int .u64 0, .int .u64 0, .int .u64 0, .int .u64 0, .int .u64 0, .int .u64 0, .int .i64 0, .slice none 0 0, .slice none 0 0] 57))
  have vN := Blk.new w1 #[.int .i64 0, .int .i64 0, .int .i64 0, .int .i64 0, .bool false, .int .u64 0, .int .i64 0, .int .i64 0, .int .i64 0, .int .i64 0, .int .i64 0, .int .u64 0, .int .u64 0, .int .u64 0, .int .u64 0, .int .u64 0, .int .u64 0, .int .i64 0, .slice none 0 0, .slice none 0 0, .slice none 0 0, .int .i64 0, .int .i64 0, .int .i64 0, .bool false, .int .u64 0, .slice none 0 0, .int .i64 0, .int .i64 0, .int .u64 0, .int .u64 0, .int .u64 0, .int .u64 0, .int .u64 0, .int .u64 0, .int .i64 0, .slice none 0 0, .slice none 0 0] 57
  have hz1 := b1.size
  have hzA := gA.lt
  have B1 : Below w.heap.size wA w1 := b1.below bA.size (fun k hk => by omega)
  have B2 := (bA.trans B1).alloc (bA.trans B1).size (.cells #[.int .i64 0, .int .i64 0, .int .i64 0, .int .i64 0, .bool false, .int .u64 0, .int .i64 0, .int .i64 0, .int .i64 0, .int .i64 0, .int .i64 0, .int .u64 0, .int .u64 0, .int .u64 0, .int .u64 0, .int .u64 0, .int .u64 0, .int .i64 0, .slice none 0 0, .slice none 0 0, .slice none 0 0, .int .i64 0, .int .i64 0, .int .i64 0, .bool false, .int .u64 0, .slice none 0 0, .int .i64 0, .int .i64 0, .int .u64 0, .int .u64 0, .int .u64 0, .int .u64 0, .int .u64 0, .int .u64 0, .int .i64 0, .slice none 0 0, .slice none 0 0] 57)
  clear b1 rA gA g1 bA B1 KR
  generalize w1.alloc (.cells #[.int .i64 0, .int .i64 0, .int .i64 0, .int .i64 0, .bool false, .int .u64 0, .int .i64 0, .int .i64 0, .int .i64 0, .int .i64 0, .int .i64 0, .int .u64 0, .int .u64 0, .int .u64 0, .int .u64 0, .int .u64 0, .int .u64 0, .int .i64 0, .slice none 0 0, .slice none 0 0, .slice none 0 0, .int .i64 0, .int .i64 0, .int .i64 0, .bool false, .int .u64 0, .slice none 0 0, .int .i64 0, .int .i64 0, .int .u64 0, .int .u64 0, .int .u64 0, .int .u64 0, .int .u64 0, .int .u64 0, .int .i64 0, .slice none 0 0, .slice none 0 0] 57) = w2 at *
  obtain ⟨nb, hnb⟩ : ∃ nb, w1.heap.size = nb := ⟨_, rfl⟩
  simp only [hnb] at vN hz1 ⊢
  refine wpList_store_mid rfl 57 _ _ rfl nb 0 C rfl rfl (vN.there C.size (by rw [hCn]; decide)) (by rw [hCn]; kernel_rfl) hC1 ?_
  refine wpList_nil ?_
  simp only [Exit.then, Act.put]
  have hR4 := World.rangeAt_setCells_same w2 nb 0 C.toList (vN.there _ (by rw [Array.length_toList, hCn]; decide))
  have hBt := but_setCells nb C.toList 0 w2
  have r3 := hBt.blk r1 (by omega)
  have g3 : GtAt (w2.setCells nb 0 C.toList) (w.heap.size + 1) B a1 := hBt.blk g2 (by omega)
  have B3 := B2.trans (hBt.below (B := w.heap.size) B2.size (fun k hk => by omega))
  clear hBt r1 g2 B2 vN
  generalize w2.setCells nb 0 C.toList = w3 at *
  have HD := show Hid (_ = _) from D1
  clear D1
  go_upto_region 3 with fail
  refine wp_region_list ?_
  refine wpList_load_mid rfl 57 _ rfl nb 0 rfl C.toList _ hR4 Tryz.underlying57 rfl (by rw [Array.length_toList, hCn]; kernel_rfl) ?_
  rw [Array.toArray_toList]
  refine wpList_on (by kernel_rfl) (fun K hK => ?_)
  go_simp
  refine (KP w3).mono ?_
  rintro e w4 ⟨rfl, b4⟩
  refine hK _ _ ?_
  clear hK K
  refine wpList_plain rfl (fun K hK => ?_)
  go_simp
  refine hK _ _ ?_
  clear hK K
  refine wpList_plain rfl (fun K hK => ?_)
  go_simp
  refine hK _ _ ?_
  clear hK K
  refine wpList_plain rfl (fun K hK => ?_)
  go_simp
  refine hK _ _ ?_
  clear hK K
  refine wpList_plain rfl (fun K hK => ?_)
  go_simp
  refine hK _ _ ?_
  clear hK K
  refine wpList_plain rfl (fun K hK => ?_)
  go_simp
  refine hK _ _ ?_
  clear hK K
  refine wpList_nil ?_
  simp only [Exit.then]
  have r4 := r3.below b4 r3.lt
  have g4 := g3.below b4
  have hz3 := r3.lt
  have hz4 := b4.size
  have hR5 : w4.rangeAt nb 0 C.toList := fun j v hv => by
    have hlt := World.block_lt_of_cell? _ _ (hR4 j v hv)
    rw [b4.cell (p := ⟨nb, 0 + j, none⟩) hlt]
    exact hR4 j v hv
  have B4 := B3.trans (b4.mono B3.size)
  clear r3 g3 b4 B3 hR4 KP
  go_wp2_with fail
  refine (gend_any (w.heap.size + 1) B a1 w4 g4 HD.out (by omega)).mono ?_
  rintro e w5 ⟨rfl, b5⟩
  have r5 := b5.blk r4 (by omega)
  have hR6 : w5.rangeAt nb 0 C.toList := fun j v hv => by
    have hlt := World.block_lt_of_cell? _ _ (hR5 j v hv)
    rw [b5.cell (p := ⟨nb, 0 + j, none⟩) hlt (by show ¬ nb = w.heap.size + 1; omega)]
    exact hR5 j v hv
  have B5 := B4.trans (b5.below (B := w.heap.size) B4.size (fun k hk => by omega))
  clear r4 hR5 b5 B4 g4
  go_upto_region 7 with fail
  refine wp_region_list ?_
  refine wpList_load_mid rfl 57 _ rfl nb 0 rfl C.toList _ hR6 Tryz.underlying57 rfl (by rw [Array.length_toList, hCn]; kernel_rfl) ?_
  rw [Array.toArray_toList]
  refine wpList_plain rfl (fun K hK => ?_)
  go_simp
  refine hK _ _ ?_
  clear hK K
  refine wpList_store_mid rfl 57 _ _ rfl w.heap.size 0 C rfl rfl (r5.there C.size (by rw [hCn]; decide)) (by rw [hCn]; kernel_rfl) hC1 ?_
  refine wpList_plain rfl (fun K hK => ?_)
  go_simp
  refine hK _ _ ?_
  clear hK K
  refine wpList_nil ?_
  simp only [Exit.then]
  have hR := World.rangeAt_setCells_same w5 w.heap.size 0 C.toList (r5.there _ (by rw [Array.length_toList, hCn]; decide))
  have hB := (but_setCells w.heap.size C.toList 0 w5).below (B := w.heap.size) B5.size (fun k hk => by omega)
  generalize w5.setCells w.heap.size 0 C.toList = w11 at *
  have hld := run_loadVar_mid (P := Tryz.prog) w11 w.heap.size 0 57 C.toList _ hR Tryz.underlying57 rfl (by rw [Array.length_toList, hCn]; kernel_rfl)
  rw [Array.toArray_toList] at hld
  go_wp2
  exact bodyPost_ret (v := .tuple #[.agg C, .int .i64 0]) (by simp [results, Tryz.results23, asAddr, hld]) rfl ⟨by rw [HC.out], B5.trans hB⟩
end Go.Proofs.YtaifkidpdmhciaaGreat
