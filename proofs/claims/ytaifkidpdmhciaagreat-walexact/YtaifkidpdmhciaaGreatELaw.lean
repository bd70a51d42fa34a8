/- WalExact: the law. -/
import Derived.Test.YtaifkidpdmhciaaGreatM50
import Derived.Test.YtaifkidpdmhciaaGreatM09
import Derived.Deep.RegionHeld3
import Derived.Deep.CutBlock
import Derived.BigQuiet
namespace Go.Proofs.YtaifkidpdmhciaaGreat
open Go.RowKit
set_option linter.unusedVariables false
set_option linter.unusedSimpArgs false

theorem wpList_store_newE {P : Program} {ops : Array Oper} {rest : List Oper} {op : Oper} {a : Act} {w : World} {Q : Exit → Act → World → Prop} (hgd : op.guard = none) (ty : TypeId) (x y : Operand) (ho : op.op = .store ty x y) (c c' : Array Value)
    (hx : a.eval x = .pointer (some ⟨w.heap.size, 0, none⟩)) (hy : a.eval y = .agg c') (hi : (P.info? ty).map (·.size) = some c'.size) (hs : c.size = c'.size) (h1 : c'.all (·.oneCell') = true)
    (h : wpList P ops Q rest (a.put op.dst undef) (w.alloc (.cells c' ty))) : wpList P ops Q (op :: rest) a (w.alloc (.cells c ty)) :=
  wpList_plain hgd fun K hK => by
    unfold Oper.wp execOp
    simp only [ho, hx, hy, Instr.storeAt, Instr.sureAddr, Sem.run_bind, Sem.run_pure, Result.andThen_ok, run_storeVar_new w ty c c' hi hs h1]
    exact hK _ _ h

theorem Bo.lt {w0 w : World} {lb rb i : Nat} (h : Bo w0 w lb rb i) : lb < w.heap.size ∧ rb < w.heap.size := by
  obtain ⟨A, n, sf, dn, lf, kp, lf', kp', H, hi⟩ := h
  exact ⟨H.log.lt, H.rlog.lt⟩
theorem bo_start (w : World) : Bo w ((w.alloc (.cells #[.slice none 0 0, .int .i64 0, .bool false, .int .i64 0, .int .i64 0] 65)).alloc (.cells #[.string ⟨#[]⟩, .int .i64 0, .int .i64 0, .int .i64 0, .bool false] 27)) w.heap.size (w.heap.size + 1) 0 := by
  have k1 := (Blk.new w #[.slice none 0 0, .int .i64 0, .bool false, .int .i64 0, .int .i64 0] 65).alloc (.cells #[.string ⟨#[]⟩, .int .i64 0, .int .i64 0, .int .i64 0, .bool false] 27)
  have k2 := Blk.new (w.alloc (.cells #[.slice none 0 0, .int .i64 0, .bool false, .int .i64 0, .int .i64 0] 65)) #[.string ⟨#[]⟩, .int .i64 0, .int .i64 0, .int .i64 0, .bool false] 27
  rw [World.size_alloc] at k2
  refine ⟨[], 0, 0, false, 0, 0, 0, 0, ⟨⟨.slice none 0 0, k1, World.ownsRow_nil _ _ _ _⟩, k2, Nat.zero_le _, Nat.le_refl _, fun _ => rfl, inN0, inN0, inN0, rfl, fun _ => rfl, (fun a ha => by cases ha), by simp, ((Below.refl _ _).alloc (Nat.le_refl _) _).alloc (by simp) _, Nat.le_refl _, by omega, by omega⟩, Nat.le_refl _⟩
theorem Bo.other {w0 w w1 : World} {lb rb i cb : Nat} {cs : Array Value} {t : TypeId} (h : Bo w0 w lb rb i) (hb : But (fun k => k = cb) w w1) (kC : Blk w cb cs t) (ht : t ≠ 5) (h1 : cb ≠ lb) (h2 : cb ≠ rb) (h0 : w0.heap.size ≤ cb) : Bo w0 w1 lb rb i := by
  obtain ⟨A, n, sf, dn, lf, kp, lf', kp', H, hi⟩ := h
  obtain ⟨v, k1, k2⟩ := H.log
  exact ⟨A, n, sf, dn, lf, kp, lf', kp', { H with log := ⟨v, hb.blk k1 (Ne.symm h1), hb.owns k2 (fun g hg e => owns_ne k2 kC ht (by rw [hg, show g = cb from e]))⟩, rlog := hb.blk H.rlog (Ne.symm h2), bel := but_bel H.bel hb h0 }, hi⟩

set_option maxRecDepth 20000 in
set_option maxHeartbeats 12800000 in
theorem exact_any (la : Option Addr) (ca : Nat) (ls : List Sp) (w : World) (hl : ls.length ≤ maxLen) (hin : ∀ x ∈ ls, x.In) (hS : StepsAt w la ls) :
    Calls Tryz.prog 3 #[.slice la ls.length ca] w fun e w' => e = .returned (.bool true) ∧ Below w.heap.size w w' := by
  unfold maxLen at hl
  by_cases hg : 512 < ls.length
  · have g1 : (512 : Int) < (ls.length : Int) := by omega
    go_enter Tryz.func3, Tryz.ntmps3
    go_wp2
    go_ret
    exact ⟨rfl, Below.refl _ _⟩
  have g1 : ¬ (512 : Int) < (ls.length : Int) := by omega
  have W0 := bo_start w
  go_enter Tryz.func3, Tryz.ntmps3
  go_wp2_with fail
  refine (walNew_any w).mono ?_
  rintro e w1 ⟨rfl, rfl⟩
  go_wp2_with fail
  generalize (w.alloc (.cells #[.slice none 0 0, .int .i64 0, .bool false, .int .i64 0, .int .i64 0] 65)).alloc (.cells #[.string ⟨#[]⟩, .int .i64 0, .int .i64 0, .int .i64 0, .bool false] 27) = w0 at *
  obtain ⟨lb, hlb⟩ : ∃ lb, w.heap.size = lb := ⟨_, rfl⟩
  obtain ⟨rb, hrb⟩ : ∃ rb, lb + 1 = rb := ⟨_, rfl⟩
  rw [hlb, hrb] at W0
  simp only [hlb, hrb]
  have HLB := show Hid (_ = _ ∧ _ = _) from ⟨hlb, hrb⟩
  clear hlb hrb
  go_loopw [5] (fun iv w2 => ∃ (i : Nat), i ≤ ls.length ∧ iv = .int .i64 i ∧ Bo w w2 lb rb i) (fun iv _ => ls.length - (intOf iv).toNat)
  case atStart => exact ⟨0, Nat.zero_le _, rfl, W0⟩
  case round =>
    obtain ⟨i, hi, rfl, W⟩ := hrel
    clear W0
    by_cases hlt : i < ls.length
    · have hlt' : (i : Int) < (ls.length : Int) := by omega
      obtain ⟨sb, so, e, hsb, q0, q1, q2, q3, q4, q5, q6, q7, q8⟩ := hS.one W.bel hlt
      subst e
      have hI := hin _ (List.getElem_mem hlt)
      generalize ls[i] = x at *
      have HS := show Hid (_) from hS
      clear hS
      have bA : Below wr.heap.size wr (wr.alloc (.cells #[.int .i64 x.k, .int .i64 x.a, .int .i64 x.b, .int .i64 x.h, .int .i64 x.r, .int .i64 x.s, .bool x.has, .int .u64 x.bl, .int .i64 x.f] 33)) := (Below.refl _ _).alloc (Nat.le_refl _) _
      have kS := Blk.new wr #[.int .i64 x.k, .int .i64 x.a, .int .i64 x.b, .int .i64 x.h, .int .i64 x.r, .int .i64 x.s, .bool x.has, .int .u64 x.bl, .int .i64 x.f] 33
      have W1 := W.next bA
      have hlt2 := W.lt
      clear bA W
      go_upto_region 10 with fail
      generalize wr.alloc (.cells #[.int .i64 x.k, .int .i64 x.a, .int .i64 x.b, .int .i64 x.h, .int .i64 x.r, .int .i64 x.s, .bool x.has, .int .u64 x.bl, .int .i64 x.f] 33) = w1 at *
      generalize wr.heap.size = tb at *
      clear q0 q1 q2 q3 q4 q5 q6 q7 q8 hsb
      have y0 := (kS.cell 0).trans rfl
      have y1 := (kS.cell 1).trans rfl
      have y2 := (kS.cell 2).trans rfl
      have y3 := (kS.cell 3).trans rfl
      have y4 := (kS.cell 4).trans rfl
      have y5 := (kS.cell 5).trans rfl
      have y6 := (kS.cell 6).trans rfl
      have y7 := (kS.cell 7).trans rfl
      have y8 := (kS.cell 8).trans rfl
      have zS := kS.lt
      go_wp2_with fail
      refine (pick_fn x.k 8 w1 hI.1 (by omega)).mono ?_
      rintro e w1' ⟨rfl, rfl⟩
      have hpb := pickP_bd x.k 8 (by omega)
      generalize pickP x.k 8 = p at *
      go_upto_block 2 with fail
      go_cut [7, 8, 9, 10, 31] (fun v _ _ _ _ wx => v = .bool true ∧ Bo w wx lb rb (i + 1))
      case first =>
        by_cases hp : p = 1
        · have p1 : (p == 1) = true := by simp [hp]
          go_wp2_with fail
          refine W1.sync.mono ?_
          rintro e w2 ⟨E, rfl, hT⟩
          clear W1
          go_wp2_with fail
          refine hT.mono ?_
          rintro e w3 ⟨rfl, W3⟩
          clear hT
          go_wp2_with fail
          go_meet
          case rel => exact ⟨rfl, W3.more (by omega)⟩
        by_cases hp2 : p = 2
        · have p1 : (p == 1) = false := by simp; omega
          have p2 : (p == 2) = true := by simp [hp2]
          go_wp2_with fail
          refine (W1.arm x.a x.b hI.2.1 hI.2.2.1).mono ?_
          rintro e w2 ⟨⟨rfl, hT⟩, K2⟩
          have k2 := kS.kp K2 (by omega)
          clear W1 y0 y1 y2 y3 y4 y5 y6 y7 y8 zS kS K2
          have y1 := (k2.cell 1).trans rfl
          have y2 := (k2.cell 2).trans rfl
          have zS := k2.lt
          go_wp2_with fail
          refine hT.mono ?_
          rintro e w3 ⟨rfl, W3⟩
          clear hT
          go_wp2_with fail
          go_meet
          case rel => exact ⟨rfl, W3.more (by omega)⟩
        by_cases hp3 : p = 3
        · have p1 : (p == 1) = false := by simp; omega
          have p2 : (p == 2) = false := by simp; omega
          have p3 : (p == 3) = true := by simp [hp3]
          go_wp2_with fail
          refine (W1.die x.a hI.2.1).mono ?_
          rintro e w2 ⟨⟨rfl, hT⟩, K2⟩
          have k2 := kS.kp K2 (by omega)
          clear W1 y0 y1 y2 y3 y4 y5 y6 y7 y8 zS kS K2
          have y1 := (k2.cell 1).trans rfl
          have zS := k2.lt
          go_wp2_with fail
          refine hT.mono ?_
          rintro e w3 ⟨rfl, W3⟩
          clear hT
          go_wp2_with fail
          go_meet
          case rel => exact ⟨rfl, W3.more (by omega)⟩
        by_cases hp4 : p = 4
        · have p1 : (p == 1) = false := by simp; omega
          have p2 : (p == 2) = false := by simp; omega
          have p3 : (p == 3) = false := by simp; omega
          have p4 : (p == 4) = true := by simp [hp4]
          go_wp2_with fail
          refine W1.begin.mono ?_
          rintro e w2 ⟨rv, rfl, hT⟩
          clear W1 y0 y1 y2 y3 y4 y5 y6 y7 y8 zS kS
          go_wp2_with fail
          refine hT.mono ?_
          rintro e w3 ⟨rv', A, rfl, o1, o2, hA, hlA, W3⟩
          clear hT
          have KS := sameRecords_any A hA hlA _ _ rv rv' w3 o1 o2
          clear o1 o2 hA hlA
          go_wp2_with fail
          refine KS.mono ?_
          rintro e w4 ⟨rfl, b4⟩
          have W4 := W3.next b4
          clear KS W3 b4
          go_wp2_with fail
          go_meet
          case rel => exact ⟨rfl, W4.more (by omega)⟩
        have p1 : (p == 1) = false := by simp; omega
        have p2 : (p == 2) = false := by simp; omega
        have p3 : (p == 3) = false := by simp; omega
        have p4 : (p == 4) = false := by simp; omega
        obtain ⟨C, HC⟩ : ∃ C, Hid (C = RC x.h x.r x.s x.has x.bl x.f) := ⟨_, rfl⟩
        have hCeq : (#[.int .i64 1, .int .i64 x.h, .int .i64 x.r, .int .i64 x.s, .bool x.has, .int .u64 x.bl, .int .i64 x.f, .int .i64 0, .int .i64 0, .int .i64 0, .int .i64 0, .int .u64 0, .int .u64 0, .int .u64 0, .int .u64 0, .int .u64 0, .int .u64 0, .int .i64 0, .slice none 0 0, .slice none 0 0, .slice none 0 0, .int .i64 0, .int .i64 0, .int .i64 0, .bool false, .int .u64 0, .slice none 0 0, .int .i64 0, .int .i64 0, .int .u64 0, .int .u64 0, .int .u64 0, .int .u64 0, .int .u64 0, .int .u64 0, .int .i64 0, .slice none 0 0, .slice none 0 0] : Array Value) = C := HC.out.symm
        have hCn : C.size = 38 := by rw [HC.out]; rfl
        have hC1 : C.all (·.oneCell') = true := by rw [HC.out]; exact RC_one _ _ _ _ _ _
        go_upto_region 11 with fail
        refine wp_region_list ?_
        refine wpList_plain rfl (fun K hK => ?_)
        go_simp
        refine hK _ _ ?_
        clear hK K
        refine wpList_plain rfl (fun K hK => ?_)
        go_simp
        refine hK _ _ ?_
        clear hK K
        refine wpList_plain rfl (fun K hK => ?_)
        go_simp
        try rw [hCeq]
        refine hK _ _ ?_
        clear hK K
        refine wpList_plain rfl (fun K hK => ?_)
        go_simp
        refine hK _ _ ?_
        clear hK K
        refine wpList_store_newE rfl 57 _ _ rfl RZ C rfl rfl (by rw [hCn]; kernel_rfl) (by rw [hCn]; rfl) hC1 ?_
        refine wpList_nil ?_
        simp only [Exit.then]
        have kC := Blk.new w1 C 57
        have bC : Below w1.heap.size w1 (w1.alloc (.cells C 57)) := (Below.refl _ _).alloc (Nat.le_refl _) _
        have W2 := W1.next bC
        have k2 := kS.below bC kS.lt
        have hz1 : tb < w1.heap.size := zS
        have hlt3 := W1.lt
        have hcb := W1.bel.size
        clear W1 kS y0 y1 y2 y3 y4 y5 y6 y7 y8 zS hCeq bC
        generalize w1.alloc (.cells C 57) = w2 at *
        generalize w1.heap.size = cb at *
        have y1 := (k2.cell 1).trans rfl
        have y2 := (k2.cell 2).trans rfl
        have zS := k2.lt
        have zC := kC.lt
        have z0 : w2.cell? ⟨cb, 0, none⟩ = some (.int .i64 1) := (kC.cell 0).trans (by rw [HC.out]; rfl)
        have f0 := kC.frozen 0
        go_wp2_with fail
        refine (pick_fn x.b 9 w2 hI.2.2.1 (by omega)).mono ?_
        rintro e w2' ⟨rfl, rfl⟩
        have hpb2 := pickP_bd x.b 9 (by omega)
        generalize pickP x.b 9 = p9 at *
        have IA : InN x.a ∧ InN x.h ∧ InN x.r ∧ InN x.s ∧ InD x.bl ∧ InN x.f := ⟨hI.2.1, hI.2.2.2.1, hI.2.2.2.2.1, hI.2.2.2.2.2.1, hI.2.2.2.2.2.2.1, hI.2.2.2.2.2.2.2⟩
        clear hI
        obtain ⟨v, Hv⟩ : ∃ v : Vk, Hid (v = ⟨x.h, x.r, x.s, x.has, x.bl, x.f⟩) := ⟨_, rfl⟩
        by_cases hp9 : p9 = 8
        · have p9e : (p9 == 8) = true := by simp [hp9]
          have HC3 : Hid (C.setIfInBounds 0 (.int .i64 x.a) = (recK x.a v).arr) := by show _ = _; rw [HC.out, Hv.out]; rfl
          have k3 := kC.set 0 (.int .i64 x.a)
          have W3 : Bo w (w2.setCell ⟨cb, 0, none⟩ (.int .i64 x.a)) lb rb i := W2.other (but_set w2 cb 0 _) kC (by decide) (by omega) (by omega) hcb
          have hk : InN x.a := IA.1
          clear W2 kC
          go_upto_region 14 with fail
          generalize w2.setCell ⟨cb, 0, none⟩ (.int .i64 x.a) = w3 at *
          generalize C.setIfInBounds 0 (.int .i64 x.a) = C3 at *
          have hC3n : C3.size = 38 := by rw [HC3.out]; rfl
          have W4 := W3.next ((Below.refl w3.heap.size w3).drew)
          have kd := k3.drew
          have KA := W4.append (by omega) x.a v hk (by rw [Hv.out]; exact IA.2.1) (by rw [Hv.out]; exact IA.2.2.1) (by rw [Hv.out]; exact IA.2.2.2.1) (by rw [Hv.out]; exact IA.2.2.2.2.1) (by rw [Hv.out]; exact IA.2.2.2.2.2)
          rw [← HC3.out] at KA
          clear W3 W4 k3 HC3 Hv hk
          refine wp_region_held (S := fun w' => Blk w' cb C3 57) (by kernel_rfl) ?_
          refine wpAnyH_take (i := 0) (v := ?_) rfl (by kernel_rfl) (by kernel_rfl) (by kernel_rfl) (fun _ _ _ h => h) (Or.inl ⟨by kernel_rfl, ?_⟩) (by assumption) ?_
          rotate_left
          · intro w' hSw
            go_simp
            first | (with_reducible rfl) | done | assumption | skip
          simp only [Act.put, List.getElem_toArray, List.getElem_cons_succ, List.getElem_cons_zero, List.setIfInBounds_toArray, List.set_cons_zero, List.set_cons_succ]
          refine wpAnyH_take (i := 1) (v := .agg C3.toList.toArray) rfl (by kernel_rfl) (by kernel_rfl) (by kernel_rfl) (fun _ _ _ h => h) (yieldsIf_load_mid (by kernel_rfl) 57 _ rfl cb 0 rfl C3.toList _ (fun w h => h.range) Tryz.underlying57 rfl (by rw [Array.length_toList, hC3n]; kernel_rfl)) (by assumption) ?_
          simp only [Act.put, List.getElem_toArray, List.getElem_cons_succ, List.getElem_cons_zero, List.setIfInBounds_toArray, List.set_cons_zero, List.set_cons_succ]
          simp only [Array.toArray_toList]
          refine wpAnyH_take (i := 3) (v := ?_) rfl (by kernel_rfl) (by kernel_rfl) (by kernel_rfl) (fun _ _ _ h => h) (Or.inl ⟨by kernel_rfl, ?_⟩) (by assumption) ?_
          rotate_left
          · intro w' hSw
            go_simp
            first | (with_reducible rfl) | done | assumption | skip
          simp only [Act.put, List.getElem_toArray, List.getElem_cons_succ, List.getElem_cons_zero, List.setIfInBounds_toArray, List.set_cons_zero, List.set_cons_succ]
          refine wpAnyH_take (i := 4) (v := .agg C3.toList.toArray) rfl (by kernel_rfl) (by kernel_rfl) (by kernel_rfl) (fun _ _ _ h => h) (yieldsIf_load_mid (by kernel_rfl) 57 _ rfl cb 0 rfl C3.toList _ (fun w h => h.range) Tryz.underlying57 rfl (by rw [Array.length_toList, hC3n]; kernel_rfl)) (by assumption) ?_
          simp only [Act.put, List.getElem_toArray, List.getElem_cons_succ, List.getElem_cons_zero, List.setIfInBounds_toArray, List.set_cons_zero, List.set_cons_succ]
          simp only [Array.toArray_toList]
          refine wpAnyH_ready (rs := [2]) (by kernel_rfl) (by simp) ?_
          refine AllReadyH.cons rfl (fun K hK => ?_) AllReadyH.nil
          go_simp
          refine KA.mono ?_
          rintro e w4 ⟨⟨E, rfl, hT⟩, K4⟩
          have k4 := kd.kp K4 (by omega)
          refine hK.out _ _ k4 (fun _ => ?_)
          clear hK K KA kd K4
          try simp only [Act.put, List.getElem_toArray, List.getElem_cons_succ, List.getElem_cons_zero, List.setIfInBounds_toArray, List.set_cons_zero, List.set_cons_succ]
          refine wpAnyH_ready (rs := [5]) (by kernel_rfl) (by simp) ?_
          refine AllReadyH.cons rfl (fun K hK => ?_) AllReadyH.nil
          go_simp
          refine hT.mono ?_
          rintro e w5 ⟨rfl, B5, W5⟩
          have k5 := B5.blk k4 (by omega)
          refine hK.out _ _ k5 (fun _ => ?_)
          clear hK K hT B5
          try simp only [Act.put, List.getElem_toArray, List.getElem_cons_succ, List.getElem_cons_zero, List.setIfInBounds_toArray, List.set_cons_zero, List.set_cons_succ]
          refine wpAnyH_take (i := 6) (v := .bool true) rfl (by kernel_rfl) (by kernel_rfl) (by kernel_rfl) (fun _ _ _ h => h) (Or.inl ⟨by kernel_rfl, ?_⟩) (by assumption) ?_
          · intro w' hSw
            go_simp
            first | (with_reducible rfl) | done | assumption | skip
          simp only [Act.put, List.getElem_toArray, List.getElem_cons_succ, List.getElem_cons_zero, List.setIfInBounds_toArray, List.set_cons_zero, List.set_cons_succ]
          refine wpAnyH_take (i := 7) (v := .bool true) rfl (by kernel_rfl) (by kernel_rfl) (by kernel_rfl) (fun _ _ _ h => h) (Or.inl ⟨by kernel_rfl, ?_⟩) (by assumption) ?_
          · intro w' hSw
            go_simp
            first | (with_reducible rfl) | done | assumption | skip
          simp only [Act.put, List.getElem_toArray, List.getElem_cons_succ, List.getElem_cons_zero, List.setIfInBounds_toArray, List.set_cons_zero, List.set_cons_succ]
          refine wpAnyH_done (by kernel_rfl) ?_ _
          go_wp2_with fail
          go_meet
          case rel => exact ⟨rfl, W5⟩
        · have p9e : (p9 == 8) = false := by simp; omega
          have HC3 : Hid (C = (recK 1 v).arr) := by show _ = _; rw [HC.out, Hv.out]; rfl
          have k3 := kC
          have W3 := W2
          have hk : InN 1 := by unfold InN; omega
          clear W2 kC
          go_upto_region 14 with fail
          generalize w2 = w3 at *
          generalize C = C3 at *
          have hC3n : C3.size = 38 := by rw [HC3.out]; rfl
          have W4 := W3.next ((Below.refl w3.heap.size w3).drew)
          have kd := k3.drew
          have KA := W4.append (by omega) 1 v hk (by rw [Hv.out]; exact IA.2.1) (by rw [Hv.out]; exact IA.2.2.1) (by rw [Hv.out]; exact IA.2.2.2.1) (by rw [Hv.out]; exact IA.2.2.2.2.1) (by rw [Hv.out]; exact IA.2.2.2.2.2)
          rw [← HC3.out] at KA
          clear W3 W4 k3 HC3 Hv hk
          refine wp_region_held (S := fun w' => Blk w' cb C3 57) (by kernel_rfl) ?_
          refine wpAnyH_take (i := 0) (v := ?_) rfl (by kernel_rfl) (by kernel_rfl) (by kernel_rfl) (fun _ _ _ h => h) (Or.inl ⟨by kernel_rfl, ?_⟩) (by assumption) ?_
          rotate_left
          · intro w' hSw
            go_simp
            first | (with_reducible rfl) | done | assumption | skip
          simp only [Act.put, List.getElem_toArray, List.getElem_cons_succ, List.getElem_cons_zero, List.setIfInBounds_toArray, List.set_cons_zero, List.set_cons_succ]
          refine wpAnyH_take (i := 1) (v := .agg C3.toList.toArray) rfl (by kernel_rfl) (by kernel_rfl) (by kernel_rfl) (fun _ _ _ h => h) (yieldsIf_load_mid (by kernel_rfl) 57 _ rfl cb 0 rfl C3.toList _ (fun w h => h.range) Tryz.underlying57 rfl (by rw [Array.length_toList, hC3n]; kernel_rfl)) (by assumption) ?_
          simp only [Act.put, List.getElem_toArray, List.getElem_cons_succ, List.getElem_cons_zero, List.setIfInBounds_toArray, List.set_cons_zero, List.set_cons_succ]
          simp only [Array.toArray_toList]
          refine wpAnyH_take (i := 3) (v := ?_) rfl (by kernel_rfl) (by kernel_rfl) (by kernel_rfl) (fun _ _ _ h => h) (Or.inl ⟨by kernel_rfl, ?_⟩) (by assumption) ?_
          rotate_left
          · intro w' hSw
            go_simp
            first | (with_reducible rfl) | done | assumption | skip
          simp only [Act.put, List.getElem_toArray, List.getElem_cons_succ, List.getElem_cons_zero, List.setIfInBounds_toArray, List.set_cons_zero, List.set_cons_succ]
          refine wpAnyH_take (i := 4) (v := .agg C3.toList.toArray) rfl (by kernel_rfl) (by kernel_rfl) (by kernel_rfl) (fun _ _ _ h => h) (yieldsIf_load_mid (by kernel_rfl) 57 _ rfl cb 0 rfl C3.toList _ (fun w h => h.range) Tryz.underlying57 rfl (by rw [Array.length_toList, hC3n]; kernel_rfl)) (by assumption) ?_
          simp only [Act.put, List.getElem_toArray, List.getElem_cons_succ, List.getElem_cons_zero, List.setIfInBounds_toArray, List.set_cons_zero, List.set_cons_succ]
          simp only [Array.toArray_toList]
          refine wpAnyH_ready (rs := [2]) (by kernel_rfl) (by simp) ?_
          refine AllReadyH.cons rfl (fun K hK => ?_) AllReadyH.nil
          go_simp
          refine KA.mono ?_
          rintro e w4 ⟨⟨E, rfl, hT⟩, K4⟩
          have k4 := kd.kp K4 (by omega)
          refine hK.out _ _ k4 (fun _ => ?_)
          clear hK K KA kd K4
          try simp only [Act.put, List.getElem_toArray, List.getElem_cons_succ, List.getElem_cons_zero, List.setIfInBounds_toArray, List.set_cons_zero, List.set_cons_succ]
          refine wpAnyH_ready (rs := [5]) (by kernel_rfl) (by simp) ?_
          refine AllReadyH.cons rfl (fun K hK => ?_) AllReadyH.nil
          go_simp
          refine hT.mono ?_
          rintro e w5 ⟨rfl, B5, W5⟩
          have k5 := B5.blk k4 (by omega)
          refine hK.out _ _ k5 (fun _ => ?_)
          clear hK K hT B5
          try simp only [Act.put, List.getElem_toArray, List.getElem_cons_succ, List.getElem_cons_zero, List.setIfInBounds_toArray, List.set_cons_zero, List.set_cons_succ]
          refine wpAnyH_take (i := 6) (v := .bool true) rfl (by kernel_rfl) (by kernel_rfl) (by kernel_rfl) (fun _ _ _ h => h) (Or.inl ⟨by kernel_rfl, ?_⟩) (by assumption) ?_
          · intro w' hSw
            go_simp
            first | (with_reducible rfl) | done | assumption | skip
          simp only [Act.put, List.getElem_toArray, List.getElem_cons_succ, List.getElem_cons_zero, List.setIfInBounds_toArray, List.set_cons_zero, List.set_cons_succ]
          refine wpAnyH_take (i := 7) (v := .bool true) rfl (by kernel_rfl) (by kernel_rfl) (by kernel_rfl) (fun _ _ _ h => h) (Or.inl ⟨by kernel_rfl, ?_⟩) (by assumption) ?_
          · intro w' hSw
            go_simp
            first | (with_reducible rfl) | done | assumption | skip
          simp only [Act.put, List.getElem_toArray, List.getElem_cons_succ, List.getElem_cons_zero, List.setIfInBounds_toArray, List.set_cons_zero, List.set_cons_succ]
          refine wpAnyH_done (by kernel_rfl) ?_ _
          go_wp2_with fail
          go_meet
          case rel => exact ⟨rfl, W5⟩
      case rest =>
        obtain ⟨rfl, W2⟩ := hcut
        clear W1 kS y0 y1 y2 y3 y4 y5 y6 y7 y8 zS
        generalize wc = w2 at *
        obtain ⟨A, n, sf, dn, lf, kp, lf', kp', H2, hi2⟩ := W2
        have KB := bytes_any lb _ sf dn lf kp w2 H2.log
        have HR : ∀ w', Below w2.heap.size w2 w' → Blk w' rb #[.string ⟨((frs A).take n).toArray⟩, .int .i64 sf, .int .i64 lf', .int .i64 kp', .bool dn] 27 := fun w' hb => (H2.next hb).rlog
        have KD : ∀ w', Below w2.heap.size w2 w' → Calls Tryz.prog 18 #[.pointer (some ⟨lb, 0, none⟩)] w' fun e w'' => e = .returned (.bool dn) ∧ w' = w'' := fun w' hb => down_any lb _ sf dn lf kp w' (H2.next hb).log
        have HB : ∀ w', Below w2.heap.size w2 w' → Bo w w' lb rb (i + 1) := fun w' hb => ⟨A, n, sf, dn, lf, kp, lf', kp', H2.next hb, hi2⟩
        clear H2 hi2
        generalize (⟨((frs A).take n).toArray⟩ : ByteArray) = B at *
        go_wp2_with fail
        refine KB.mono ?_
        rintro e w3 ⟨rfl, b3⟩
        clear KB
        go_upto_region 28 with fail
        have b4 := b3.drew
        have kR := HR _ b4
        have KD' := KD _ b4
        have W4 := HB _ b4
        have Y0 : ∀ w', Blk w' rb #[.string B, .int .i64 sf, .int .i64 lf', .int .i64 kp', .bool dn] 27 → w'.cell? ⟨rb, 0, none⟩ = some (.string B) := fun w' h => (h.cell 0).trans rfl
        have Y1 : ∀ w', Blk w' rb #[.string B, .int .i64 sf, .int .i64 lf', .int .i64 kp', .bool dn] 27 → w'.cell? ⟨rb, 1, none⟩ = some (.int .i64 sf) := fun w' h => (h.cell 1).trans rfl
        have Y4 : ∀ w', Blk w' rb #[.string B, .int .i64 sf, .int .i64 lf', .int .i64 kp', .bool dn] 27 → w'.cell? ⟨rb, 4, none⟩ = some (.bool dn) := fun w' h => (h.cell 4).trans rfl
        clear HR KD HB b3 b4
        refine wp_region_held (S := fun w' => Blk w' rb #[.string B, .int .i64 sf, .int .i64 lf', .int .i64 kp', .bool dn] 27) (by kernel_rfl) ?_
        refine wpAnyH_take (i := 0) (v := ?_) rfl (by kernel_rfl) (by kernel_rfl) (by kernel_rfl) (fun _ _ _ h => h) (Or.inl ⟨by kernel_rfl, ?_⟩) (by assumption) ?_
        rotate_left
        · intro w' hSw
          go_simp
          first | (with_reducible rfl) | done | assumption | skip
        simp only [Act.put, List.getElem_toArray, List.getElem_cons_succ, List.getElem_cons_zero, List.setIfInBounds_toArray, List.set_cons_zero, List.set_cons_succ]
        refine wpAnyH_take (i := 1) (v := .bool false) rfl (by kernel_rfl) (by kernel_rfl) (by kernel_rfl) (fun _ _ _ h => h) (Or.inl ⟨by kernel_rfl, ?_⟩) (by assumption) ?_
        · intro w' hSw
          go_simp
          first | (with_reducible rfl) | done | assumption | skip
        simp only [Act.put, List.getElem_toArray, List.getElem_cons_succ, List.getElem_cons_zero, List.setIfInBounds_toArray, List.set_cons_zero, List.set_cons_succ]
        refine wpAnyH_take (i := 2) (v := .bool false) rfl (by kernel_rfl) (by kernel_rfl) (by kernel_rfl) (fun _ _ _ h => h) (Or.inl ⟨by kernel_rfl, ?_⟩) (by assumption) ?_
        · intro w' hSw
          go_simp
          first | (with_reducible rfl) | done | assumption | skip
        simp only [Act.put, List.getElem_toArray, List.getElem_cons_succ, List.getElem_cons_zero, List.setIfInBounds_toArray, List.set_cons_zero, List.set_cons_succ]
        refine wpAnyH_take (i := 3) (v := ?_) rfl (by kernel_rfl) (by kernel_rfl) (by kernel_rfl) (fun _ _ _ h => h) (Or.inl ⟨by kernel_rfl, ?_⟩) (by assumption) ?_
        rotate_left
        · intro w' hSw
          go_simp
          first | (with_reducible rfl) | done | assumption | skip
        simp only [Act.put, List.getElem_toArray, List.getElem_cons_succ, List.getElem_cons_zero, List.setIfInBounds_toArray, List.set_cons_zero, List.set_cons_succ]
        refine wpAnyH_take (i := 4) (v := ?_) rfl (by kernel_rfl) (by kernel_rfl) (by kernel_rfl) (fun _ _ _ h => h) (Or.inl ⟨by kernel_rfl, ?_⟩) (by assumption) ?_
        rotate_left
        · intro w' hSw
          go_simp
          first | (with_reducible rfl) | done | assumption | skip
        simp only [Act.put, List.getElem_toArray, List.getElem_cons_succ, List.getElem_cons_zero, List.setIfInBounds_toArray, List.set_cons_zero, List.set_cons_succ]
        refine wpAnyH_take (i := 5) (v := ?_) rfl (by kernel_rfl) (by kernel_rfl) (by kernel_rfl) (fun _ _ _ h => h) (Or.inl ⟨by kernel_rfl, ?_⟩) (by assumption) ?_
        rotate_left
        · intro w' hSw
          go_simp
          first | (with_reducible rfl) | done | assumption | skip
        simp only [Act.put, List.getElem_toArray, List.getElem_cons_succ, List.getElem_cons_zero, List.setIfInBounds_toArray, List.set_cons_zero, List.set_cons_succ]
        refine wpAnyH_take (i := 6) (v := ?_) rfl (by kernel_rfl) (by kernel_rfl) (by kernel_rfl) (fun _ _ _ h => h) (Or.inl ⟨by kernel_rfl, ?_⟩) (by assumption) ?_
        rotate_left
        · intro w' hSw
          go_simp
          first | (with_reducible rfl) | done | assumption | skip
        simp only [Act.put, List.getElem_toArray, List.getElem_cons_succ, List.getElem_cons_zero, List.setIfInBounds_toArray, List.set_cons_zero, List.set_cons_succ]
        refine wpAnyH_take (i := 7) (v := .string B) rfl (by kernel_rfl) (by kernel_rfl) (by kernel_rfl) (fun _ _ _ h => h) (Or.inl ⟨by kernel_rfl, ?_⟩) (by assumption) ?_
        · intro w' hSw
          have yY := Y0 _ hSw
          go_simp
          first | (with_reducible rfl) | done | assumption | skip
        simp only [Act.put, List.getElem_toArray, List.getElem_cons_succ, List.getElem_cons_zero, List.setIfInBounds_toArray, List.set_cons_zero, List.set_cons_succ]
        refine wpAnyH_take (i := 8) (v := .bool false) rfl (by kernel_rfl) (by kernel_rfl) (by kernel_rfl) (fun _ _ _ h => h) (Or.inl ⟨by kernel_rfl, ?_⟩) (by assumption) ?_
        · intro w' hSw
          go_simp
          first | (with_reducible rfl) | done | assumption | skip
        simp only [Act.put, List.getElem_toArray, List.getElem_cons_succ, List.getElem_cons_zero, List.setIfInBounds_toArray, List.set_cons_zero, List.set_cons_succ]
        refine wpAnyH_take (i := 9) (v := .bool false) rfl (by kernel_rfl) (by kernel_rfl) (by kernel_rfl) (fun _ _ _ h => h) (Or.inl ⟨by kernel_rfl, ?_⟩) (by assumption) ?_
        · intro w' hSw
          go_simp
          first | (with_reducible rfl) | done | assumption | skip
        simp only [Act.put, List.getElem_toArray, List.getElem_cons_succ, List.getElem_cons_zero, List.setIfInBounds_toArray, List.set_cons_zero, List.set_cons_succ]
        refine wpAnyH_take (i := 10) (v := .bool false) rfl (by kernel_rfl) (by kernel_rfl) (by kernel_rfl) (fun _ _ _ h => h) (Or.inl ⟨by kernel_rfl, ?_⟩) (by assumption) ?_
        · intro w' hSw
          go_simp
          first | (with_reducible rfl) | done | assumption | skip
        simp only [Act.put, List.getElem_toArray, List.getElem_cons_succ, List.getElem_cons_zero, List.setIfInBounds_toArray, List.set_cons_zero, List.set_cons_succ]
        refine wpAnyH_take (i := 11) (v := ?_) rfl (by kernel_rfl) (by kernel_rfl) (by kernel_rfl) (fun _ _ _ h => h) (Or.inl ⟨by kernel_rfl, ?_⟩) (by assumption) ?_
        rotate_left
        · intro w' hSw
          go_simp
          first | (with_reducible rfl) | done | assumption | skip
        simp only [Act.put, List.getElem_toArray, List.getElem_cons_succ, List.getElem_cons_zero, List.setIfInBounds_toArray, List.set_cons_zero, List.set_cons_succ]
        refine wpAnyH_take (i := 12) (v := ?_) rfl (by kernel_rfl) (by kernel_rfl) (by kernel_rfl) (fun _ _ _ h => h) (Or.inl ⟨by kernel_rfl, ?_⟩) (by assumption) ?_
        rotate_left
        · intro w' hSw
          go_simp
          first | (with_reducible rfl) | done | assumption | skip
        simp only [Act.put, List.getElem_toArray, List.getElem_cons_succ, List.getElem_cons_zero, List.setIfInBounds_toArray, List.set_cons_zero, List.set_cons_succ]
        refine wpAnyH_take (i := 13) (v := ?_) rfl (by kernel_rfl) (by kernel_rfl) (by kernel_rfl) (fun _ _ _ h => h) (Or.inl ⟨by kernel_rfl, ?_⟩) (by assumption) ?_
        rotate_left
        · intro w' hSw
          go_simp
          first | (with_reducible rfl) | done | assumption | skip
        simp only [Act.put, List.getElem_toArray, List.getElem_cons_succ, List.getElem_cons_zero, List.setIfInBounds_toArray, List.set_cons_zero, List.set_cons_succ]
        refine wpAnyH_take (i := 14) (v := ?_) rfl (by kernel_rfl) (by kernel_rfl) (by kernel_rfl) (fun _ _ _ h => h) (Or.inl ⟨by kernel_rfl, ?_⟩) (by assumption) ?_
        rotate_left
        · intro w' hSw
          go_simp
          first | (with_reducible rfl) | done | assumption | skip
        simp only [Act.put, List.getElem_toArray, List.getElem_cons_succ, List.getElem_cons_zero, List.setIfInBounds_toArray, List.set_cons_zero, List.set_cons_succ]
        refine wpAnyH_take (i := 15) (v := .int .i64 sf) rfl (by kernel_rfl) (by kernel_rfl) (by kernel_rfl) (fun _ _ _ h => h) (Or.inl ⟨by kernel_rfl, ?_⟩) (by assumption) ?_
        · intro w' hSw
          have yY := Y1 _ hSw
          go_simp
          first | (with_reducible rfl) | done | assumption | skip
        simp only [Act.put, List.getElem_toArray, List.getElem_cons_succ, List.getElem_cons_zero, List.setIfInBounds_toArray, List.set_cons_zero, List.set_cons_succ]
        refine wpAnyH_take (i := 16) (v := .bool false) rfl (by kernel_rfl) (by kernel_rfl) (by kernel_rfl) (fun _ _ _ h => h) (Or.inl ⟨by kernel_rfl, ?_⟩) (by assumption) ?_
        · intro w' hSw
          go_simp
          first | (with_reducible rfl) | done | assumption | skip
        simp only [Act.put, List.getElem_toArray, List.getElem_cons_succ, List.getElem_cons_zero, List.setIfInBounds_toArray, List.set_cons_zero, List.set_cons_succ]
        refine wpAnyH_take (i := 17) (v := .bool false) rfl (by kernel_rfl) (by kernel_rfl) (by kernel_rfl) (fun _ _ _ h => h) (Or.inl ⟨by kernel_rfl, ?_⟩) (by assumption) ?_
        · intro w' hSw
          go_simp
          first | (with_reducible rfl) | done | assumption | skip
        simp only [Act.put, List.getElem_toArray, List.getElem_cons_succ, List.getElem_cons_zero, List.setIfInBounds_toArray, List.set_cons_zero, List.set_cons_succ]
        refine wpAnyH_take (i := 18) (v := .bool false) rfl (by kernel_rfl) (by kernel_rfl) (by kernel_rfl) (fun _ _ _ h => h) (Or.inl ⟨by kernel_rfl, ?_⟩) (by assumption) ?_
        · intro w' hSw
          go_simp
          first | (with_reducible rfl) | done | assumption | skip
        simp only [Act.put, List.getElem_toArray, List.getElem_cons_succ, List.getElem_cons_zero, List.setIfInBounds_toArray, List.set_cons_zero, List.set_cons_succ]
        refine wpAnyH_take (i := 19) (v := ?_) rfl (by kernel_rfl) (by kernel_rfl) (by kernel_rfl) (fun _ _ _ h => h) (Or.inl ⟨by kernel_rfl, ?_⟩) (by assumption) ?_
        rotate_left
        · intro w' hSw
          go_simp
          first | (with_reducible rfl) | done | assumption | skip
        simp only [Act.put, List.getElem_toArray, List.getElem_cons_succ, List.getElem_cons_zero, List.setIfInBounds_toArray, List.set_cons_zero, List.set_cons_succ]
        refine wpAnyH_take (i := 21) (v := ?_) rfl (by kernel_rfl) (by kernel_rfl) (by kernel_rfl) (fun _ _ _ h => h) (Or.inl ⟨by kernel_rfl, ?_⟩) (by assumption) ?_
        rotate_left
        · intro w' hSw
          go_simp
          first | (with_reducible rfl) | done | assumption | skip
        simp only [Act.put, List.getElem_toArray, List.getElem_cons_succ, List.getElem_cons_zero, List.setIfInBounds_toArray, List.set_cons_zero, List.set_cons_succ]
        refine wpAnyH_take (i := 22) (v := ?_) rfl (by kernel_rfl) (by kernel_rfl) (by kernel_rfl) (fun _ _ _ h => h) (Or.inl ⟨by kernel_rfl, ?_⟩) (by assumption) ?_
        rotate_left
        · intro w' hSw
          go_simp
          first | (with_reducible rfl) | done | assumption | skip
        simp only [Act.put, List.getElem_toArray, List.getElem_cons_succ, List.getElem_cons_zero, List.setIfInBounds_toArray, List.set_cons_zero, List.set_cons_succ]
        refine wpAnyH_take (i := 23) (v := ?_) rfl (by kernel_rfl) (by kernel_rfl) (by kernel_rfl) (fun _ _ _ h => h) (Or.inl ⟨by kernel_rfl, ?_⟩) (by assumption) ?_
        rotate_left
        · intro w' hSw
          go_simp
          first | (with_reducible rfl) | done | assumption | skip
        simp only [Act.put, List.getElem_toArray, List.getElem_cons_succ, List.getElem_cons_zero, List.setIfInBounds_toArray, List.set_cons_zero, List.set_cons_succ]
        refine wpAnyH_take (i := 24) (v := .bool dn) rfl (by kernel_rfl) (by kernel_rfl) (by kernel_rfl) (fun _ _ _ h => h) (Or.inl ⟨by kernel_rfl, ?_⟩) (by assumption) ?_
        · intro w' hSw
          have yY := Y4 _ hSw
          go_simp
          first | (with_reducible rfl) | done | assumption | skip
        simp only [Act.put, List.getElem_toArray, List.getElem_cons_succ, List.getElem_cons_zero, List.setIfInBounds_toArray, List.set_cons_zero, List.set_cons_succ]
        refine wpAnyH_ready (rs := [20]) (by kernel_rfl) (by simp) ?_
        refine AllReadyH.cons rfl (fun K hK => ?_) AllReadyH.nil
        rw [if_pos (by kernel_rfl)]
        go_simp
        refine KD'.mono ?_
        rintro e w5 ⟨rfl, rfl⟩
        refine hK.out _ _ (by assumption) (fun _ => ?_)
        clear hK K KD'
        try simp only [Act.put, List.getElem_toArray, List.getElem_cons_succ, List.getElem_cons_zero, List.setIfInBounds_toArray, List.set_cons_zero, List.set_cons_succ]
        refine wpAnyH_take (i := 25) (v := .bool false) rfl (by kernel_rfl) (by kernel_rfl) (by kernel_rfl) (fun _ _ _ h => h) (Or.inl ⟨by kernel_rfl, ?_⟩) (by assumption) ?_
        · intro w' hSw
          go_simp
          first | (with_reducible rfl) | done | assumption | skip
        simp only [Act.put, List.getElem_toArray, List.getElem_cons_succ, List.getElem_cons_zero, List.setIfInBounds_toArray, List.set_cons_zero, List.set_cons_succ]
        refine wpAnyH_take (i := 26) (v := .bool false) rfl (by kernel_rfl) (by kernel_rfl) (by kernel_rfl) (fun _ _ _ h => h) (Or.inl ⟨by kernel_rfl, ?_⟩) (by assumption) ?_
        · intro w' hSw
          go_simp
          first | (with_reducible rfl) | done | assumption | skip
        simp only [Act.put, List.getElem_toArray, List.getElem_cons_succ, List.getElem_cons_zero, List.setIfInBounds_toArray, List.set_cons_zero, List.set_cons_succ]
        refine wpAnyH_done (by kernel_rfl) ?_ _
        go_wp2
        exact ⟨⟨i + 1, by omega, by go_num, W4⟩, by simp [intOf]; omega⟩
    · have hge : ¬ (i : Int) < (ls.length : Int) := by omega
      go_wp2
      go_ret
      exact ⟨rfl, W.bel⟩
end Go.Proofs.YtaifkidpdmhciaaGreat
