/- WalKeeps: the law. -/
import Derived.Test.YtaidiomaaldphaaQSteps
import Derived.Deep.RegionHeld3
import Derived.BigQuiet
namespace Go.Proofs.Ytaidiomaaldphaa
open Go.RowKit
set_option linter.unusedVariables false
set_option linter.unusedSimpArgs false

set_option maxRecDepth 20000 in
set_option maxHeartbeats 12800000 in
theorem keeps_any (la : Option Addr) (ca : Nat) (ls : List Sp) (w : World) (hl : ls.length ≤ maxLen) (hin : ∀ x ∈ ls, x.In) (hS : StepsAt w la ls) :
    Calls Try.prog 3 #[.slice la ls.length ca] w fun e w' => e = .returned (.bool true) ∧ Below w.heap.size w w' := by
  unfold maxLen at hl
  by_cases hg : 512 < ls.length
  · have g1 : (512 : Int) < (ls.length : Int) := by omega
    go_enter Try.func3, Try.ntmps3
    go_wp2
    go_ret
    exact ⟨rfl, Below.refl _ _⟩
  have g1 : ¬ (512 : Int) < (ls.length : Int) := by omega
  obtain ⟨i0, hinf, hz0, hz1, hz2⟩ := info_parts infoVote
  go_enter Try.func3, Try.ntmps3
  go_wp2_with fail
  refine (walNew_any w).mono ?_
  rintro e w1 ⟨rfl, rfl⟩
  have W0 : Wk w (w.alloc (.cells #[.slice none 0 0, .int .i64 0, .bool false, .int .i64 0, .int .i64 0] 60)) w.heap.size [] 0 false (.slice none 0 0) := by
    refine ⟨⟨0, 0, 0, 0, ⟨.slice none 0 0, Blk.new w _ _, World.ownsRow_nil _ _ _ _⟩, by simp, Nat.le_refl _, fun _ => rfl, (by unfold InN; omega), (by unfold InN; omega), by simp [frs], by simp, (fun a ha => by cases ha), by simp⟩, World.ownsRow_nil _ _ _ _, (Below.refl _ _).alloc (Nat.le_refl _) _, Nat.le_refl _⟩
  go_wp2_with fail
  generalize w.alloc (.cells #[.slice none 0 0, .int .i64 0, .bool false, .int .i64 0, .int .i64 0] 60) = w0 at *
  obtain ⟨lb, hlb⟩ : ∃ lb, w.heap.size = lb := ⟨_, rfl⟩
  rw [hlb] at W0
  simp only [hlb]
  have HLB := show Hid (_ = _) from hlb
  clear hlb
  go_loopw [4, 5, 6] (fun av sv iv w2 => ∃ (i s : Nat) (A : List Vk) (dn : Bool), i ≤ ls.length ∧ iv = .int .i64 i ∧ sv = .int .i64 s ∧ A.length ≤ i ∧ Wk w w2 lb A s dn av) (fun _ _ iv _ => ls.length - (intOf iv).toNat)
  case atStart => exact ⟨0, 0, [], false, Nat.zero_le _, rfl, rfl, Nat.le_refl _, W0⟩
  case round =>
    obtain ⟨i, s, A, dn, hi, rfl, rfl, hAi, W⟩ := hrel
    clear W0
    obtain ⟨aa, ac, hav⟩ := owns_form W.own
    subst hav
    by_cases hlt : i < ls.length
    · have hlt' : (i : Int) < (ls.length : Int) := by omega
      obtain ⟨sb, so, e, hsb, q0, q1, q2, q3, q4, q5, q6, q7, q8⟩ := hS.one W.bel hlt
      subst e
      have hI := hin _ (List.getElem_mem hlt)
      generalize ls[i] = x at *
      have HS := show Hid (_) from hS
      clear hS
      have bA : Below wr.heap.size wr (wr.alloc (.cells #[.int .i64 x.k, .int .i64 x.a, .int .i64 x.b, .int .i64 x.h, .int .i64 x.r, .int .i64 x.s, .bool x.has, .int .u64 x.bl, .int .i64 x.f] 31)) := (Below.refl _ _).alloc (Nat.le_refl _) _
      have kS := Blk.new wr #[.int .i64 x.k, .int .i64 x.a, .int .i64 x.b, .int .i64 x.h, .int .i64 x.r, .int .i64 x.s, .bool x.has, .int .u64 x.bl, .int .i64 x.f] 31
      have W1 := W.next bA
      clear bA W
      go_upto_region 10 with fail
      generalize wr.alloc (.cells #[.int .i64 x.k, .int .i64 x.a, .int .i64 x.b, .int .i64 x.h, .int .i64 x.r, .int .i64 x.s, .bool x.has, .int .u64 x.bl, .int .i64 x.f] 31) = w1 at *
      generalize wr.heap.size = tb at *
      clear q0 q1 q2 q3 q4 q5 q6 q7 q8 hsb
      have y0 := (kS.cell 0).trans rfl
      have y1 := (kS.cell 1).trans rfl
      have y2 := (kS.cell 2).trans rfl
      have y3 := (kS.cell 3).trans rfl
      have y4 := (kS.cell 4).trans rfl
      have y5 := (kS.cell 5).trans rfl
      have y6 := (kS.cell 6).trans rfl
      have y7 := (kS.cell 7).trans rfl
      have y8 := (kS.cell 8).trans rfl
      have zS := kS.lt
      go_wp2_with fail
      refine (pick_fn x.k 8 w1 hI.1 (by omega)).mono ?_
      rintro e w1' ⟨rfl, rfl⟩
      have hpb := pickP_bd x.k 8 (by omega)
      generalize pickP x.k 8 = p at *
      have hA5 := W1.ls
      have hsA : s ≤ A.length := by obtain ⟨_, _, _, _, _, _, _, _, _, _, _, h, _⟩ := W1.ls; exact h
      clear hA5
      by_cases hp : p = 1
      · have p1 : (p == 1) = true := by simp [hp]
        go_wp2_with fail
        refine W1.ls.sync.mono ?_
        rintro e w2 ⟨K2, ⟨rfl, d2, L2⟩ | ⟨rfl, d2, L2⟩⟩
        · have W2 := Wk.mk' (W1.kp K2 L2)
          clear W1 K2 L2
          go_wp2
          exact ⟨⟨i + 1, s, A, d2, by omega, by go_num, rfl, by omega, W2⟩, by simp [intOf]; omega⟩
        · have W2 := Wk.mk' (W1.kp K2 L2)
          clear W1 K2 L2
          go_wp2
          exact ⟨⟨i + 1, A.length, A, d2, by omega, by go_num, rfl, by omega, W2⟩, by simp [intOf]; omega⟩
      by_cases hp2 : p = 2
      · have p1 : (p == 1) = false := by simp; omega
        have p2 : (p == 2) = true := by simp [hp2]
        go_wp2_with fail
        refine (W1.ls.arm x.a x.b hI.2.1 hI.2.2.1).mono ?_
        rintro e w2 ⟨rfl, L2, K2⟩
        have W2 := Wk.mk' (W1.kp K2 L2)
        clear W1 K2 L2
        go_wp2
        exact ⟨⟨i + 1, s, A, dn, by omega, by go_num, rfl, by omega, W2⟩, by simp [intOf]; omega⟩
      by_cases hp3 : p = 3
      · have p1 : (p == 1) = false := by simp; omega
        have p2 : (p == 2) = false := by simp; omega
        have p3 : (p == 3) = true := by simp [hp3]
        go_wp2_with fail
        refine (W1.ls.die x.a hI.2.1).mono ?_
        rintro e w2 ⟨rfl, ⟨d2, L2⟩, K2⟩
        have W2 := Wk.mk' (W1.kp K2 L2)
        clear W1 K2 L2
        go_wp2
        exact ⟨⟨i + 1, s, A, d2, by omega, by go_num, rfl, by omega, W2⟩, by simp [intOf]; omega⟩
      by_cases hp4 : p = 4
      · have p1 : (p == 1) = false := by simp; omega
        have p2 : (p == 2) = false := by simp; omega
        have p3 : (p == 3) = false := by simp; omega
        have p4 : (p == 4) = true := by simp [hp4]
        go_wp2_with fail
        refine W1.ls.begin.mono ?_
        rintro e w2 ⟨rv, J, rfl, hsJ, hJA, orv, L2, K2⟩
        obtain ⟨_, o2, b2, l2⟩ := W1.kp K2 L2
        clear W1 K2
        obtain ⟨ra, rcc, hrv⟩ := owns_form orv
        subst hrv
        have hcap := owns_capK o2
        have h27a : ¬ (J : Int) < (s : Int) := by omega
        have h27b : ¬ (A.length : Int) < (J : Int) := by omega
        have hJc : (0 : Int) ≤ (J : Int) ∧ (J : Int) ≤ (ac : Int) := by omega
        have htl : (A.take J).length = J := by rw [List.length_take]; omega
        have HT := show Hid (_ = _) from htl
        clear htl y0 y1 y2 y3 y4 y5 y6 y7 y8 zS kS
        generalize wr = wq at *
        go_wp2_with fail
        go_loopw [9] (fun kv w5 => ∃ k : Nat, k ≤ J ∧ kv = .int .i64 k ∧ Below w2.heap.size w2 w5) (fun kv _ => J - (intOf kv).toNat)
        case atStart => exact ⟨0, Nat.zero_le _, rfl, Below.refl _ _⟩
        case round =>
          obtain ⟨k, hk, rfl, hb5⟩ := hrel
          by_cases hkl : k < J
          · have hkl' : (k : Int) < (J : Int) := by omega
            obtain ⟨g, cap, eg, hg, hc⟩ := owns_chunk (f := fun v : Vk => v.rc.toList) rc_len HT.out (owns_below orv hb5) hkl
            obtain ⟨g2, cap2, eg2, hg2, hc2⟩ := owns_chunk (f := Vk.vc) vc_len rfl (owns_below o2 hb5) (show k < A.length by omega)
            simp only [Value.slice.injEq, true_and] at eg eg2
            obtain ⟨rfl, rfl⟩ := eg
            obtain ⟨rfl, rfl⟩ := eg2
            have hel : (A.take J)[k]'(by rw [HT.out]; exact hkl) = A[k]'(by omega) := List.getElem_take
            rw [hel] at hc
            generalize A[k]'(by omega) = v at *
            have m0 : wr.cell? ⟨g, k * 38, none⟩ = some (.int .i64 1) := hc 0 _ rfl
            have m1 : wr.cell? ⟨g, k * 38 + 1, none⟩ = some (.int .i64 v.h) := hc 1 _ rfl
            have m2 : wr.cell? ⟨g, k * 38 + 2, none⟩ = some (.int .i64 v.r) := hc 2 _ rfl
            have m3 : wr.cell? ⟨g, k * 38 + 3, none⟩ = some (.int .i64 1) := hc 3 _ rfl
            have m4 : wr.cell? ⟨g, k * 38 + 4, none⟩ = some (.bool false) := hc 4 _ rfl
            have m5 : wr.cell? ⟨g, k * 38 + 5, none⟩ = some (.int .u64 0) := hc 5 _ rfl
            have m6 : wr.cell? ⟨g, k * 38 + 6, none⟩ = some (.int .i64 v.f) := hc 6 _ rfl
            have n0 : wr.cell? ⟨g2, k * 6, none⟩ = some (.int .i64 v.h) := hc2 0 _ rfl
            have n1 : wr.cell? ⟨g2, k * 6 + 1, none⟩ = some (.int .i64 v.r) := hc2 1 _ rfl
            have n2 : wr.cell? ⟨g2, k * 6 + 2, none⟩ = some (.int .i64 1) := hc2 2 _ rfl
            have n3 : wr.cell? ⟨g2, k * 6 + 3, none⟩ = some (.bool false) := hc2 3 _ rfl
            have n4 : wr.cell? ⟨g2, k * 6 + 4, none⟩ = some (.int .u64 0) := hc2 4 _ rfl
            have n5 : wr.cell? ⟨g2, k * 6 + 5, none⟩ = some (.int .i64 v.f) := hc2 5 _ rfl
            have hkA : (k : Int) < (A.length : Int) := by omega
            have HO := show Hid (_ ∧ _) from ⟨orv, o2⟩
            clear hc hc2 hel orv o2
            go_upto_region 32 with fail
            go_quiet (fail)
            go_wp2
            exact ⟨⟨k + 1, by omega, by go_num, below_drewN hb5 _⟩, by simp [intOf]; omega⟩
          · have hge2 : ¬ (k : Int) < (J : Int) := by omega
            have W5 : Wk w wr lb (A.take J) J false (.slice aa J ac) := ⟨L2.below hb5, owns_below (owns_takeK o2 J hJA) hb5, b2.trans (hb5.mono b2.size), l2⟩
            have hAJ : (A.take J).length ≤ i + 1 := by rw [HT.out]; omega
            go_wp2
            exact ⟨⟨i + 1, J, A.take J, false, by omega, by go_num, rfl, hAJ, W5⟩, by simp [intOf]; omega⟩
      have p1 : (p == 1) = false := by simp; omega
      have p2 : (p == 2) = false := by simp; omega
      have p3 : (p == 3) = false := by simp; omega
      have p4 : (p == 4) = false := by simp; omega
      have Y1 : ∀ w', Below w1.heap.size w1 w' → w'.cell? ⟨tb, 1, none⟩ = some (.int .i64 x.a) := fun w' hb => ((kS.below hb kS.lt).cell 1).trans rfl
      have Y2 : ∀ w', Below w1.heap.size w1 w' → w'.cell? ⟨tb, 2, none⟩ = some (.int .i64 x.b) := fun w' hb => ((kS.below hb kS.lt).cell 2).trans rfl
      have Y3 : ∀ w', Below w1.heap.size w1 w' → w'.cell? ⟨tb, 3, none⟩ = some (.int .i64 x.h) := fun w' hb => ((kS.below hb kS.lt).cell 3).trans rfl
      have P1 := fun w' => pick_fn x.h 99 w' hI.2.2.2 (by omega)
      have P2 := fun w' => pick_fn x.a 9 w' hI.2.1 (by omega)
      have P3 := fun w' => pick_fn x.b 9 w' hI.2.2.1 (by omega)
      have hb1 := pickP_bd x.h 99 (by omega)
      have hb2 := pickP_bd x.a 9 (by omega)
      have hb3 := pickP_bd x.b 9 (by omega)
      generalize pickP x.h 99 = H at *
      generalize pickP x.a 9 = R at *
      generalize pickP x.b 9 = F at *
      have ws := wrapI (1 + F) (by omega) (by omega)
      have bw0 : Below w1.heap.size w1 w1.drew := (Below.refl _ _).drew
      clear y0 y1 y2 y3 y4 y5 y6 y7 y8
      go_upto_region 11 with fail
      go_cut [10] (fun v wx => v = .pointer (some ⟨w1.heap.size, 0, none⟩) ∧ wx = (w1.alloc (.cells #[.int .i64 H, .int .i64 R, .int .i64 1, .bool false, .int .u64 0, .int .i64 (1 + F)] 29)).drew)
      case first =>
        refine wp_region_held (S := fun w' => Below w1.heap.size w1 w') (by kernel_rfl) ?_
        refine wpAnyH_take (i := 0) (v := ?_) rfl (by kernel_rfl) (by kernel_rfl) (by kernel_rfl) (fun _ _ _ h => h) (Or.inl ⟨by kernel_rfl, ?_⟩) (by assumption) ?_
        rotate_left
        · intro w' hSw
          go_simp
          first | (with_reducible rfl) | done | assumption | skip
        simp only [Act.put, List.getElem_toArray, List.getElem_cons_succ, List.getElem_cons_zero, List.setIfInBounds_toArray, List.set_cons_zero, List.set_cons_succ]
        refine wpAnyH_take (i := 1) (v := ?_) rfl (by kernel_rfl) (by kernel_rfl) (by kernel_rfl) (fun _ _ _ h => h) (Or.inl ⟨by kernel_rfl, ?_⟩) (by assumption) ?_
        rotate_left
        · intro w' hSw
          go_simp
          first | (with_reducible rfl) | done | assumption | skip
        simp only [Act.put, List.getElem_toArray, List.getElem_cons_succ, List.getElem_cons_zero, List.setIfInBounds_toArray, List.set_cons_zero, List.set_cons_succ]
        refine wpAnyH_take (i := 2) (v := .int .i64 x.h) rfl (by kernel_rfl) (by kernel_rfl) (by kernel_rfl) (fun _ _ _ h => h) (Or.inl ⟨by kernel_rfl, ?_⟩) (by assumption) ?_
        · intro w' hSw
          have yY3 := Y3 _ hSw
          go_simp
          first | (with_reducible rfl) | done | assumption | skip
        simp only [Act.put, List.getElem_toArray, List.getElem_cons_succ, List.getElem_cons_zero, List.setIfInBounds_toArray, List.set_cons_zero, List.set_cons_succ]
        refine wpAnyH_take (i := 4) (v := ?_) rfl (by kernel_rfl) (by kernel_rfl) (by kernel_rfl) (fun _ _ _ h => h) (Or.inl ⟨by kernel_rfl, ?_⟩) (by assumption) ?_
        rotate_left
        · intro w' hSw
          go_simp
          first | (with_reducible rfl) | done | assumption | skip
        simp only [Act.put, List.getElem_toArray, List.getElem_cons_succ, List.getElem_cons_zero, List.setIfInBounds_toArray, List.set_cons_zero, List.set_cons_succ]
        refine wpAnyH_take (i := 5) (v := .int .i64 x.a) rfl (by kernel_rfl) (by kernel_rfl) (by kernel_rfl) (fun _ _ _ h => h) (Or.inl ⟨by kernel_rfl, ?_⟩) (by assumption) ?_
        · intro w' hSw
          have yY1 := Y1 _ hSw
          go_simp
          first | (with_reducible rfl) | done | assumption | skip
        simp only [Act.put, List.getElem_toArray, List.getElem_cons_succ, List.getElem_cons_zero, List.setIfInBounds_toArray, List.set_cons_zero, List.set_cons_succ]
        refine wpAnyH_take (i := 7) (v := ?_) rfl (by kernel_rfl) (by kernel_rfl) (by kernel_rfl) (fun _ _ _ h => h) (Or.inl ⟨by kernel_rfl, ?_⟩) (by assumption) ?_
        rotate_left
        · intro w' hSw
          go_simp
          first | (with_reducible rfl) | done | assumption | skip
        simp only [Act.put, List.getElem_toArray, List.getElem_cons_succ, List.getElem_cons_zero, List.setIfInBounds_toArray, List.set_cons_zero, List.set_cons_succ]
        refine wpAnyH_take (i := 8) (v := .int .i64 x.b) rfl (by kernel_rfl) (by kernel_rfl) (by kernel_rfl) (fun _ _ _ h => h) (Or.inl ⟨by kernel_rfl, ?_⟩) (by assumption) ?_
        · intro w' hSw
          have yY2 := Y2 _ hSw
          go_simp
          first | (with_reducible rfl) | done | assumption | skip
        simp only [Act.put, List.getElem_toArray, List.getElem_cons_succ, List.getElem_cons_zero, List.setIfInBounds_toArray, List.set_cons_zero, List.set_cons_succ]
        refine wpAnyH_ready (rs := [3, 12]) (by kernel_rfl) (by simp) ?_
        refine (AllReadyH.cons rfl (fun K hK => ?_) (AllReadyH.cons rfl (fun K hK => ?_) AllReadyH.nil))
        · go_simp
          refine (P1 _).mono ?_
          rintro e w3 ⟨rfl, rfl⟩
          refine hK.out _ _ (by assumption) (fun _ => ?_)
          clear hK K
          try simp only [Act.put, List.getElem_toArray, List.getElem_cons_succ, List.getElem_cons_zero, List.setIfInBounds_toArray, List.set_cons_zero, List.set_cons_succ]
          refine wpAnyH_ready (rs := [6, 12]) (by kernel_rfl) (by simp) ?_
          refine (AllReadyH.cons rfl (fun K hK => ?_) (AllReadyH.cons rfl (fun K hK => ?_) AllReadyH.nil))
          · go_simp
            refine (P2 _).mono ?_
            rintro e w3 ⟨rfl, rfl⟩
            refine hK.out _ _ (by assumption) (fun _ => ?_)
            clear hK K
            try simp only [Act.put, List.getElem_toArray, List.getElem_cons_succ, List.getElem_cons_zero, List.setIfInBounds_toArray, List.set_cons_zero, List.set_cons_succ]
            refine wpAnyH_ready (rs := [9, 12]) (by kernel_rfl) (by simp) ?_
            refine (AllReadyH.cons rfl (fun K hK => ?_) (AllReadyH.cons rfl (fun K hK => ?_) AllReadyH.nil))
            · go_simp
              refine (P3 _).mono ?_
              rintro e w3 ⟨rfl, rfl⟩
              refine hK.out _ _ (by assumption) (fun _ => ?_)
              clear hK K
              try simp only [Act.put, List.getElem_toArray, List.getElem_cons_succ, List.getElem_cons_zero, List.setIfInBounds_toArray, List.set_cons_zero, List.set_cons_succ]
              refine wpAnyH_take (i := 10) (v := ?_) rfl (by kernel_rfl) (by kernel_rfl) (by kernel_rfl) (fun _ _ _ h => h) (Or.inl ⟨by kernel_rfl, ?_⟩) (by assumption) ?_
              rotate_left
              · intro w' hSw
                go_simp
                first | (with_reducible rfl) | done | assumption | skip
              simp only [Act.put, List.getElem_toArray, List.getElem_cons_succ, List.getElem_cons_zero, List.setIfInBounds_toArray, List.set_cons_zero, List.set_cons_succ]
              refine wpAnyH_take (i := 11) (v := ?_) rfl (by kernel_rfl) (by kernel_rfl) (by kernel_rfl) (fun _ _ _ h => h) (Or.inl ⟨by kernel_rfl, ?_⟩) (by assumption) ?_
              rotate_left
              · intro w' hSw
                go_simp
                first | (with_reducible rfl) | done | assumption | skip
              simp only [Act.put, List.getElem_toArray, List.getElem_cons_succ, List.getElem_cons_zero, List.setIfInBounds_toArray, List.set_cons_zero, List.set_cons_succ]
              refine wpAnyH_ready (rs := [12]) (by kernel_rfl) (by simp) ?_
              refine (AllReadyH.cons rfl (fun K hK => ?_) AllReadyH.nil)
              · go_simp
                have bw1 := bel_al bw0 (.cells #[.int .i64 0, .int .i64 0, .int .i64 0, .bool false, .int .u64 0, .int .i64 0] 29)
                refine hK.out _ _ bw1 (fun _ => ?_)
                clear hK K
                try simp only [Act.put, List.getElem_toArray, List.getElem_cons_succ, List.getElem_cons_zero, List.setIfInBounds_toArray, List.set_cons_zero, List.set_cons_succ]
                refine wpAnyH_ready (rs := [13]) (by kernel_rfl) (by simp) ?_
                refine AllReadyH.cons rfl (fun K hK => ?_) AllReadyH.nil
                go_simp
                refine hK.out _ _ (bel_al bw0 _) (fun _ => ?_)
                clear hK K
                try simp only [Act.put, List.getElem_toArray, List.getElem_cons_succ, List.getElem_cons_zero, List.setIfInBounds_toArray, List.set_cons_zero, List.set_cons_succ]
                refine wpAnyH_done (by kernel_rfl) ?_ _
                go_wp2_with fail
                go_meet
                case rel => exact ⟨rfl, rfl⟩
            · go_simp
              have bw1 := bel_al bw0 (.cells #[.int .i64 0, .int .i64 0, .int .i64 0, .bool false, .int .u64 0, .int .i64 0] 29)
              refine hK.out _ _ bw1 (fun _ => ?_)
              clear hK K
              try simp only [Act.put, List.getElem_toArray, List.getElem_cons_succ, List.getElem_cons_zero, List.setIfInBounds_toArray, List.set_cons_zero, List.set_cons_succ]
              refine wpAnyH_ready (rs := [9]) (by kernel_rfl) (by simp) ?_
              refine (AllReadyH.cons rfl (fun K hK => ?_) AllReadyH.nil)
              · go_simp
                refine (P3 _).mono ?_
                rintro e w3 ⟨rfl, rfl⟩
                refine hK.out _ _ (by assumption) (fun _ => ?_)
                clear hK K
                try simp only [Act.put, List.getElem_toArray, List.getElem_cons_succ, List.getElem_cons_zero, List.setIfInBounds_toArray, List.set_cons_zero, List.set_cons_succ]
                refine wpAnyH_take (i := 10) (v := ?_) rfl (by kernel_rfl) (by kernel_rfl) (by kernel_rfl) (fun _ _ _ h => h) (Or.inl ⟨by kernel_rfl, ?_⟩) (by assumption) ?_
                rotate_left
                · intro w' hSw
                  go_simp
                  first | (with_reducible rfl) | done | assumption | skip
                simp only [Act.put, List.getElem_toArray, List.getElem_cons_succ, List.getElem_cons_zero, List.setIfInBounds_toArray, List.set_cons_zero, List.set_cons_succ]
                refine wpAnyH_take (i := 11) (v := ?_) rfl (by kernel_rfl) (by kernel_rfl) (by kernel_rfl) (fun _ _ _ h => h) (Or.inl ⟨by kernel_rfl, ?_⟩) (by assumption) ?_
                rotate_left
                · intro w' hSw
                  go_simp
                  first | (with_reducible rfl) | done | assumption | skip
                simp only [Act.put, List.getElem_toArray, List.getElem_cons_succ, List.getElem_cons_zero, List.setIfInBounds_toArray, List.set_cons_zero, List.set_cons_succ]
                refine wpAnyH_ready (rs := [13]) (by kernel_rfl) (by simp) ?_
                refine AllReadyH.cons rfl (fun K hK => ?_) AllReadyH.nil
                go_simp
                refine hK.out _ _ (bel_al bw0 _) (fun _ => ?_)
                clear hK K
                try simp only [Act.put, List.getElem_toArray, List.getElem_cons_succ, List.getElem_cons_zero, List.setIfInBounds_toArray, List.set_cons_zero, List.set_cons_succ]
                refine wpAnyH_done (by kernel_rfl) ?_ _
                go_wp2_with fail
                go_meet
                case rel => exact ⟨rfl, rfl⟩
          · go_simp
            have bw1 := bel_al bw0 (.cells #[.int .i64 0, .int .i64 0, .int .i64 0, .bool false, .int .u64 0, .int .i64 0] 29)
            refine hK.out _ _ bw1 (fun _ => ?_)
            clear hK K
            try simp only [Act.put, List.getElem_toArray, List.getElem_cons_succ, List.getElem_cons_zero, List.setIfInBounds_toArray, List.set_cons_zero, List.set_cons_succ]
            refine wpAnyH_ready (rs := [6]) (by kernel_rfl) (by simp) ?_
            refine (AllReadyH.cons rfl (fun K hK => ?_) AllReadyH.nil)
            · go_simp
              refine (P2 _).mono ?_
              rintro e w3 ⟨rfl, rfl⟩
              refine hK.out _ _ (by assumption) (fun _ => ?_)
              clear hK K
              try simp only [Act.put, List.getElem_toArray, List.getElem_cons_succ, List.getElem_cons_zero, List.setIfInBounds_toArray, List.set_cons_zero, List.set_cons_succ]
              refine wpAnyH_ready (rs := [9]) (by kernel_rfl) (by simp) ?_
              refine (AllReadyH.cons rfl (fun K hK => ?_) AllReadyH.nil)
              · go_simp
                refine (P3 _).mono ?_
                rintro e w3 ⟨rfl, rfl⟩
                refine hK.out _ _ (by assumption) (fun _ => ?_)
                clear hK K
                try simp only [Act.put, List.getElem_toArray, List.getElem_cons_succ, List.getElem_cons_zero, List.setIfInBounds_toArray, List.set_cons_zero, List.set_cons_succ]
                refine wpAnyH_take (i := 10) (v := ?_) rfl (by kernel_rfl) (by kernel_rfl) (by kernel_rfl) (fun _ _ _ h => h) (Or.inl ⟨by kernel_rfl, ?_⟩) (by assumption) ?_
                rotate_left
                · intro w' hSw
                  go_simp
                  first | (with_reducible rfl) | done | assumption | skip
                simp only [Act.put, List.getElem_toArray, List.getElem_cons_succ, List.getElem_cons_zero, List.setIfInBounds_toArray, List.set_cons_zero, List.set_cons_succ]
                refine wpAnyH_take (i := 11) (v := ?_) rfl (by kernel_rfl) (by kernel_rfl) (by kernel_rfl) (fun _ _ _ h => h) (Or.inl ⟨by kernel_rfl, ?_⟩) (by assumption) ?_
                rotate_left
                · intro w' hSw
                  go_simp
                  first | (with_reducible rfl) | done | assumption | skip
                simp only [Act.put, List.getElem_toArray, List.getElem_cons_succ, List.getElem_cons_zero, List.setIfInBounds_toArray, List.set_cons_zero, List.set_cons_succ]
                refine wpAnyH_ready (rs := [13]) (by kernel_rfl) (by simp) ?_
                refine AllReadyH.cons rfl (fun K hK => ?_) AllReadyH.nil
                go_simp
                refine hK.out _ _ (bel_al bw0 _) (fun _ => ?_)
                clear hK K
                try simp only [Act.put, List.getElem_toArray, List.getElem_cons_succ, List.getElem_cons_zero, List.setIfInBounds_toArray, List.set_cons_zero, List.set_cons_succ]
                refine wpAnyH_done (by kernel_rfl) ?_ _
                go_wp2_with fail
                go_meet
                case rel => exact ⟨rfl, rfl⟩
        · go_simp
          have bw1 := bel_al bw0 (.cells #[.int .i64 0, .int .i64 0, .int .i64 0, .bool false, .int .u64 0, .int .i64 0] 29)
          refine hK.out _ _ bw1 (fun _ => ?_)
          clear hK K
          try simp only [Act.put, List.getElem_toArray, List.getElem_cons_succ, List.getElem_cons_zero, List.setIfInBounds_toArray, List.set_cons_zero, List.set_cons_succ]
          refine wpAnyH_ready (rs := [3]) (by kernel_rfl) (by simp) ?_
          refine (AllReadyH.cons rfl (fun K hK => ?_) AllReadyH.nil)
          · go_simp
            refine (P1 _).mono ?_
            rintro e w3 ⟨rfl, rfl⟩
            refine hK.out _ _ (by assumption) (fun _ => ?_)
            clear hK K
            try simp only [Act.put, List.getElem_toArray, List.getElem_cons_succ, List.getElem_cons_zero, List.setIfInBounds_toArray, List.set_cons_zero, List.set_cons_succ]
            refine wpAnyH_ready (rs := [6]) (by kernel_rfl) (by simp) ?_
            refine (AllReadyH.cons rfl (fun K hK => ?_) AllReadyH.nil)
            · go_simp
              refine (P2 _).mono ?_
              rintro e w3 ⟨rfl, rfl⟩
              refine hK.out _ _ (by assumption) (fun _ => ?_)
              clear hK K
              try simp only [Act.put, List.getElem_toArray, List.getElem_cons_succ, List.getElem_cons_zero, List.setIfInBounds_toArray, List.set_cons_zero, List.set_cons_succ]
              refine wpAnyH_ready (rs := [9]) (by kernel_rfl) (by simp) ?_
              refine (AllReadyH.cons rfl (fun K hK => ?_) AllReadyH.nil)
              · go_simp
                refine (P3 _).mono ?_
                rintro e w3 ⟨rfl, rfl⟩
                refine hK.out _ _ (by assumption) (fun _ => ?_)
                clear hK K
                try simp only [Act.put, List.getElem_toArray, List.getElem_cons_succ, List.getElem_cons_zero, List.setIfInBounds_toArray, List.set_cons_zero, List.set_cons_succ]
                refine wpAnyH_take (i := 10) (v := ?_) rfl (by kernel_rfl) (by kernel_rfl) (by kernel_rfl) (fun _ _ _ h => h) (Or.inl ⟨by kernel_rfl, ?_⟩) (by assumption) ?_
                rotate_left
                · intro w' hSw
                  go_simp
                  first | (with_reducible rfl) | done | assumption | skip
                simp only [Act.put, List.getElem_toArray, List.getElem_cons_succ, List.getElem_cons_zero, List.setIfInBounds_toArray, List.set_cons_zero, List.set_cons_succ]
                refine wpAnyH_take (i := 11) (v := ?_) rfl (by kernel_rfl) (by kernel_rfl) (by kernel_rfl) (fun _ _ _ h => h) (Or.inl ⟨by kernel_rfl, ?_⟩) (by assumption) ?_
                rotate_left
                · intro w' hSw
                  go_simp
                  first | (with_reducible rfl) | done | assumption | skip
                simp only [Act.put, List.getElem_toArray, List.getElem_cons_succ, List.getElem_cons_zero, List.setIfInBounds_toArray, List.set_cons_zero, List.set_cons_succ]
                refine wpAnyH_ready (rs := [13]) (by kernel_rfl) (by simp) ?_
                refine AllReadyH.cons rfl (fun K hK => ?_) AllReadyH.nil
                go_simp
                refine hK.out _ _ (bel_al bw0 _) (fun _ => ?_)
                clear hK K
                try simp only [Act.put, List.getElem_toArray, List.getElem_cons_succ, List.getElem_cons_zero, List.setIfInBounds_toArray, List.set_cons_zero, List.set_cons_succ]
                refine wpAnyH_done (by kernel_rfl) ?_ _
                go_wp2_with fail
                go_meet
                case rel => exact ⟨rfl, rfl⟩
      case rest =>
        obtain ⟨rfl, hwx⟩ := hcut
        have bA : Below w1.heap.size w1 wc := by rw [hwx]; exact ((Below.refl _ _).alloc (Nat.le_refl _) _).drew
        have kV : Blk wc w1.heap.size #[.int .i64 H, .int .i64 R, .int .i64 1, .bool false, .int .u64 0, .int .i64 (1 + F)] 29 := by rw [hwx]; exact (Blk.new w1 _ _).drew
        have W2 := W1.next bA
        have hlv := W1.ls.lt
        clear hwx bA W1 Y1 Y2 Y3 P1 P2 P3 bw0 zS kS
        generalize w1.heap.size = vb at *
        generalize wc = w2 at *
        go_wp2_with fail
        refine W2.ls.down.mono ?_
        rintro e w2' ⟨rfl, rfl⟩
        have kV2 := kV
        have z0 := (kV.cell 0).trans rfl
        have z1 := (kV.cell 1).trans rfl
        have z2 := (kV.cell 2).trans rfl
        have z3 := (kV.cell 3).trans rfl
        have z4 := (kV.cell 4).trans rfl
        have z5 := (kV.cell 5).trans rfl
        have zV := kV.lt
        have hok : Vk.Ok ⟨H, R, 1 + F⟩ := ⟨by show 0 ≤ H ∧ H ≤ _; omega, by show 0 ≤ R ∧ R ≤ _; omega, by show 1 ≤ 1 + F ∧ 1 + F ≤ _; omega⟩
        have KA := W2.ls.append ⟨H, R, 1 + F⟩ hok (by omega)
        clear kV hok
        go_wp2_with fail
        refine KA.mono ?_
        rintro e w3 ⟨K3, ⟨rfl, rfl, L3⟩ | ⟨rfl, ⟨rfl, L3⟩ | ⟨rfl, L3⟩⟩⟩
        · have W3 := Wk.mk' (W2.kp K3 L3)
          clear W2 K3 L3 KA kV2 z0 z1 z2 z3 z4 z5 zV
          go_wp2
          exact ⟨⟨i + 1, s, A, true, by omega, by go_num, rfl, by omega, W3⟩, by simp [intOf]; omega⟩
        · clear KA z0 z1 z2 z3 z4 z5 zV
          have kV3 := kV2.kp K3 (by omega)
          obtain ⟨_, o3, b3, l3⟩ := W2.kp K3 L3
          have z0 := (kV3.cell 0).trans rfl
          have z1 := (kV3.cell 1).trans rfl
          have z2 := (kV3.cell 2).trans rfl
          have z3 := (kV3.cell 3).trans rfl
          have z4 := (kV3.cell 4).trans rfl
          have z5 := (kV3.cell 5).trans rfl
          have zV := kV3.lt
          clear W2 K3 kV2
          go_wp2_with fail
          refine L3.down.mono ?_
          rintro e w3x ⟨rfl, rfl⟩
          go_wp2_with (at_builtin; refine wpList_append_lies _ rfl _ _ _ rfl (lb + 1) 29 i0 (.agg #[.int .i64 0, .int .i64 0, .int .i64 0, .bool false, .int .u64 0, .int .i64 0]) 6 48 Try.underlying25 hinf hz0 hz1 hz2 rfl (by omega) (.slice aa A.length ac) A.length _ rfl (o3.alloc _) ⟨w3.heap.size, 0, none⟩ 1 1 [.int .i64 H, .int .i64 R, .int .i64 1, .bool false, .int .u64 0, .int .i64 (1 + F)] rfl rfl ?c1 ?c2 (by omega) ?c3 ?c4 ?c5 (w3.heap.size + 1) ?c6 ?_)
          case c1 =>
            intro j u hu
            rw [Addr.add_mid, Nat.zero_add, (Blk.new w3 #[.int .i64 H, .int .i64 R, .int .i64 1, .bool false, .int .u64 0, .int .i64 (1 + F)] 29).cell]
            simpa using hu
          case c2 => intro u hu; simp at hu; rcases hu with rfl | rfl | rfl | rfl | rfl | rfl <;> rfl
          case c3 => unfold maxLen; omega
          case c4 => omega
          case c5 => simp; omega
          case c6 => simp
          intro g cap w4 own4 hg4 hat4 hlt4
          have bA3 : Below w3.heap.size w3 (w3.alloc (.cells #[.int .i64 H, .int .i64 R, .int .i64 1, .bool false, .int .u64 0, .int .i64 (1 + F)] 29)) := (Below.refl _ _).alloc (Nat.le_refl _) _
          have ho3 := o3
          have bG : Below (lb + 1) (w3.alloc (.cells #[.int .i64 H, .int .i64 R, .int .i64 1, .bool false, .int .u64 0, .int .i64 (1 + F)] 29)) w4 := (Below.refl _ _).grown hg4 (by simp; omega) (fun k e => (o3.lt k e).1)
          have W4 : Wk w w4 lb (A ++ [⟨H, R, 1 + F⟩]) s true (.slice (some ⟨g, 0, none⟩) (A.length + 1) cap) := by
            refine ⟨LS.row (L3.below bA3) hg4 o3 (fun g hg => (bA3.block g (o3.lt g hg).2)), ?_, (b3.trans (bA3.mono b3.size)).trans (bG.mono (by omega)), l3⟩
            have e1 : (A ++ [(⟨H, R, 1 + F⟩ : Vk)]).length = A.length + 1 := by simp
            have e2 : flatK (A ++ [(⟨H, R, 1 + F⟩ : Vk)]) = flatK A ++ [.int .i64 H, .int .i64 R, .int .i64 1, .bool false, .int .u64 0, .int .i64 (1 + F)] := by simp [flatK, Vk.vc]
            rw [e1, e2]
            exact own4
          have hAL : (A ++ [(⟨H, R, 1 + F⟩ : Vk)]).length ≤ i + 1 := by simp; omega
          clear o3 ho3 own4 hg4 hat4 bA3 bG z0 z1 z2 z3 z4 z5 zV kV3
          go_wp2
          exact ⟨⟨i + 1, s, A ++ [⟨H, R, 1 + F⟩], true, by omega, by go_num, rfl, hAL, W4⟩, by simp [intOf]; omega⟩
        · clear KA z0 z1 z2 z3 z4 z5 zV
          have kV3 := kV2.kp K3 (by omega)
          obtain ⟨_, o3, b3, l3⟩ := W2.kp K3 L3
          have z0 := (kV3.cell 0).trans rfl
          have z1 := (kV3.cell 1).trans rfl
          have z2 := (kV3.cell 2).trans rfl
          have z3 := (kV3.cell 3).trans rfl
          have z4 := (kV3.cell 4).trans rfl
          have z5 := (kV3.cell 5).trans rfl
          have zV := kV3.lt
          clear W2 K3 kV2
          go_wp2_with (at_builtin; refine wpList_append_lies _ rfl _ _ _ rfl (lb + 1) 29 i0 (.agg #[.int .i64 0, .int .i64 0, .int .i64 0, .bool false, .int .u64 0, .int .i64 0]) 6 48 Try.underlying25 hinf hz0 hz1 hz2 rfl (by omega) (.slice aa A.length ac) A.length _ rfl (o3.alloc _) ⟨w3.heap.size, 0, none⟩ 1 1 [.int .i64 H, .int .i64 R, .int .i64 1, .bool false, .int .u64 0, .int .i64 (1 + F)] rfl rfl ?c1 ?c2 (by omega) ?c3 ?c4 ?c5 (w3.heap.size + 1) ?c6 ?_)
          case c1 =>
            intro j u hu
            rw [Addr.add_mid, Nat.zero_add, (Blk.new w3 #[.int .i64 H, .int .i64 R, .int .i64 1, .bool false, .int .u64 0, .int .i64 (1 + F)] 29).cell]
            simpa using hu
          case c2 => intro u hu; simp at hu; rcases hu with rfl | rfl | rfl | rfl | rfl | rfl <;> rfl
          case c3 => unfold maxLen; omega
          case c4 => omega
          case c5 => simp; omega
          case c6 => simp
          intro g cap w4 own4 hg4 hat4 hlt4
          have bA3 : Below w3.heap.size w3 (w3.alloc (.cells #[.int .i64 H, .int .i64 R, .int .i64 1, .bool false, .int .u64 0, .int .i64 (1 + F)] 29)) := (Below.refl _ _).alloc (Nat.le_refl _) _
          have ho3 := o3
          have bG : Below (lb + 1) (w3.alloc (.cells #[.int .i64 H, .int .i64 R, .int .i64 1, .bool false, .int .u64 0, .int .i64 (1 + F)] 29)) w4 := (Below.refl _ _).grown hg4 (by simp; omega) (fun k e => (o3.lt k e).1)
          have W4 : Wk w w4 lb (A ++ [⟨H, R, 1 + F⟩]) s false (.slice (some ⟨g, 0, none⟩) (A.length + 1) cap) := by
            refine ⟨LS.row (L3.below bA3) hg4 o3 (fun g hg => (bA3.block g (o3.lt g hg).2)), ?_, (b3.trans (bA3.mono b3.size)).trans (bG.mono (by omega)), l3⟩
            have e1 : (A ++ [(⟨H, R, 1 + F⟩ : Vk)]).length = A.length + 1 := by simp
            have e2 : flatK (A ++ [(⟨H, R, 1 + F⟩ : Vk)]) = flatK A ++ [.int .i64 H, .int .i64 R, .int .i64 1, .bool false, .int .u64 0, .int .i64 (1 + F)] := by simp [flatK, Vk.vc]
            rw [e1, e2]
            exact own4
          have hAL : (A ++ [(⟨H, R, 1 + F⟩ : Vk)]).length ≤ i + 1 := by simp; omega
          clear o3 ho3 own4 hg4 hat4 bA3 bG z0 z1 z2 z3 z4 z5 zV kV3
          go_wp2
          exact ⟨⟨i + 1, s, A ++ [⟨H, R, 1 + F⟩], false, by omega, by go_num, rfl, hAL, W4⟩, by simp [intOf]; omega⟩
    · have hge : ¬ (i : Int) < (ls.length : Int) := by omega
      go_wp2
      go_ret
      exact ⟨rfl, W.bel⟩
end Go.Proofs.Ytaidiomaaldphaa
