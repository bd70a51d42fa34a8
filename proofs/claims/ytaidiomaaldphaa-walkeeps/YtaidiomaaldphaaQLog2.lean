/- A log: a record more; it comes again. -/
import Derived.Test.YtaidiomaaldphaaQLog
import Derived.Test.YtaidiomaaldphaaQPut
namespace Go.Proofs.Ytaidiomaaldphaa
open Go.RowKit
set_option linter.unusedVariables false
set_option linter.unusedSimpArgs false

theorem log_stored {w w2 : World} {lb : Nat} {v v' : Value} {B more : List UInt8} {sf lf kp : Int} {dn : Bool} (hP : Blk w lb #[v, .int .i64 sf, .bool dn, .int .i64 lf, .int .i64 kp] 60) (hown : w.ownsRow lb 5 1 v B.length (bcells B)) (hg : w.grownBy w2 v.ownBlock)
    (hown2 : w2.ownsRow lb 5 1 v' (B.length + more.length) (bcells B ++ bcells more)) :
    Blk w2 lb #[v, .int .i64 sf, .bool dn, .int .i64 lf, .int .i64 kp] 60 ∧ LogAt (w2.setCell ⟨lb, 0, none⟩ v') lb (B ++ more) sf dn lf kp ∧ Kp lb lb w (w2.setCell ⟨lb, 0, none⟩ v') := by
  have k2 := hP.grown hg (owns_ne hown hP (by decide))
  refine ⟨k2, ⟨v', k2.set 0 v', ?_⟩, (Kp.of_grown hown hg (Nat.le_of_lt hP.lt) (Nat.le_refl _)).trans (Kp.set (Nat.le_refl _) 0 _)⟩
  have h := owns_set hown2 k2 (by decide) 0 v'
  rw [← bcells_append, ← List.length_append] at h
  exact h
/-- What Append leaves. -/
def AppE (lb : Nat) (B F : List UInt8) (sf : Nat) (dn : Bool) (lf kp : Int) (w : World) (e : Ending) (w' : World) : Prop :=
  (dn = true ∧ e = .returned (.int .i64 27) ∧ LogAt w' lb B sf true lf kp ∧ Kp lb lb w w') ∨ (dn = false ∧ ((e = .returned (.int .i64 27) ∧ Acted lb (B ++ F) sf true w w') ∨ (e = .returned (.int .i64 0) ∧ Acted lb (B ++ F) sf false w w')))
theorem Acted.pre {lb : Nat} {B : List UInt8} {sf : Nat} {d : Bool} {w w1 w' : World} (h : Acted lb B sf d w1 w') (k : Kp lb lb w w1) : Acted lb B sf d w w' := ⟨h.1, k.trans h.2⟩

set_option maxRecDepth 8000 in
set_option maxHeartbeats 3200000 in
theorem append_any (lb : Nat) (B : List UInt8) (sf : Nat) (dn : Bool) (lf kp : Int) (v : Vk) (hv : v.Ok) (w : World) (H : LogAt w lb B sf dn lf kp) (hs : sf ≤ B.length) (hB : B.length ≤ 500000) (hl : -9223372036854775808 ≤ lf ∧ lf ≤ 9223372036854775807) (hk : -9223372036854775808 ≤ kp ∧ kp ≤ 9223372036854775807) :
    Calls Try.prog 11 #[.pointer (some ⟨lb, 0, none⟩), .agg v.rc] w fun e w' => AppE lb B v.fr sf dn lf kp w e w' := by
  obtain ⟨i0, hinf, hz0, hz1, hz2⟩ := info_parts infoByte
  have KP := fun w' => putRecord_v v.h v.r v.f w' hv.1 hv.2.1 hv.2.2
  have KF := fun w' => frame_any v.body w' (by have := body_len v; omega)
  have hfl := fr_len v
  have hbl := body_len v
  have hlt := H.lt
  have kX := Blk.new w v.rc 54
  have bA : Below w.heap.size w (w.alloc (.cells v.rc 54)) := (Below.refl _ _).alloc (Nat.le_refl _) _
  have H1 := H.below bA
  have K1 : Kp lb lb w (w.alloc (.cells v.rc 54)) := Kp.of_below bA (Nat.le_of_lt hlt)
  have hCn : v.rc.size = 38 := rfl
  have KP' : ∀ w', Calls Try.prog 14 #[.agg v.rc] w' fun e w'' => e = .returned (.tuple #[.string ⟨v.body.toArray⟩, .int .i64 0]) ∧ Below w'.heap.size w' w'' := KP
  have KF' : ∀ w', Calls Try.prog 15 #[.string ⟨v.body.toArray⟩] w' fun e w'' => e = .returned (.string ⟨v.fr.toArray⟩) ∧ Below w'.heap.size w' w'' := KF
  clear KP KF H bA
  generalize v.rc = C at *
  generalize v.fr = F at *
  generalize v.body = D at *
  have hFl : F.length ≤ 268 := by omega
  have hszF := str_size' F
  clear hfl hbl hv
  go_enter Try.func11, Try.ntmps11
  go_upto_region 1 with fail
  generalize w.alloc (.cells C 54) = w1 at *
  refine wp_region_list ?_
  refine wpList_load_whole (by kernel_rfl) 54 _ rfl w.heap.size rfl C _ _ kX Try.underlying54 rfl (by rw [hCn]; kernel_rfl) ?_
  refine wpList_on (by kernel_rfl) (fun K hK => ?_)
  go_simp
  refine (KP' w1).mono ?_
  rintro e w2 ⟨rfl, b2⟩
  refine hK _ _ ?_
  clear hK K
  refine wpList_plain rfl (fun K hK => ?_)
  go_simp
  refine hK _ _ ?_
  clear hK K
  refine wpList_plain rfl (fun K hK => ?_)
  go_simp
  refine hK _ _ ?_
  clear hK K
  refine wpList_plain rfl (fun K hK => ?_)
  go_simp
  refine hK _ _ ?_
  clear hK K
  refine wpList_plain rfl (fun K hK => ?_)
  go_simp
  refine hK _ _ ?_
  clear hK K
  refine wpList_plain rfl (fun K hK => ?_)
  go_simp
  refine hK _ _ ?_
  clear hK K
  refine wpList_nil ?_
  simp only [Exit.then]
  have hlt1 := H1.lt
  have H2 := H1.below b2
  have K2 := K1.trans (Kp.of_below b2 (Nat.le_of_lt hlt1))
  clear H1 K1 b2 kX KP' hlt1
  have H3 := H2
  obtain ⟨lv, kP, hown⟩ := H3
  obtain ⟨av, cv, rfl⟩ := owns_form hown
  have c2 := (kP.cell 2).trans rfl
  have c0 := (kP.cell 0).trans rfl
  have f0 := kP.frozen 0
  have hlt2 := kP.lt
  cases dn
  · go_wp2_with fail
    go_region_law
      (first
      | (have hb34 := b34
         refine step_append_str _ (by rfl) _ _ _ _ (by rfl) lb 5 i0 Try.underlying58 Try.underlying9 hinf hz0 hz1 hz2 (.slice av B.length cv) B.length (bcells B) (by rfl) (owns_below hown b34) ⟨F.toArray⟩ (by rfl) (by rw [hszF]; unfold maxLen; omega) (by rw [hszF]; omega) (Nat.le_of_lt lt4) ?_
         intro a5 c5 w5 hown5 hgrow5
         have hown5' : w5.ownsRow lb 5 1 (.slice a5 (B.length + (⟨F.toArray⟩ : ByteArray).size) c5) (B.length + F.length) (bcells B ++ bcells F) := by
           rw [← bcells_str, ← hszF]; exact hown5
         obtain ⟨kP5, hL6, hK6⟩ := log_stored (more := F) kP4 (owns_below hown b34) hgrow5 hown5'
         have c50 := (kP5.cell 0).trans rfl
         have f50 := kP5.frozen 0
         have lt5 := kP5.lt)
      | (go_simp
         go_at_call 15
         refine (KF' _).mono ?_
         rintro e w4 ⟨rfl, b4⟩
         have b34 : Below w2.heap.size w2 w4 := ((Below.refl _ _).drew).trans b4
         have kP4 := kP.below b34 hlt2
         have c40 := (kP4.cell 0).trans rfl
         have f40 := kP4.frozen 0
         have lt4 := kP4.lt))
    all_goals
      rw [hszF] at hL6 hK6
      have K6 := K2.trans ((Kp.of_below b34 (Nat.le_of_lt hlt2)).trans hK6)
      generalize w5.setCell ⟨lb, 0, none⟩ (.slice a5 (B.length + F.length) c5) = w6 at *
      clear hK6 hown5 hown5' hgrow5 kP5 c50 f50 lt5 kP4 c40 f40 lt4 b34 b4 kP hown c0 c2 f0 H2 K2
      go_wp2_with fail
      refine (diesNow_any lb (B ++ F) sf lf kp w6 hL6 (by rw [List.length_append]; omega) (by rw [List.length_append]; omega) hl hk).mono ?_
      rintro e w7 ⟨d, rfl, Ac⟩
      have Ac' := Ac.pre K6
      clear Ac K6 hL6
      cases d
      · go_wp2
        go_ret
        exact .inr ⟨rfl, .inr ⟨rfl, Ac'⟩⟩
      · go_wp2
        go_ret
        exact .inr ⟨rfl, .inl ⟨rfl, Ac'⟩⟩
  · go_wp2
    go_ret
    exact .inl ⟨rfl, rfl, H2, K2⟩

theorem walNew_any (w : World) : Calls Try.prog 4 #[] w fun e w' => e = .returned (.pointer (some ⟨w.heap.size, 0, none⟩)) ∧ w' = w.alloc (.cells #[.slice none 0 0, .int .i64 0, .bool false, .int .i64 0, .int .i64 0] 60) := by
  go_enter Try.func4, Try.ntmps4
  go_wp2
  go_ret
  exact ⟨rfl, rfl⟩
/-- What Begin leaves. -/
def BegE (lb : Nat) (A : List Vk) (n : Nat) (w : World) (e : Ending) (w' : World) : Prop :=
  ∃ rv lf kp, e = .returned rv ∧ w'.ownsRow w.heap.size 54 38 rv (whole A n) (flatR (A.take (whole A n))) ∧ LogAt w' lb (frs (A.take (whole A n))) (frs (A.take (whole A n))).length false lf kp ∧ (-9223372036854775808 ≤ lf ∧ lf ≤ 9223372036854775807) ∧ (-9223372036854775808 ≤ kp ∧ kp ≤ 9223372036854775807) ∧ Kp lb lb w w'

set_option maxHeartbeats 1600000 in
/-- Begin, once it is down. -/
theorem begin_rest (lb : Nat) (A : List Vk) (n : Nat) (sf : Nat) (dn : Bool) (lf kp : Int) (w : World) (H : LogAt w lb ((frs A).take n) sf dn lf kp) (hA : ∀ a ∈ A, a.Ok) (hl : A.length ≤ 512) (hn : n ≤ (frs A).length) (hs : sf ≤ n) (hlf : -9223372036854775808 ≤ lf ∧ lf ≤ 9223372036854775807) (hkp : -9223372036854775808 ≤ kp ∧ kp ≤ 9223372036854775807) :
    Calls Try.prog 9 #[.pointer (some ⟨lb, 0, none⟩)] w fun e w' => BegE lb A n w e w' := by
  have hsm := frs_small A
  have hBl : ((frs A).take n).length = n := by rw [List.length_take]; omega
  have KD : Calls Try.prog 8 #[.pointer (some ⟨lb, 0, none⟩), .int .i64 n] w fun e w' => e = .returned (.tuple #[]) ∧ (∃ (sf2 : Nat) (lf2 kp2 : Int), (-9223372036854775808 ≤ lf2 ∧ lf2 ≤ 9223372036854775807) ∧ (-9223372036854775808 ≤ kp2 ∧ kp2 ≤ 9223372036854775807) ∧ LogAt w' lb ((frs A).take n) sf2 true lf2 kp2) ∧ Kp lb lb w w' := by
    cases dn
    · refine (die_any lb ((frs A).take n) sf false lf kp n w H (by omega) (by omega) (by omega)).mono ?_
      rintro e w' ⟨rfl, ⟨m, h1, h2, h3, L⟩, K⟩
      refine ⟨rfl, ⟨m, 0, 0, by omega, by omega, ?_⟩, K⟩
      have hm := h3 (by rw [hBl])
      rw [hm, List.take_length] at L
      rw [hm]
      exact L
    · refine (die_down lb ((frs A).take n) sf lf kp n w H).mono ?_
      rintro e w' ⟨rfl, rfl⟩
      exact ⟨rfl, ⟨sf, lf, kp, hlf, hkp, H⟩, Kp.refl _ _ _⟩
  have KR := fun w' => readAll_any A n w' hA hl hn
  have hwf := whole_fits A n
  have htk : ((frs A).take n).take (frs (A.take (whole A n))).length = frs (A.take (whole A n)) := by
    have h : frs A = frs (A.take (whole A n)) ++ frs (A.drop (whole A n)) := by rw [← frs_app, List.take_append_drop]
    rw [List.take_take, Nat.min_eq_left hwf]
    conv => lhs; rw [h]
    rw [List.take_left]
  have hlt := H.lt
  have hz0 := H.lt
  obtain ⟨v, kP, ho⟩ := H
  rw [hBl] at ho
  obtain ⟨a0, cc0, rfl⟩ := owns_form ho
  have c0 := (kP.cell 0).trans rfl
  generalize hJJ : whole A n = J at *
  generalize hBB : (frs A).take n = B at *
  generalize hFF : frs (A.take J) = F at *
  have HA := show Hid (_ ∧ _ ∧ _) from ⟨hBB, hFF, htk⟩
  have HJ := show Hid (_ = _) from hJJ
  clear hBB hFF htk hJJ
  go_enter Try.func9, Try.ntmps9
  go_wp2_with fail
  refine KD.mono ?_
  rintro e w1 ⟨rfl, ⟨sf2, lf2, kp2, hl2, hk2, L1⟩, K1⟩
  clear c0 kP ho KD
  obtain ⟨v, k1, o1⟩ := L1
  rw [hBl] at o1
  obtain ⟨a, c, rfl⟩ := owns_form o1
  have c2 := (k1.cell 2).trans rfl
  have f2 := k1.frozen 2
  have z1 := k1.lt
  have k2 : Blk (w1.setCell ⟨lb, 2, none⟩ (.bool false)) lb #[.slice a n c, .int .i64 sf2, .bool false, .int .i64 lf2, .int .i64 kp2] 60 := k1.set 2 (.bool false)
  have o2 := owns_set o1 k1 (by decide) 2 (.bool false)
  have K2 := K1.trans (Kp.set (Nat.le_refl _) 2 (.bool false))
  clear K1
  go_upto_region 3 with fail
  generalize w1.setCell ⟨lb, 2, none⟩ (.bool false) = w2 at *
  clear c2 f2 z1 k1 o1
  have c0 := (k2.cell 0).trans rfl
  have z2 := k2.lt
  have hcv := conv_own (out := B) (by rw [hBl]; exact o2)
  go_wp2_with fail
  refine (KR w2).mono ?_
  rintro e w3 ⟨⟨rv, rfl, orv⟩, b3⟩
  have k3 := k2.below b3 k2.lt
  have o3 := owns_below o2 b3
  have K3 := K2.trans (Kp.of_below b3 (Nat.le_of_lt z2))
  have hz2 := K2.size
  clear c0 z2 hcv k2 o2 K2 b3 KR
  have hcap := owns_cap o3
  have d0 := (k3.cell 0).trans rfl
  have d1 := (k3.cell 1).trans rfl
  have e0 := k3.frozen 0
  have e1 := k3.frozen 1
  have z3 := k3.lt
  have hFc : (0 : Int) ≤ (F.length : Int) ∧ (F.length : Int) ≤ (c : Int) := by omega
  have o4 := owns_take o3 hBl F.length hwf
  have hbt := HA.out.2.2
  rw [hbt] at o4
  have k4 := k3.set 0 (.slice a F.length c)
  have o5 := owns_set o4 k3 (by decide) 0 (.slice a F.length c)
  have k5 : Blk ((w3.setCell ⟨lb, 0, none⟩ (.slice a F.length c)).setCell ⟨lb, 1, none⟩ (.int .i64 (F.length : Int))) lb #[.slice a F.length c, .int .i64 (F.length : Int), .bool false, .int .i64 lf2, .int .i64 kp2] 60 := k4.set 1 (.int .i64 (F.length : Int))
  have o6 := owns_set o5 k4 (by decide) 1 (.int .i64 (F.length : Int))
  have K5 := (K3.trans (Kp.set (Nat.le_refl _) 0 (.slice a F.length c))).trans (Kp.set (Nat.le_refl _) 1 (.int .i64 (F.length : Int)))
  have hrv : ∀ g, rv.ownBlock = some g → ¬ (g = lb) := fun g hg e => by have := (orv.lt g hg).1; omega
  have orv2 := ((but_set w3 lb 0 (.slice a F.length c)).trans (but_set _ lb 1 (.int .i64 (F.length : Int)))).owns orv hrv
  have orv3 : ((w3.setCell ⟨lb, 0, none⟩ (.slice a F.length c)).setCell ⟨lb, 1, none⟩ (.int .i64 (F.length : Int))).ownsRow w.heap.size 54 38 rv J (flatR (A.take J)) := by
    obtain ⟨q1, q2⟩ := orv2
    refine ⟨q1, ?_⟩
    rcases q2 with q | ⟨g, cap, cur, y1, y2, y3⟩
    · exact .inl q
    · exact .inr ⟨g, cap, cur, y1, Nat.le_trans hz2 y2, y3⟩
  clear orv orv2 o4 o5 k4 o3 hbt K3 hrv
  go_wp2
  go_ret
  refine ⟨rv, lf2, kp2, rfl, ?_, ?_, hl2, hk2, K5⟩
  · rw [HJ.out]; exact orv3
  · rw [HJ.out, HA.out.2.1]; exact ⟨_, k5, o6⟩
end Go.Proofs.Ytaidiomaaldphaa
