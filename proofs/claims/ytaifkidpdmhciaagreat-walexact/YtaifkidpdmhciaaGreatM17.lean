/- A log: a record more; it comes again. -/
import Derived.Test.YtaifkidpdmhciaaGreatM14
import Derived.Test.YtaifkidpdmhciaaGreatM09
import Derived.Test.YtaifkidpdmhciaaGreatM16

namespace Go.Proofs.YtaifkidpdmhciaaGreat
open Go.RowKit
set_option linter.unusedVariables false
set_option linter.unusedSimpArgs false

theorem log_stored {w w2 : World} {lb : Nat} {v v' : Value} {B more : List UInt8} {sf lf kp : Int} {dn : Bool} (hP : Blk w lb #[v, .int .i64 sf, .bool dn, .int .i64 lf, .int .i64 kp] 65) (hown : w.ownsRow lb 5 1 v B.length (bcells B)) (hg : w.grownBy w2 v.ownBlock)
    (hown2 : w2.ownsRow lb 5 1 v' (B.length + more.length) (bcells B ++ bcells more)) :
    Blk w2 lb #[v, .int .i64 sf, .bool dn, .int .i64 lf, .int .i64 kp] 65 ∧ LogAt (w2.setCell ⟨lb, 0, none⟩ v') lb (B ++ more) sf dn lf kp ∧ Kp lb lb w (w2.setCell ⟨lb, 0, none⟩ v') := by
  have k2 := hP.grown hg (owns_ne hown hP (by decide))
  refine ⟨k2, ⟨v', k2.set 0 v', ?_⟩, (Kp.of_grown hown hg (Nat.le_of_lt hP.lt) (Nat.le_refl _)).trans (Kp.set (Nat.le_refl _) 0 _)⟩
  have h := owns_set hown2 k2 (by decide) 0 v'
  rw [← bcells_append, ← List.length_append] at h
  exact h
/-- What Append leaves. -/
def AppE (lb : Nat) (B F : List UInt8) (sf : Nat) (dn : Bool) (lf kp : Int) (w : World) (e : Ending) (w' : World) : Prop :=
  (dn = true ∧ e = .returned (.int .i64 27) ∧ LogAt w' lb B sf true lf kp ∧ Kp lb lb w w') ∨ (dn = false ∧ ((lf = 1 ∧ e = .returned (.int .i64 27) ∧ ActX lb (B ++ F) sf lf kp w w') ∨ (lf ≠ 1 ∧ e = .returned (.int .i64 0) ∧ ActX lb (B ++ F) sf lf kp w w')))

set_option maxRecDepth 8000 in
set_option maxHeartbeats 3200000 in
theorem append_any (lb : Nat) (B : List UInt8) (sf : Nat) (dn : Bool) (lf kp : Int) (v : Vk) (w : World) (KP : ∀ w', Below w.heap.size w w' → Calls Tryz.prog 25 #[.agg v.rc] w' fun e w'' => e = .returned (.tuple #[.string ⟨v.body.toArray⟩, .int .i64 0]) ∧ Below w'.heap.size w' w'') (H : LogAt w lb B sf dn lf kp) (hs : sf ≤ B.length) (hB : B.length ≤ 500000) (hl : -9223372036854775808 ≤ lf ∧ lf ≤ 9223372036854775807) (hk : -9223372036854775808 ≤ kp ∧ kp ≤ 9223372036854775807) :
    Calls Tryz.prog 15 #[.pointer (some ⟨lb, 0, none⟩), .agg v.rc] w fun e w' => AppE lb B v.fr sf dn lf kp w e w' := by
  obtain ⟨i0, hinf, hz0, hz1, hz2⟩ := info_parts infoByte
  have KF := fun w' => frame_any v.body w' (by have := body_len v; omega)
  have hfl := fr_len v
  have hbl := body_len v
  have hlt := H.lt
  have kX := Blk.new w v.rc 57
  have bA : Below w.heap.size w (w.alloc (.cells v.rc 57)) := (Below.refl _ _).alloc (Nat.le_refl _) _
  have H1 := H.below bA
  have K1 : Kp lb lb w (w.alloc (.cells v.rc 57)) := Kp.of_below bA (Nat.le_of_lt hlt)
  have hCn : v.rc.size = 38 := rfl
  have KP' := KP _ bA
  have KF' : ∀ w', Calls Tryz.prog 26 #[.string ⟨v.body.toArray⟩] w' fun e w'' => e = .returned (.string ⟨v.fr.toArray⟩) ∧ Below w'.heap.size w' w'' := KF
  clear KP KF H bA
  generalize v.rc = C at *
  generalize v.fr = F at *
  generalize v.body = D at *
  have hFl : F.length ≤ 268 := by omega
  have hszF := str_size' F
  clear hfl hbl
  go_enter Tryz.func15, Tryz.ntmps15
  go_upto_region 1 with fail
  generalize w.alloc (.cells C 57) = w1 at *
  refine wp_region_list ?_
  refine wpList_load_whole (by kernel_rfl) 57 _ rfl w.heap.size rfl C _ _ kX Tryz.underlying57 rfl (by rw [hCn]; kernel_rfl) ?_
  refine wpList_on (by kernel_rfl) (fun K hK => ?_)
  go_simp
  refine KP'.mono ?_
  rintro e w2 ⟨rfl, b2⟩
  refine hK _ _ ?_
  clear hK K
  refine wpList_plain rfl (fun K hK => ?_)
  go_simp
  refine hK _ _ ?_
  clear hK K
  refine wpList_plain rfl (fun K hK => ?_)
  go_simp
  refine hK _ _ ?_
  clear hK K
  refine wpList_plain rfl (fun K hK => ?_)
  go_simp
  refine hK _ _ ?_
  clear hK K
  refine wpList_plain rfl (fun K hK => ?_)
  go_simp
  refine hK _ _ ?_
  clear hK K
  refine wpList_plain rfl (fun K hK => ?_)
  go_simp
  refine hK _ _ ?_
  clear hK K
  refine wpList_nil ?_
  simp only [Exit.then]
  have hlt1 := H1.lt
  have H2 := H1.below b2
  have K2 := K1.trans (Kp.of_below b2 (Nat.le_of_lt hlt1))
  clear H1 K1 b2 kX KP' hlt1
  have H3 := H2
  obtain ⟨lv, kP, hown⟩ := H3
  obtain ⟨av, cv, rfl⟩ := owns_form hown
  have c2 := (kP.cell 2).trans rfl
  have c0 := (kP.cell 0).trans rfl
  have f0 := kP.frozen 0
  have hlt2 := kP.lt
  cases dn
  · go_wp2_with fail
    go_region_law
      (first
      | (have hb34 := b34
         refine step_append_str _ (by rfl) _ _ _ _ (by rfl) lb 5 i0 Tryz.underlying63 Tryz.underlying9 hinf hz0 hz1 hz2 (.slice av B.length cv) B.length (bcells B) (by rfl) (owns_below hown b34) ⟨F.toArray⟩ (by rfl) (by rw [hszF]; unfold maxLen; omega) (by rw [hszF]; omega) (Nat.le_of_lt lt4) ?_
         intro a5 c5 w5 hown5 hgrow5
         have hown5' : w5.ownsRow lb 5 1 (.slice a5 (B.length + (⟨F.toArray⟩ : ByteArray).size) c5) (B.length + F.length) (bcells B ++ bcells F) := by
           rw [← bcells_str, ← hszF]; exact hown5
         obtain ⟨kP5, hL6, hK6⟩ := log_stored (more := F) kP4 (owns_below hown b34) hgrow5 hown5'
         have c50 := (kP5.cell 0).trans rfl
         have f50 := kP5.frozen 0
         have lt5 := kP5.lt)
      | (go_simp
         go_at_call 26
         refine (KF' _).mono ?_
         rintro e w4 ⟨rfl, b4⟩
         have b34 : Below w2.heap.size w2 w4 := ((Below.refl _ _).drew).trans b4
         have kP4 := kP.below b34 hlt2
         have c40 := (kP4.cell 0).trans rfl
         have f40 := kP4.frozen 0
         have lt4 := kP4.lt))
    all_goals
      rw [hszF] at hL6 hK6
      have K6 := K2.trans ((Kp.of_below b34 (Nat.le_of_lt hlt2)).trans hK6)
      generalize w5.setCell ⟨lb, 0, none⟩ (.slice a5 (B.length + F.length) c5) = w6 at *
      clear hK6 hown5 hown5' hgrow5 kP5 c50 f50 lt5 kP4 c40 f40 lt4 b34 b4 kP hown c0 c2 f0 H2 K2
      go_wp2_with fail
      refine (diesNow_any lb (B ++ F) sf lf kp w6 hL6 (by rw [List.length_append]; omega) (by rw [List.length_append]; omega) hl hk).mono ?_
      rintro e w7 ⟨d, rfl, hd, Ac⟩
      have Ac' := Ac.pre K6
      clear Ac K6 hL6
      cases d
      · have HD : Hid (lf ≠ 1) := fun q => by have := hd.2 q; cases this
        clear hd
        go_wp2
        go_ret
        exact .inr ⟨rfl, .inr ⟨HD.out, rfl, Ac'⟩⟩
      · have HD : Hid (lf = 1) := hd.1 rfl
        clear hd
        go_wp2
        go_ret
        exact .inr ⟨rfl, .inl ⟨HD.out, rfl, Ac'⟩⟩
  · go_wp2
    go_ret
    exact .inl ⟨rfl, rfl, H2, K2⟩

theorem walNew_any (w : World) : Calls Tryz.prog 4 #[] w fun e w' => e = .returned (.pointer (some ⟨w.heap.size, 0, none⟩)) ∧ w' = w.alloc (.cells #[.slice none 0 0, .int .i64 0, .bool false, .int .i64 0, .int .i64 0] 65) := by
  go_enter Tryz.func4, Tryz.ntmps4
  go_wp2
  go_ret
  exact ⟨rfl, rfl⟩
/-- What Begin leaves. -/
def BegE (lb : Nat) (A : List Vk) (n : Nat) (dn : Bool) (lf0 kp0 : Int) (w : World) (e : Ending) (w' : World) : Prop :=
  ∃ rv lf kp, e = .returned rv ∧ w'.ownsRow w.heap.size 57 38 rv (whole A n) (flatR (A.take (whole A n))) ∧ LogAt w' lb (frs (A.take (whole A n))) (frs (A.take (whole A n))).length false lf kp ∧ (dn = true → lf = lf0 ∧ kp = kp0) ∧ (dn = false → lf = 0 ∧ kp = 0) ∧ Kp lb lb w w'

set_option maxHeartbeats 1600000 in
/-- Begin, once it is down. -/
theorem begin_rest (lb : Nat) (A : List Vk) (n : Nat) (sf : Nat) (dn : Bool) (lf kp : Int) (w : World) (H : LogAt w lb ((frs A).take n) sf dn lf kp) (hA : ∀ a ∈ A, a.Ok) (hl : A.length ≤ 512) (hn : n ≤ (frs A).length) (hs : sf ≤ n) (hlf : -9223372036854775808 ≤ lf ∧ lf ≤ 9223372036854775807) (hkp : -9223372036854775808 ≤ kp ∧ kp ≤ 9223372036854775807) :
    Calls Tryz.prog 12 #[.pointer (some ⟨lb, 0, none⟩)] w fun e w' => BegE lb A n dn lf kp w e w' := by
  have hsm := frs_small A
  have hBl : ((frs A).take n).length = n := by rw [List.length_take]; omega
  have KD : Calls Tryz.prog 10 #[.pointer (some ⟨lb, 0, none⟩), .int .i64 n] w fun e w' => e = .returned (.tuple #[]) ∧ (∃ (sf2 : Nat) (lf2 kp2 : Int), Hid ((dn = true → lf2 = lf ∧ kp2 = kp) ∧ (dn = false → lf2 = 0 ∧ kp2 = 0)) ∧ LogAt w' lb ((frs A).take n) sf2 true lf2 kp2) ∧ Kp lb lb w w' := by
    cases dn
    · refine (die_any lb ((frs A).take n) sf false lf kp n w H (by omega) (by omega) (by omega)).mono ?_
      rintro e w' ⟨rfl, L, K⟩
      have hm : dieN sf ((frs A).take n).length n = n := by rw [hBl]; exact dieN_all sf n hs
      rw [hm, List.take_of_length_le (by omega)] at L
      exact ⟨rfl, ⟨n, 0, 0, ⟨(fun q => by cases q), fun _ => ⟨rfl, rfl⟩⟩, L⟩, K⟩
    · refine (die_down lb ((frs A).take n) sf lf kp n w H).mono ?_
      rintro e w' ⟨rfl, rfl⟩
      exact ⟨rfl, ⟨sf, lf, kp, ⟨fun _ => ⟨rfl, rfl⟩, (fun q => by cases q)⟩, H⟩, Kp.refl _ _ _⟩
  have KR := fun w' => readAll_any A n w' hA hl hn
  have hwf := whole_fits A n
  have htk : ((frs A).take n).take (frs (A.take (whole A n))).length = frs (A.take (whole A n)) := by
    have h : frs A = frs (A.take (whole A n)) ++ frs (A.drop (whole A n)) := by rw [← frs_app, List.take_append_drop]
    rw [List.take_take, Nat.min_eq_left hwf]
    conv => lhs; rw [h]
    rw [List.take_left]
  have hlt := H.lt
  have hz0 := H.lt
  obtain ⟨v, kP, ho⟩ := H
  rw [hBl] at ho
  obtain ⟨a0, cc0, rfl⟩ := owns_form ho
  have c0 := (kP.cell 0).trans rfl
  generalize hJJ : whole A n = J at *
  generalize hBB : (frs A).take n = B at *
  generalize hFF : frs (A.take J) = F at *
  have HA := show Hid (_ ∧ _ ∧ _) from ⟨hBB, hFF, htk⟩
  have HJ := show Hid (_ = _) from hJJ
  clear hBB hFF htk hJJ
  go_enter Tryz.func12, Tryz.ntmps12
  go_wp2_with fail
  refine KD.mono ?_
  rintro e w1 ⟨rfl, ⟨sf2, lf2, kp2, HLK, L1⟩, K1⟩
  clear c0 kP ho KD
  obtain ⟨v, k1, o1⟩ := L1
  rw [hBl] at o1
  obtain ⟨a, c, rfl⟩ := owns_form o1
  have c2 := (k1.cell 2).trans rfl
  have f2 := k1.frozen 2
  have z1 := k1.lt
  have k2 : Blk (w1.setCell ⟨lb, 2, none⟩ (.bool false)) lb #[.slice a n c, .int .i64 sf2, .bool false, .int .i64 lf2, .int .i64 kp2] 65 := k1.set 2 (.bool false)
  have o2 := owns_set o1 k1 (by decide) 2 (.bool false)
  have K2 := K1.trans (Kp.set (Nat.le_refl _) 2 (.bool false))
  clear K1
  go_upto_region 3 with fail
  generalize w1.setCell ⟨lb, 2, none⟩ (.bool false) = w2 at *
  clear c2 f2 z1 k1 o1
  have c0 := (k2.cell 0).trans rfl
  have z2 := k2.lt
  have hcv := conv_own (out := B) (by rw [hBl]; exact o2)
  go_wp2_with fail
  refine (KR w2).mono ?_
  rintro e w3 ⟨⟨rv, rfl, orv⟩, b3⟩
  have k3 := k2.below b3 k2.lt
  have o3 := owns_below o2 b3
  have K3 := K2.trans (Kp.of_below b3 (Nat.le_of_lt z2))
  have hz2 := K2.size
  clear c0 z2 hcv k2 o2 K2 b3 KR
  have hcap := owns_cap o3
  have d0 := (k3.cell 0).trans rfl
  have d1 := (k3.cell 1).trans rfl
  have e0 := k3.frozen 0
  have e1 := k3.frozen 1
  have z3 := k3.lt
  have hFc : (0 : Int) ≤ (F.length : Int) ∧ (F.length : Int) ≤ (c : Int) := by omega
  have o4 := owns_take o3 hBl F.length hwf
  have hbt := HA.out.2.2
  rw [hbt] at o4
  have k4 := k3.set 0 (.slice a F.length c)
  have o5 := owns_set o4 k3 (by decide) 0 (.slice a F.length c)
  have k5 : Blk ((w3.setCell ⟨lb, 0, none⟩ (.slice a F.length c)).setCell ⟨lb, 1, none⟩ (.int .i64 (F.length : Int))) lb #[.slice a F.length c, .int .i64 (F.length : Int), .bool false, .int .i64 lf2, .int .i64 kp2] 65 := k4.set 1 (.int .i64 (F.length : Int))
  have o6 := owns_set o5 k4 (by decide) 1 (.int .i64 (F.length : Int))
  have K5 := (K3.trans (Kp.set (Nat.le_refl _) 0 (.slice a F.length c))).trans (Kp.set (Nat.le_refl _) 1 (.int .i64 (F.length : Int)))
  have hrv : ∀ g, rv.ownBlock = some g → ¬ (g = lb) := fun g hg e => by have := (orv.lt g hg).1; omega
  have orv2 := ((but_set w3 lb 0 (.slice a F.length c)).trans (but_set _ lb 1 (.int .i64 (F.length : Int)))).owns orv hrv
  have orv3 : ((w3.setCell ⟨lb, 0, none⟩ (.slice a F.length c)).setCell ⟨lb, 1, none⟩ (.int .i64 (F.length : Int))).ownsRow w.heap.size 57 38 rv J (flatR (A.take J)) := by
    obtain ⟨q1, q2⟩ := orv2
    refine ⟨q1, ?_⟩
    rcases q2 with q | ⟨g, cap, cur, y1, y2, y3⟩
    · exact .inl q
    · exact .inr ⟨g, cap, cur, y1, Nat.le_trans hz2 y2, y3⟩
  clear orv orv2 o4 o5 k4 o3 hbt K3 hrv
  go_wp2
  go_ret
  refine ⟨rv, lf2, kp2, rfl, ?_, ?_, HLK.out.1, HLK.out.2, K5⟩
  · rw [HJ.out]; exact orv3
  · rw [HJ.out, HA.out.2.1]; exact ⟨_, k5, o6⟩
end Go.Proofs.YtaifkidpdmhciaaGreat

namespace Go.Proofs.YtaifkidpdmhciaaGreat
open Go.RowKit
set_option linter.unusedVariables false
set_option linter.unusedSimpArgs false

set_option maxRecDepth 8000 in
set_option maxHeartbeats 1600000 in
theorem append_bad (lb : Nat) (C : Array Value) (hCn : C.size = 38) (S : ByteArray) (E : Int) (hE : E ≠ 0) (w : World) (KP : ∀ w', Below w.heap.size w w' → Calls Tryz.prog 25 #[.agg C] w' fun e w'' => e = .returned (.tuple #[.string S, .int .i64 E]) ∧ Below w'.heap.size w' w'') :
    Calls Tryz.prog 15 #[.pointer (some ⟨lb, 0, none⟩), .agg C] w fun e w' => e = .returned (.int .i64 E) ∧ Below w.heap.size w w' := by
  have kX := Blk.new w C 57
  have bA : Below w.heap.size w (w.alloc (.cells C 57)) := (Below.refl _ _).alloc (Nat.le_refl _) _
  have KP' := KP _ bA
  have hEb : (E == 0) = false := by simpa using hE
  clear KP hE
  go_enter Tryz.func15, Tryz.ntmps15
  go_upto_region 1 with fail
  generalize w.alloc (.cells C 57) = w1 at *
  refine wp_region_list ?_
  refine wpList_load_whole (by kernel_rfl) 57 _ rfl w.heap.size rfl C _ _ kX Tryz.underlying57 rfl (by rw [hCn]; kernel_rfl) ?_
  refine wpList_on (by kernel_rfl) (fun K hK => ?_)
  go_simp
  refine KP'.mono ?_
  rintro e w2 ⟨rfl, b2⟩
  refine hK _ _ ?_
  clear hK K
  refine wpList_plain rfl (fun K hK => ?_)
  go_simp
  refine hK _ _ ?_
  clear hK K
  refine wpList_plain rfl (fun K hK => ?_)
  go_simp
  refine hK _ _ ?_
  clear hK K
  refine wpList_plain rfl (fun K hK => ?_)
  go_simp
  refine hK _ _ ?_
  clear hK K
  refine wpList_plain rfl (fun K hK => ?_)
  go_simp
  refine hK _ _ ?_
  clear hK K
  refine wpList_plain rfl (fun K hK => ?_)
  go_simp
  refine hK _ _ ?_
  clear hK K
  refine wpList_nil ?_
  simp only [Exit.then]
  have B2 := bA.trans (b2.mono bA.size)
  clear bA b2 kX KP'
  go_wp2
  go_ret
  exact ⟨rfl, B2⟩

set_option maxRecDepth 8000 in
set_option maxHeartbeats 1600000 in
theorem rappend_bad (rb : Nat) (C : Array Value) (hCn : C.size = 38) (S : ByteArray) (E : Int) (hE : E ≠ 0) (w : World) (KP : ∀ w', Below w.heap.size w w' → Calls Tryz.prog 24 #[.agg C] w' fun e w'' => e = .returned (.tuple #[.string S, .int .i64 E]) ∧ Below w'.heap.size w' w'') :
    Calls Tryz.prog 16 #[.pointer (some ⟨rb, 0, none⟩), .agg C] w fun e w' => e = .returned (.int .i64 E) ∧ Below w.heap.size w w' := by
  have kX := Blk.new w C 57
  have bA : Below w.heap.size w (w.alloc (.cells C 57)) := (Below.refl _ _).alloc (Nat.le_refl _) _
  have KP' := KP _ bA
  have hEb : (E == 0) = false := by simpa using hE
  clear KP hE
  go_enter Tryz.func16, Tryz.ntmps16
  go_upto_region 1 with fail
  generalize w.alloc (.cells C 57) = w1 at *
  refine wp_region_list ?_
  refine wpList_load_whole (by kernel_rfl) 57 _ rfl w.heap.size rfl C _ _ kX Tryz.underlying57 rfl (by rw [hCn]; kernel_rfl) ?_
  refine wpList_on (by kernel_rfl) (fun K hK => ?_)
  go_simp
  refine KP'.mono ?_
  rintro e w2 ⟨rfl, b2⟩
  refine hK _ _ ?_
  clear hK K
  refine wpList_plain rfl (fun K hK => ?_)
  go_simp
  refine hK _ _ ?_
  clear hK K
  refine wpList_plain rfl (fun K hK => ?_)
  go_simp
  refine hK _ _ ?_
  clear hK K
  refine wpList_plain rfl (fun K hK => ?_)
  go_simp
  refine hK _ _ ?_
  clear hK K
  refine wpList_plain rfl (fun K hK => ?_)
  go_simp
  refine hK _ _ ?_
  clear hK K
  refine wpList_plain rfl (fun K hK => ?_)
  go_simp
  refine hK _ _ ?_
  clear hK K
  refine wpList_nil ?_
  simp only [Exit.then]
  have B2 := bA.trans (b2.mono bA.size)
  clear bA b2 kX KP'
  go_wp2
  go_ret
  exact ⟨rfl, B2⟩

/-- What the answer's Append leaves. -/
def RAppE (rb : Nat) (B F : List UInt8) (sf : Nat) (dn : Bool) (lf kp : Int) (w : World) (e : Ending) (w' : World) : Prop :=
  (dn = true ∧ e = .returned (.int .i64 27) ∧ Below w.heap.size w w') ∨ (dn = false ∧ ((lf = 1 ∧ e = .returned (.int .i64 27) ∧ RActX rb (B ++ F) sf lf kp w w') ∨ (lf ≠ 1 ∧ e = .returned (.int .i64 0) ∧ RActX rb (B ++ F) sf lf kp w w')))
theorem RActX.pre {rb : Nat} {B : List UInt8} {sf : Nat} {lf kp : Int} {w w1 w' : World} (h : RActX rb B sf lf kp w1 w') (k : But (fun k => k = rb) w w1) : RActX rb B sf lf kp w w' := ⟨h.dies, h.not_, k.trans h.but_⟩

set_option maxRecDepth 8000 in
set_option maxHeartbeats 3200000 in
theorem rappend_any (rb : Nat) (B : List UInt8) (sf : Nat) (dn : Bool) (lf kp : Int) (v : Vk) (w : World) (KP : ∀ w', Below w.heap.size w w' → Calls Tryz.prog 24 #[.agg v.rc] w' fun e w'' => e = .returned (.tuple #[.string ⟨v.body.toArray⟩, .int .i64 0]) ∧ Below w'.heap.size w' w'') (H : RLogAt w rb B sf lf kp dn) (hs : sf ≤ B.length) (hB : B.length ≤ 500000) (hl : 0 ≤ lf ∧ lf ≤ 9223372036854775807) (hk1 : -9223372036854775808 ≤ kp ∧ kp ≤ 9223372036854775807) :
    Calls Tryz.prog 16 #[.pointer (some ⟨rb, 0, none⟩), .agg v.rc] w fun e w' => RAppE rb B v.fr sf dn lf kp w e w' := by
  have KF := fun w' => rframe_any v.body w' (body_len v)
  have hfl := fr_len v
  have hbl := body_len v
  have kX := Blk.new w v.rc 57
  have bA : Below w.heap.size w (w.alloc (.cells v.rc 57)) := (Below.refl _ _).alloc (Nat.le_refl _) _
  have KP' := KP _ bA
  have hCn : v.rc.size = 38 := rfl
  have KF' : ∀ w', Calls Tryz.prog 22 #[.string ⟨v.body.toArray⟩] w' fun e w'' => e = .returned (.string ⟨v.fr.toArray⟩) ∧ Below w'.heap.size w' w'' := KF
  clear KF KP
  have hk0 : Blk w rb #[.string ⟨B.toArray⟩, .int .i64 (sf : Int), .int .i64 lf, .int .i64 kp, .bool dn] 27 := H
  have hlt := hk0.lt
  generalize v.rc = C at *
  generalize v.fr = F at *
  generalize v.body = D at *
  have hFl : F.length ≤ 268 := by omega
  have hszF := str_size' F
  have hszB := str_size' B
  have hcat : (⟨B.toArray⟩ : ByteArray) ++ ⟨F.toArray⟩ = ⟨(B ++ F).toArray⟩ := str_app _ _
  have hlim : ¬ 9223372036854775807 < B.length + F.length := by omega
  clear hfl hbl H
  go_enter Tryz.func16, Tryz.ntmps16
  go_upto_region 1 with fail
  generalize w.alloc (.cells C 57) = w1 at *
  refine wp_region_list ?_
  refine wpList_load_whole (by kernel_rfl) 57 _ rfl w.heap.size rfl C _ _ kX Tryz.underlying57 rfl (by rw [hCn]; kernel_rfl) ?_
  refine wpList_on (by kernel_rfl) (fun K hK => ?_)
  go_simp
  refine KP'.mono ?_
  rintro e w2 ⟨rfl, b2⟩
  refine hK _ _ ?_
  clear hK K
  refine wpList_plain rfl (fun K hK => ?_)
  go_simp
  refine hK _ _ ?_
  clear hK K
  refine wpList_plain rfl (fun K hK => ?_)
  go_simp
  refine hK _ _ ?_
  clear hK K
  refine wpList_plain rfl (fun K hK => ?_)
  go_simp
  refine hK _ _ ?_
  clear hK K
  refine wpList_plain rfl (fun K hK => ?_)
  go_simp
  refine hK _ _ ?_
  clear hK K
  refine wpList_plain rfl (fun K hK => ?_)
  go_simp
  refine hK _ _ ?_
  clear hK K
  refine wpList_nil ?_
  simp only [Exit.then]
  have B2 := bA.trans (b2.mono bA.size)
  have k2 := hk0.below B2 hlt
  clear bA b2 kX KP' hk0
  have x4 := (k2.cell 4).trans rfl
  have z2 := k2.lt
  cases dn
  · go_wp2_with fail
    refine (KF' w2).mono ?_
    rintro e w3 ⟨rfl, b3⟩
    have B3 := B2.trans (b3.mono B2.size)
    have k3 := k2.below b3 k2.lt
    clear B2 b3 k2 x4 z2 KF'
    have x0 := (k3.cell 0).trans rfl
    have f0 := k3.frozen 0
    have z3 := k3.lt
    have k4 : Blk (w3.setCell ⟨rb, 0, none⟩ (.string ⟨(B ++ F).toArray⟩)) rb #[.string ⟨(B ++ F).toArray⟩, .int .i64 (sf : Int), .int .i64 lf, .int .i64 kp, .bool false] 27 := k3.set 0 (.string ⟨(B ++ F).toArray⟩)
    have B4 := (But.of_below (S := fun k => k = rb) B3).trans (but_set w3 rb 0 (.string ⟨(B ++ F).toArray⟩))
    go_upto_region 8 with fail
    generalize hBF : B ++ F = G at *
    generalize w3.setCell ⟨rb, 0, none⟩ (.string ⟨G.toArray⟩) = w4 at *
    have HG := show Hid (_ = _) from hBF
    have hGl : G.length = B.length + F.length := by rw [← hBF, List.length_append]
    clear hBF x0 f0 z3 k3 B3
    go_wp2_with fail
    refine (ract_any rb G sf lf kp w4 k4 (by omega) (by omega) hl hk1).mono ?_
    rintro e w5 ⟨d, rfl, hd, Ac⟩
    have Ac' := Ac.pre B4
    rw [← HG.out] at Ac'
    clear Ac B4 k4
    cases d
    · have HD : Hid (lf = 1) := hd.1 rfl
      clear hd
      go_wp2
      go_ret
      exact .inr ⟨rfl, .inl ⟨HD.out, rfl, Ac'⟩⟩
    · have HD : Hid (lf ≠ 1) := fun q => by have := hd.2 q; cases this
      clear hd
      go_wp2
      go_ret
      exact .inr ⟨rfl, .inr ⟨HD.out, rfl, Ac'⟩⟩
  · go_wp2
    go_ret
    exact .inl ⟨rfl, rfl, B2⟩
end Go.Proofs.YtaifkidpdmhciaaGreat
