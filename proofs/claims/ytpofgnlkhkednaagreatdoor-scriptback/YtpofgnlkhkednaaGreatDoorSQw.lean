import Derived.Test.YtpofgnlkhkednaaGreatDoorSQu
namespace Go.Proofs.YtpofgnlkhkednaaGreatDoor
open Go.RowKit
set_option linter.unusedVariables false
set_option linter.unusedSimpArgs false
set_option maxRecDepth 20000
set_option maxHeartbeats 8000000
def stepV : List Value := [.bool false, .bool false, .bool false, .bool false, .bool false, .int .i64 0, .bool true, .bool true, .bool false, .bool false, .bool false, .int .i64 1, .bool true, .bool false, .bool false, .bool false, .bool false, .int .i64 1, .bool true, .bool false, .bool false, .bool false, .bool false, .int .i64 2, .bool false, .bool false, .bool false, .bool true, .bool true, .int .i64 1, .bool false, .bool false, .bool false, .bool true, .bool false, .int .i64 1, .bool false, .bool false, .bool false, .bool false, .bool false, .int .i64 1, .bool false, .bool false, .bool false, .bool false, .bool false, .int .i64 1, .bool false, .bool false, .bool false, .bool false, .bool false, .int .i64 2, .bool false, .bool false, .bool false, .bool false, .bool false, .int .i64 1, .bool true, .bool false, .bool true, .bool false, .bool false, .int .i64 3]
theorem step_at : ∀ k : Nat, 1 ≤ k → k < 11 → stepV[k * 6]? = some (.bool (wantsI k).1) ∧ stepV[k * 6 + 1]? = some (.bool (wantsI k).2.1) ∧ stepV[k * 6 + 2]? = some (.bool (decide ((k : Int) = 10))) ∧ stepV[k * 6 + 3]? = some (.bool (!decide ((wantsI k).2.2.2 < 1))) ∧ stepV[k * 6 + 4]? = some (.bool (!decide ((wantsI k).2.2.2 < 2))) ∧ stepV[k * 6 + 5]? = some (.int .i64 (wantsI k).2.2.1)
 | 0, h, _ => absurd h (by decide)
 | 1, _, _ => ⟨rfl, rfl, rfl, rfl, rfl, rfl⟩
 | 2, _, _ => ⟨rfl, rfl, rfl, rfl, rfl, rfl⟩
 | 3, _, _ => ⟨rfl, rfl, rfl, rfl, rfl, rfl⟩
 | 4, _, _ => ⟨rfl, rfl, rfl, rfl, rfl, rfl⟩
 | 5, _, _ => ⟨rfl, rfl, rfl, rfl, rfl, rfl⟩
 | 6, _, _ => ⟨rfl, rfl, rfl, rfl, rfl, rfl⟩
 | 7, _, _ => ⟨rfl, rfl, rfl, rfl, rfl, rfl⟩
 | 8, _, _ => ⟨rfl, rfl, rfl, rfl, rfl, rfl⟩
 | 9, _, _ => ⟨rfl, rfl, rfl, rfl, rfl, rfl⟩
 | 10, _, _ => ⟨rfl, rfl, rfl, rfl, rfl, rfl⟩
 | k + 11, _, h => absurd h (by omega)
theorem steps_row {w : World} {b : Nat} {k : Int} (h1 : 1 ≤ k) (h2 : k ≤ 10) (R : w.rangeAt b 0 stepV) : w.rangeAt b (0 + k.toNat * 6) [.bool (wantsI k).1, .bool (wantsI k).2.1, .bool (decide (k = 10)), .bool (!decide ((wantsI k).2.2.2 < 1)), .bool (!decide ((wantsI k).2.2.2 < 2)), .int .i64 (wantsI k).2.2.1] := by
 obtain ⟨j, rfl⟩ := Int.eq_ofNat_of_zero_le (show 0 ≤ k by omega);obtain ⟨q0, q1, q2, q3, q4, q5⟩ := step_at j (by omega) (by omega);intro i v hv
 match i, hv with
 | 0, hv => injection hv with hv; subst hv; have := R (j * 6 + 0) _ q0; rw [Nat.zero_add] at this ⊢; exact this
 | 1, hv => injection hv with hv; subst hv; have := R (j * 6 + 1) _ q1; rw [Nat.zero_add] at this ⊢; exact this
 | 2, hv => injection hv with hv; subst hv; have := R (j * 6 + 2) _ q2; rw [Nat.zero_add] at this ⊢; exact this
 | 3, hv => injection hv with hv; subst hv; have := R (j * 6 + 3) _ q3; rw [Nat.zero_add] at this ⊢; exact this
 | 4, hv => injection hv with hv; subst hv; have := R (j * 6 + 4) _ q4; rw [Nat.zero_add] at this ⊢; exact this
 | 5, hv => injection hv with hv; subst hv; have := R (j * 6 + 5) _ q5; rw [Nat.zero_add] at this ⊢; exact this
theorem fs_eq (k : Int) (nm al ca : Key) (ty : Int) (ne nb nl : Nat) : fmS k nm al ca ty ne nb nl = ((((((((!decide (k < 1)) && !decide (10 < k)) && !(!nmIf (wantsI k).1 nm)) && !(!nmIf (decide (k = 10)) al)) && !(!nmIf (decide (k = 10)) ca)) && !(!kdIf (wantsI k).2.1 ty)) && !(decide ((ne : Int) < (wantsI k).2.2.1) || (decide ((wantsI k).2.2.1 < (ne : Int)) && !decide (k = 10)))) && !((decide ((0 : Int) < (nb : Int)) && !(!decide ((wantsI k).2.2.2 < 1))) || (decide ((0 : Int) < (nl : Int)) && !(!decide ((wantsI k).2.2.2 < 2))))) := by
 have e1 : decide (1 ≤ k ∧ k ≤ 10) = ((!decide (k < 1)) && !decide (10 < k)) := by rw [Bool.eq_iff_iff]; simp;
 have e2 : (decide ((ne : Int) = (wantsI k).2.2.1) || decide (k = 10 ∧ (wantsI k).2.2.1 < ne)) = !(decide ((ne : Int) < (wantsI k).2.2.1) || (decide ((wantsI k).2.2.1 < (ne : Int)) && !decide (k = 10))) := by
  rw [Bool.eq_iff_iff];simp only [Bool.or_eq_true, decide_eq_true_eq, Bool.not_eq_true', Bool.or_eq_false_iff, decide_eq_false_iff_not, Bool.and_eq_false_iff, Bool.not_eq_false'];omega
 have e3 : decide ((0 : Int) < (nb : Int)) = decide (0 < nb) := by rw [decide_eq_decide]; omega
 have e4 : decide ((0 : Int) < (nl : Int)) = decide (0 < nl) := by rw [decide_eq_decide]; omega
 unfold fmS;rw [e1, e2, e3, e4];simp only [Bool.not_not, Bool.not_or];generalize decide (0 < nb) = b1;generalize decide (0 < nl) = b2;generalize decide ((wantsI k).2.2.2 < 1) = b3;generalize decide ((wantsI k).2.2.2 < 2) = b4;cases b1 <;> cases b2 <;> cases b3 <;> cases b4 <;> simp
theorem fms_of (w0 : World) (HT : w0.rangeAt 2 0 stepV) (hsz : 2 < w0.heap.size) (k : Int) (nm al ca : Key) (ty : Int) (ar : List XT) (bs ls : List ST) (HE : ∀ x ∈ ar, ExF w0 x) (HB : ∀ x ∈ bs, StF w0 x) (HL : ∀ x ∈ ls, StF w0 x) : StF w0 (.mk k nm al ca ty ar bs ls) := by
 intro lo fs hp hl;obtain ⟨ea, ec, ee, ba, bc, bb, la, lc, ll, rfl, he, heb, hel⟩ := inv_S hp;rw [ST.pvs_map] at heb hel;have hAe : (Fld.l ea ec ee).lies lo w0 := hl _ (by simp);have hAb : (Fld.l ba bc bb).lies lo w0 := hl _ (by simp);have hAl : (Fld.l la lc ll).lies lo w0 := hl _ (by simp);have har : ar.length = ee.length := by rw [← pvRows_len, he, List.length_map]
 have hbs : bs.length = bb.length := by rw [← pvRows_len, heb, List.length_map]
 have hls : ls.length = ll.length := by rw [← pvRows_len, hel, List.length_map]
 refine ⟨by kernel_rfl, fun wO R _ => ?_⟩;have M := bx_begin R;refine sw_fn Tryz.func50 rfl 98 Tryz.ntmps50 rfl fun A F => ?_;refine sq (rg ?_);refine sw_box F M [.int .i64 k, .string (str nm), .string (str al), .string (str ca), .int .i64 ty, .slice ea ee.length ec, .slice ba bb.length bc, .slice la ll.length lc] ⟨rfl, rfl, rfl⟩ rfl rfl rfl fun x1 A w F M => ?_;refine as1 F fun A F=>?_;refine en (sq (sq (rg ?_)));refine fl F 0 fun A F=>?_;refine ce F M 0 fun A F=>?_;refine lsi F fun A F=>?_;refine mv F fun A F=>?_
 cases c2 : (decide (k < 1)) with
 | true =>
  rw [c2] at F;refine off3 F 3 3 3 fun A F=>?_;refine pkT F fun A F=>?_;refine en (sw_true F rfl ?_);refine sq (rg ?_);refine as1 F fun A F=>?_;refine en (wp_ret ?_);repeat first|refine tr ?_|refine br ?_
  exact sw_rettmp F Tryz.results50 rfl (ze M (by rw [ST.fm, har, hbs, hls, XT.fms_all, ST.fms_all, ST.fms_all, fs_eq, c2]; rfl))
 | false =>
  rw [c2] at F;refine on' F 3 ?_;refine fl F 0 fun A F=>?_;refine on' F 3 ?_;refine ce F M 0 fun A F=>?_;refine on' F 3 ?_;refine gti F fun A F=>?_;refine pkF F fun A F=>?_;refine en (cd F (fun hc3=>?_) fun hc3=>?_)
  ·refine sq (rg ?_);refine as1 F fun A F=>?_;refine en (wp_ret ?_);repeat first|refine tr ?_|refine br ?_
   exact sw_rettmp F Tryz.results50 rfl (ze M (by rw [ST.fm, har, hbs, hls, XT.fms_all, ST.fms_all, ST.fms_all, fs_eq, c2, hc3]; rfl))
  have ho1 : 1 ≤ k := by have := of_decide_eq_false c2; omega
  have ho2 : k ≤ 10 := by have := of_decide_eq_false hc3; omega
  refine wp_skip (sq (rg ?_));refine fl F 0 fun A F=>?_;refine ce F M 0 fun A F=>?_;refine sw_garr F 6 (k := k.toNat) ⟨rfl, rfl, rfl⟩ (by rw [show ((k.toNat : Nat) : Int) = k by omega]; rfl) (show k.toNat < 11 by omega) Tryz.underlying100 (by kernel_rfl) rfl fun A F => ?_;refine sw_rng F (cs := [.bool (wantsI k).1, .bool (wantsI k).2.1, .bool (decide (k = 10)), .bool (!decide ((wantsI k).2.2.2 < 1)), .bool (!decide ((wantsI k).2.2.2 < 2)), .int .i64 (wantsI k).2.2.1]) (steps_row ho1 ho2 (bx_range M.st hsz HT)) ⟨rfl, rfl, rfl⟩ rfl (by kernel_rfl) (by kernel_rfl) rfl fun A F => ?_;refine alo F M [.bool false, .bool false, .bool false, .bool false, .bool false, .int .i64 0] fun x4 A w F M=>?_;refine sta F M 0 fun w M=>?_;dsimp only [List.set] at M;refine en (sq (sq (rg ?_)));refine fl F 0 fun A F=>?_;refine ce F M 0 fun A F=>?_;refine fl F 1 fun A F=>?_;refine ce F M 1 fun A F=>?_;refine sw_callR (by kernel_rfl) ((nameif_m _ (wantsI k).1 nm).2 _ (Below.refl _ _) (fun _ q => q.elim)) F ⟨rfl, rfl, rfl⟩ rfl rfl ?_;rintro e w1 ⟨v, fs, s', rfl, _, hb1, _, rfl⟩;refine ⟨_, rfl, fun A F => ?_⟩;replace M := M.after2 hb1;refine sw_not F ⟨rfl, rfl, rfl⟩ rfl rfl fun A F => ?_;refine mv F fun A F=>?_
  cases c5 : (!(nmIf (wantsI k).1 nm)) with
  | true =>
   rw [c5] at F;refine off4 F 6 6 6 6 fun A F=>?_;refine off2 F 6 6 fun A F=>?_;refine pkT F fun A F=>?_;refine mv F fun A F=>?_;refine off4 F 14 14 14 14 fun A F=>?_;refine off2 F 14 14 fun A F=>?_;refine pkT F fun A F=>?_;refine mv F fun A F=>?_;refine off4 F 22 22 22 22 fun A F=>?_;refine off2 F 22 22 fun A F=>?_;refine pkT F fun A F=>?_;refine en (sw_true F rfl ?_);refine sq (rg ?_);refine as1 F fun A F=>?_;refine en (wp_ret ?_);repeat first|refine tr ?_|refine br ?_
   exact sw_rettmp F Tryz.results50 rfl (ze M (by rw [ST.fm, har, hbs, hls, XT.fms_all, ST.fms_all, ST.fms_all, fs_eq, c2, hc3, c5]; rfl))
  | false =>
   rw [c5] at F;refine on' F 6 ?_;refine fl F 2 fun A F=>?_;refine on' F 6 ?_;refine ce F M 0 fun A F=>?_;refine on' F 6 ?_;refine fl F 2 fun A F=>?_;refine on' F 6 ?_;refine ce F M 1 fun A F=>?_;refine on' F 6 ?_;refine sw_callR (by kernel_rfl) ((nameif_m _ (decide (k = 10)) al).2 _ (Below.refl _ _) (fun _ q => q.elim)) F ⟨rfl, rfl, rfl⟩ rfl rfl ?_;rintro e w1 ⟨v, fs, s', rfl, _, hb1, _, rfl⟩;refine ⟨_, rfl, fun A F => ?_⟩;replace M := M.after2 hb1;refine on' F 6 ?_;refine sw_not F ⟨rfl, rfl, rfl⟩ rfl rfl fun A F => ?_;refine pkF F fun A F=>?_;refine mv F fun A F=>?_
   cases c6 : (!(nmIf (decide (k = 10)) al)) with
   | true =>
    rw [c6] at F;refine off4 F 14 14 14 14 fun A F=>?_;refine off2 F 14 14 fun A F=>?_;refine pkT F fun A F=>?_;refine mv F fun A F=>?_;refine off4 F 22 22 22 22 fun A F=>?_;refine off2 F 22 22 fun A F=>?_;refine pkT F fun A F=>?_;refine en (sw_true F rfl ?_);refine sq (rg ?_);refine as1 F fun A F=>?_;refine en (wp_ret ?_);repeat first|refine tr ?_|refine br ?_
    exact sw_rettmp F Tryz.results50 rfl (ze M (by rw [ST.fm, har, hbs, hls, XT.fms_all, ST.fms_all, ST.fms_all, fs_eq, c2, hc3, c5, c6]; rfl))
   | false =>
    rw [c6] at F;refine on' F 14 ?_;refine fl F 2 fun A F=>?_;refine on' F 14 ?_;refine ce F M 0 fun A F=>?_;refine on' F 14 ?_;refine fl F 3 fun A F=>?_;refine on' F 14 ?_;refine ce F M 1 fun A F=>?_;refine on' F 14 ?_;refine sw_callR (by kernel_rfl) ((nameif_m _ (decide (k = 10)) ca).2 _ (Below.refl _ _) (fun _ q => q.elim)) F ⟨rfl, rfl, rfl⟩ rfl rfl ?_;rintro e w1 ⟨v, fs, s', rfl, _, hb1, _, rfl⟩;refine ⟨_, rfl, fun A F => ?_⟩;replace M := M.after2 hb1;refine on' F 14 ?_;refine sw_not F ⟨rfl, rfl, rfl⟩ rfl rfl fun A F => ?_;refine pkF F fun A F=>?_;refine mv F fun A F=>?_
    cases c7 : (!(nmIf (decide (k = 10)) ca)) with
    | true =>
     rw [c7] at F;refine off4 F 22 22 22 22 fun A F=>?_;refine off2 F 22 22 fun A F=>?_;refine pkT F fun A F=>?_;refine en (sw_true F rfl ?_);refine sq (rg ?_);refine as1 F fun A F=>?_;refine en (wp_ret ?_);repeat first|refine tr ?_|refine br ?_
     exact sw_rettmp F Tryz.results50 rfl (ze M (by rw [ST.fm, har, hbs, hls, XT.fms_all, ST.fms_all, ST.fms_all, fs_eq, c2, hc3, c5, c6, c7]; rfl))
    | false =>
     rw [c7] at F;refine on' F 22 ?_;refine fl F 1 fun A F=>?_;refine on' F 22 ?_;refine ce F M 0 fun A F=>?_;refine on' F 22 ?_;refine fl F 4 fun A F=>?_;refine on' F 22 ?_;refine ce F M 1 fun A F=>?_;refine on' F 22 ?_;refine sw_callR (by kernel_rfl) ((kindif_m _ (wantsI k).2.1 ty).2 _ (Below.refl _ _) (fun _ q => q.elim)) F ⟨rfl, rfl, rfl⟩ rfl rfl ?_;rintro e w1 ⟨v, fs, s', rfl, _, hb1, _, rfl⟩;refine ⟨_, rfl, fun A F => ?_⟩;replace M := M.after2 hb1;refine on' F 22 ?_;refine sw_not F ⟨rfl, rfl, rfl⟩ rfl rfl fun A F => ?_;refine pkF F fun A F=>?_;refine en (cd F (fun hc8=>?_) fun hc8=>?_)
     ·refine sq (rg ?_);refine as1 F fun A F=>?_;refine en (wp_ret ?_);repeat first|refine tr ?_|refine br ?_
      exact sw_rettmp F Tryz.results50 rfl (ze M (by rw [ST.fm, har, hbs, hls, XT.fms_all, ST.fms_all, ST.fms_all, fs_eq, c2, hc3, c5, c6, c7, hc8]; rfl))
     refine wp_skip (sq (sq (rg ?_)));refine fl F 5 fun A F=>?_;refine ce F M 1 fun A F=>?_;refine sw_len F ⟨rfl, rfl, rfl⟩ rfl Tryz.underlying75 rfl fun A F => ?_;refine fl F 5 fun A F=>?_;refine ce F M 0 fun A F=>?_;refine lsi F fun A F=>?_;refine mv F fun A F=>?_
     cases c9 : (decide ((ee.length : Int) < (wantsI k).2.2.1)) with
     | true =>
      rw [c9] at F;refine off4 F 6 6 6 6 fun A F=>?_;refine off3 F 6 6 6 fun A F=>?_;refine ofu F 13 fun A F=>?_;refine ofu F 13 fun A F=>?_;refine ofu F 13 fun A F=>?_;refine off F 6 fun A F=>?_;refine pkT F fun A F=>?_;refine en (sw_true F rfl ?_);refine sq (rg ?_);refine as1 F fun A F=>?_;refine en (wp_ret ?_);repeat first|refine tr ?_|refine br ?_
      exact sw_rettmp F Tryz.results50 rfl (ze M (by rw [ST.fm, har, hbs, hls, XT.fms_all, ST.fms_all, ST.fms_all, fs_eq, c2, hc3, c5, c6, c7, hc8, c9]; rfl))
     | false =>
      rw [c9] at F;refine on' F 6 ?_;refine fl F 5 fun A F=>?_;refine on' F 6 ?_;refine ce F M 1 fun A F=>?_;refine on' F 6 ?_;refine sw_len F ⟨rfl, rfl, rfl⟩ rfl Tryz.underlying75 rfl fun A F => ?_;refine on' F 6 ?_;refine fl F 5 fun A F=>?_;refine on' F 6 ?_;refine ce F M 0 fun A F=>?_;refine on' F 6 ?_;refine gti F fun A F=>?_;refine on' F 6 ?_;refine mv F fun A F=>?_
      cases c10 : (decide ((wantsI k).2.2.1 < (ee.length : Int))) with
      | true =>
       rw [c10] at F;refine on' F 13 ?_;refine fl F 2 fun A F=>?_;refine on' F 13 ?_;refine ce F M 0 fun A F=>?_;refine on' F 13 ?_;refine sw_not F ⟨rfl, rfl, rfl⟩ rfl rfl fun A F => ?_;refine on' F 6 ?_;refine pkT F fun A F=>?_;refine pkF F fun A F=>?_;refine en (cd F (fun hc11=>?_) fun hc11=>?_)
       ·refine sq (rg ?_);refine as1 F fun A F=>?_;refine en (wp_ret ?_);repeat first|refine tr ?_|refine br ?_
        exact sw_rettmp F Tryz.results50 rfl (ze M (by rw [ST.fm, har, hbs, hls, XT.fms_all, ST.fms_all, ST.fms_all, fs_eq, c2, hc3, c5, c6, c7, hc8, c9, c10, hc11]; rfl))
       refine wp_skip (sq (sq (rg ?_)));refine fl F 6 fun A F=>?_;refine ce F M 1 fun A F=>?_;refine sw_len F ⟨rfl, rfl, rfl⟩ rfl Tryz.underlying51 rfl fun A F => ?_;refine gti F fun A F=>?_;refine mv F fun A F=>?_
       cases c12 : (decide (0 < (bb.length : Int))) with
       | true =>
        rw [c12] at F;refine on' F 4 ?_;refine fl F 3 fun A F=>?_;refine on' F 4 ?_;refine ce F M 0 fun A F=>?_;refine on' F 4 ?_;refine sw_not F ⟨rfl, rfl, rfl⟩ rfl rfl fun A F => ?_;refine pkT F fun A F=>?_;refine mv F fun A F=>?_
        cases c13 : (!(!decide ((wantsI k).2.2.2 < 1))) with
        | true =>
         rw [c13] at F;refine off4 F 9 9 9 9 fun A F=>?_;refine off F 9 fun A F=>?_;refine ofu F 14 fun A F=>?_;refine ofu F 14 fun A F=>?_;refine ofu F 14 fun A F=>?_;refine off F 9 fun A F=>?_;refine pkT F fun A F=>?_;refine en (sw_true F rfl ?_);refine sq (rg ?_);refine as1 F fun A F=>?_;refine en (wp_ret ?_);repeat first|refine tr ?_|refine br ?_
         exact sw_rettmp F Tryz.results50 rfl (ze M (by rw [ST.fm, har, hbs, hls, XT.fms_all, ST.fms_all, ST.fms_all, fs_eq, c2, hc3, c5, c6, c7, hc8, c9, c10, hc11, c12, c13]; rfl))
        | false =>
         rw [c13] at F;refine on' F 9 ?_;refine fl F 7 fun A F=>?_;refine on' F 9 ?_;refine ce F M 1 fun A F=>?_;refine on' F 9 ?_;refine sw_len F ⟨rfl, rfl, rfl⟩ rfl Tryz.underlying51 rfl fun A F => ?_;refine on' F 9 ?_;refine gti F fun A F=>?_;refine on' F 9 ?_;refine mv F fun A F=>?_
         cases c14 : (decide (0 < (ll.length : Int))) with
         | true =>
          rw [c14] at F;refine on' F 14 ?_;refine fl F 4 fun A F=>?_;refine on' F 14 ?_;refine ce F M 0 fun A F=>?_;refine on' F 14 ?_;refine sw_not F ⟨rfl, rfl, rfl⟩ rfl rfl fun A F => ?_;refine on' F 9 ?_;refine pkT F fun A F=>?_;refine pkF F fun A F=>?_;refine en (cd F (fun hc15=>?_) fun hc15=>?_)
          ·refine sq (rg ?_);refine as1 F fun A F=>?_;refine en (wp_ret ?_);repeat first|refine tr ?_|refine br ?_
           exact sw_rettmp F Tryz.results50 rfl (ze M (by rw [ST.fm, har, hbs, hls, XT.fms_all, ST.fms_all, ST.fms_all, fs_eq, c2, hc3, c5, c6, c7, hc8, c9, c10, hc11, c12, c13, c14, hc15]; rfl))
          refine wp_skip (sq (rg ?_));refine fl F 5 fun A F=>?_;refine ce F M 1 fun A F=>?_;refine sw_call0 (allE_m w0 ar HE lo ea ec ee he hAe) F M ⟨rfl, rfl, rfl⟩ rfl rfl ?_;rintro _ _ A w ⟨_, rfl⟩ F M;refine mv F fun A F=>?_
          cases c16 : (ar.all XT.fm) with
          | true =>
           rw [c16] at F;refine on' F 3 ?_;refine fl F 6 fun A F=>?_;refine on' F 3 ?_;refine ce F M 1 fun A F=>?_;refine on' F 3 ?_;refine sw_call0 (allS_m w0 bs HB lo ba bc bb heb hAb) F M ⟨rfl, rfl, rfl⟩ rfl rfl ?_;rintro _ _ A w ⟨_, rfl⟩ F M;refine pkT F fun A F=>?_;refine mv F fun A F=>?_
           cases c17 : (bs.all ST.fm) with
           | true =>
            rw [c17] at F;refine on' F 8 ?_;refine fl F 7 fun A F=>?_;refine on' F 8 ?_;refine ce F M 1 fun A F=>?_;refine on' F 8 ?_;refine sw_call0 (allS_m w0 ls HL lo la lc ll hel hAl) F M ⟨rfl, rfl, rfl⟩ rfl rfl ?_;rintro _ _ A w ⟨_, rfl⟩ F M;refine pkT F fun A F=>?_;refine as1 F fun A F=>?_;refine en (wp_ret ?_);repeat first|refine tr ?_|refine br ?_
            exact sw_rettmp F Tryz.results50 rfl (ze M (by rw [ST.fm, har, hbs, hls, XT.fms_all, ST.fms_all, ST.fms_all, fs_eq, c2, hc3, c5, c6, c7, hc8, c9, c10, hc11, c12, c13, c14, hc15, c16, c17]; rfl))
           | false =>
            rw [c17] at F;refine off3 F 8 8 8 fun A F=>?_;refine pkF F fun A F=>?_;refine as1 F fun A F=>?_;refine en (wp_ret ?_);repeat first|refine tr ?_|refine br ?_
            exact sw_rettmp F Tryz.results50 rfl (ze M (by rw [ST.fm, har, hbs, hls, XT.fms_all, ST.fms_all, ST.fms_all, fs_eq, c2, hc3, c5, c6, c7, hc8, c9, c10, hc11, c12, c13, c14, hc15, c16, c17]; rfl))
          | false =>
           rw [c16] at F;refine off3 F 3 3 3 fun A F=>?_;refine pkF F fun A F=>?_;refine mv F fun A F=>?_;refine off3 F 8 8 8 fun A F=>?_;refine pkF F fun A F=>?_;refine as1 F fun A F=>?_;refine en (wp_ret ?_);repeat first|refine tr ?_|refine br ?_
           exact sw_rettmp F Tryz.results50 rfl (ze M (by rw [ST.fm, har, hbs, hls, XT.fms_all, ST.fms_all, ST.fms_all, fs_eq, c2, hc3, c5, c6, c7, hc8, c9, c10, hc11, c12, c13, c14, hc15, c16]; rfl))
         | false =>
          rw [c14] at F;refine off3 F 14 14 14 fun A F=>?_;refine on' F 9 ?_;refine pkF F fun A F=>?_;refine pkF F fun A F=>?_;refine en (sw_false F rfl ?_);refine wp_skip (sq (rg ?_));refine fl F 5 fun A F=>?_;refine ce F M 1 fun A F=>?_;refine sw_call0 (allE_m w0 ar HE lo ea ec ee he hAe) F M ⟨rfl, rfl, rfl⟩ rfl rfl ?_;rintro _ _ A w ⟨_, rfl⟩ F M;refine mv F fun A F=>?_
          cases c18 : (ar.all XT.fm) with
          | true =>
           rw [c18] at F;refine on' F 3 ?_;refine fl F 6 fun A F=>?_;refine on' F 3 ?_;refine ce F M 1 fun A F=>?_;refine on' F 3 ?_;refine sw_call0 (allS_m w0 bs HB lo ba bc bb heb hAb) F M ⟨rfl, rfl, rfl⟩ rfl rfl ?_;rintro _ _ A w ⟨_, rfl⟩ F M;refine pkT F fun A F=>?_;refine mv F fun A F=>?_
           cases c19 : (bs.all ST.fm) with
           | true =>
            rw [c19] at F;refine on' F 8 ?_;refine fl F 7 fun A F=>?_;refine on' F 8 ?_;refine ce F M 1 fun A F=>?_;refine on' F 8 ?_;refine sw_call0 (allS_m w0 ls HL lo la lc ll hel hAl) F M ⟨rfl, rfl, rfl⟩ rfl rfl ?_;rintro _ _ A w ⟨_, rfl⟩ F M;refine pkT F fun A F=>?_;refine as1 F fun A F=>?_;refine en (wp_ret ?_);repeat first|refine tr ?_|refine br ?_
            exact sw_rettmp F Tryz.results50 rfl (ze M (by rw [ST.fm, har, hbs, hls, XT.fms_all, ST.fms_all, ST.fms_all, fs_eq, c2, hc3, c5, c6, c7, hc8, c9, c10, hc11, c12, c13, c14, c18, c19]; rfl))
           | false =>
            rw [c19] at F;refine off3 F 8 8 8 fun A F=>?_;refine pkF F fun A F=>?_;refine as1 F fun A F=>?_;refine en (wp_ret ?_);repeat first|refine tr ?_|refine br ?_
            exact sw_rettmp F Tryz.results50 rfl (ze M (by rw [ST.fm, har, hbs, hls, XT.fms_all, ST.fms_all, ST.fms_all, fs_eq, c2, hc3, c5, c6, c7, hc8, c9, c10, hc11, c12, c13, c14, c18, c19]; rfl))
          | false =>
           rw [c18] at F;refine off3 F 3 3 3 fun A F=>?_;refine pkF F fun A F=>?_;refine mv F fun A F=>?_;refine off3 F 8 8 8 fun A F=>?_;refine pkF F fun A F=>?_;refine as1 F fun A F=>?_;refine en (wp_ret ?_);repeat first|refine tr ?_|refine br ?_
           exact sw_rettmp F Tryz.results50 rfl (ze M (by rw [ST.fm, har, hbs, hls, XT.fms_all, ST.fms_all, ST.fms_all, fs_eq, c2, hc3, c5, c6, c7, hc8, c9, c10, hc11, c12, c13, c14, c18]; rfl))
       | false =>
        rw [c12] at F;refine off3 F 4 4 4 fun A F=>?_;refine pkF F fun A F=>?_;refine mv F fun A F=>?_;refine on' F 9 ?_;refine fl F 7 fun A F=>?_;refine on' F 9 ?_;refine ce F M 1 fun A F=>?_;refine on' F 9 ?_;refine sw_len F ⟨rfl, rfl, rfl⟩ rfl Tryz.underlying51 rfl fun A F => ?_;refine on' F 9 ?_;refine gti F fun A F=>?_;refine on' F 9 ?_;refine mv F fun A F=>?_
        cases c20 : (decide (0 < (ll.length : Int))) with
        | true =>
         rw [c20] at F;refine on' F 14 ?_;refine fl F 4 fun A F=>?_;refine on' F 14 ?_;refine ce F M 0 fun A F=>?_;refine on' F 14 ?_;refine sw_not F ⟨rfl, rfl, rfl⟩ rfl rfl fun A F => ?_;refine on' F 9 ?_;refine pkT F fun A F=>?_;refine pkF F fun A F=>?_;refine en (cd F (fun hc21=>?_) fun hc21=>?_)
         ·refine sq (rg ?_);refine as1 F fun A F=>?_;refine en (wp_ret ?_);repeat first|refine tr ?_|refine br ?_
          exact sw_rettmp F Tryz.results50 rfl (ze M (by rw [ST.fm, har, hbs, hls, XT.fms_all, ST.fms_all, ST.fms_all, fs_eq, c2, hc3, c5, c6, c7, hc8, c9, c10, hc11, c12, c20, hc21]; rfl))
         refine wp_skip (sq (rg ?_));refine fl F 5 fun A F=>?_;refine ce F M 1 fun A F=>?_;refine sw_call0 (allE_m w0 ar HE lo ea ec ee he hAe) F M ⟨rfl, rfl, rfl⟩ rfl rfl ?_;rintro _ _ A w ⟨_, rfl⟩ F M;refine mv F fun A F=>?_
         cases c22 : (ar.all XT.fm) with
         | true =>
          rw [c22] at F;refine on' F 3 ?_;refine fl F 6 fun A F=>?_;refine on' F 3 ?_;refine ce F M 1 fun A F=>?_;refine on' F 3 ?_;refine sw_call0 (allS_m w0 bs HB lo ba bc bb heb hAb) F M ⟨rfl, rfl, rfl⟩ rfl rfl ?_;rintro _ _ A w ⟨_, rfl⟩ F M;refine pkT F fun A F=>?_;refine mv F fun A F=>?_
          cases c23 : (bs.all ST.fm) with
          | true =>
           rw [c23] at F;refine on' F 8 ?_;refine fl F 7 fun A F=>?_;refine on' F 8 ?_;refine ce F M 1 fun A F=>?_;refine on' F 8 ?_;refine sw_call0 (allS_m w0 ls HL lo la lc ll hel hAl) F M ⟨rfl, rfl, rfl⟩ rfl rfl ?_;rintro _ _ A w ⟨_, rfl⟩ F M;refine pkT F fun A F=>?_;refine as1 F fun A F=>?_;refine en (wp_ret ?_);repeat first|refine tr ?_|refine br ?_
           exact sw_rettmp F Tryz.results50 rfl (ze M (by rw [ST.fm, har, hbs, hls, XT.fms_all, ST.fms_all, ST.fms_all, fs_eq, c2, hc3, c5, c6, c7, hc8, c9, c10, hc11, c12, c20, hc21, c22, c23]; rfl))
          | false =>
           rw [c23] at F;refine off3 F 8 8 8 fun A F=>?_;refine pkF F fun A F=>?_;refine as1 F fun A F=>?_;refine en (wp_ret ?_);repeat first|refine tr ?_|refine br ?_
           exact sw_rettmp F Tryz.results50 rfl (ze M (by rw [ST.fm, har, hbs, hls, XT.fms_all, ST.fms_all, ST.fms_all, fs_eq, c2, hc3, c5, c6, c7, hc8, c9, c10, hc11, c12, c20, hc21, c22, c23]; rfl))
         | false =>
          rw [c22] at F;refine off3 F 3 3 3 fun A F=>?_;refine pkF F fun A F=>?_;refine mv F fun A F=>?_;refine off3 F 8 8 8 fun A F=>?_;refine pkF F fun A F=>?_;refine as1 F fun A F=>?_;refine en (wp_ret ?_);repeat first|refine tr ?_|refine br ?_
          exact sw_rettmp F Tryz.results50 rfl (ze M (by rw [ST.fm, har, hbs, hls, XT.fms_all, ST.fms_all, ST.fms_all, fs_eq, c2, hc3, c5, c6, c7, hc8, c9, c10, hc11, c12, c20, hc21, c22]; rfl))
        | false =>
         rw [c20] at F;refine off3 F 14 14 14 fun A F=>?_;refine on' F 9 ?_;refine pkF F fun A F=>?_;refine pkF F fun A F=>?_;refine en (sw_false F rfl ?_);refine wp_skip (sq (rg ?_));refine fl F 5 fun A F=>?_;refine ce F M 1 fun A F=>?_;refine sw_call0 (allE_m w0 ar HE lo ea ec ee he hAe) F M ⟨rfl, rfl, rfl⟩ rfl rfl ?_;rintro _ _ A w ⟨_, rfl⟩ F M;refine mv F fun A F=>?_
         cases c24 : (ar.all XT.fm) with
         | true =>
          rw [c24] at F;refine on' F 3 ?_;refine fl F 6 fun A F=>?_;refine on' F 3 ?_;refine ce F M 1 fun A F=>?_;refine on' F 3 ?_;refine sw_call0 (allS_m w0 bs HB lo ba bc bb heb hAb) F M ⟨rfl, rfl, rfl⟩ rfl rfl ?_;rintro _ _ A w ⟨_, rfl⟩ F M;refine pkT F fun A F=>?_;refine mv F fun A F=>?_
          cases c25 : (bs.all ST.fm) with
          | true =>
           rw [c25] at F;refine on' F 8 ?_;refine fl F 7 fun A F=>?_;refine on' F 8 ?_;refine ce F M 1 fun A F=>?_;refine on' F 8 ?_;refine sw_call0 (allS_m w0 ls HL lo la lc ll hel hAl) F M ⟨rfl, rfl, rfl⟩ rfl rfl ?_;rintro _ _ A w ⟨_, rfl⟩ F M;refine pkT F fun A F=>?_;refine as1 F fun A F=>?_;refine en (wp_ret ?_);repeat first|refine tr ?_|refine br ?_
           exact sw_rettmp F Tryz.results50 rfl (ze M (by rw [ST.fm, har, hbs, hls, XT.fms_all, ST.fms_all, ST.fms_all, fs_eq, c2, hc3, c5, c6, c7, hc8, c9, c10, hc11, c12, c20, c24, c25]; rfl))
          | false =>
           rw [c25] at F;refine off3 F 8 8 8 fun A F=>?_;refine pkF F fun A F=>?_;refine as1 F fun A F=>?_;refine en (wp_ret ?_);repeat first|refine tr ?_|refine br ?_
           exact sw_rettmp F Tryz.results50 rfl (ze M (by rw [ST.fm, har, hbs, hls, XT.fms_all, ST.fms_all, ST.fms_all, fs_eq, c2, hc3, c5, c6, c7, hc8, c9, c10, hc11, c12, c20, c24, c25]; rfl))
         | false =>
          rw [c24] at F;refine off3 F 3 3 3 fun A F=>?_;refine pkF F fun A F=>?_;refine mv F fun A F=>?_;refine off3 F 8 8 8 fun A F=>?_;refine pkF F fun A F=>?_;refine as1 F fun A F=>?_;refine en (wp_ret ?_);repeat first|refine tr ?_|refine br ?_
          exact sw_rettmp F Tryz.results50 rfl (ze M (by rw [ST.fm, har, hbs, hls, XT.fms_all, ST.fms_all, ST.fms_all, fs_eq, c2, hc3, c5, c6, c7, hc8, c9, c10, hc11, c12, c20, c24]; rfl))
      | false =>
       rw [c10] at F;refine off3 F 13 13 13 fun A F=>?_;refine on' F 6 ?_;refine pkF F fun A F=>?_;refine pkF F fun A F=>?_;refine en (sw_false F rfl ?_);refine wp_skip (sq (sq (rg ?_)));refine fl F 6 fun A F=>?_;refine ce F M 1 fun A F=>?_;refine sw_len F ⟨rfl, rfl, rfl⟩ rfl Tryz.underlying51 rfl fun A F => ?_;refine gti F fun A F=>?_;refine mv F fun A F=>?_
       cases c26 : (decide (0 < (bb.length : Int))) with
       | true =>
        rw [c26] at F;refine on' F 4 ?_;refine fl F 3 fun A F=>?_;refine on' F 4 ?_;refine ce F M 0 fun A F=>?_;refine on' F 4 ?_;refine sw_not F ⟨rfl, rfl, rfl⟩ rfl rfl fun A F => ?_;refine pkT F fun A F=>?_;refine mv F fun A F=>?_
        cases c27 : (!(!decide ((wantsI k).2.2.2 < 1))) with
        | true =>
         rw [c27] at F;refine off4 F 9 9 9 9 fun A F=>?_;refine off F 9 fun A F=>?_;refine ofu F 14 fun A F=>?_;refine ofu F 14 fun A F=>?_;refine ofu F 14 fun A F=>?_;refine off F 9 fun A F=>?_;refine pkT F fun A F=>?_;refine en (sw_true F rfl ?_);refine sq (rg ?_);refine as1 F fun A F=>?_;refine en (wp_ret ?_);repeat first|refine tr ?_|refine br ?_
         exact sw_rettmp F Tryz.results50 rfl (ze M (by rw [ST.fm, har, hbs, hls, XT.fms_all, ST.fms_all, ST.fms_all, fs_eq, c2, hc3, c5, c6, c7, hc8, c9, c10, c26, c27]; rfl))
        | false =>
         rw [c27] at F;refine on' F 9 ?_;refine fl F 7 fun A F=>?_;refine on' F 9 ?_;refine ce F M 1 fun A F=>?_;refine on' F 9 ?_;refine sw_len F ⟨rfl, rfl, rfl⟩ rfl Tryz.underlying51 rfl fun A F => ?_;refine on' F 9 ?_;refine gti F fun A F=>?_;refine on' F 9 ?_;refine mv F fun A F=>?_
         cases c28 : (decide (0 < (ll.length : Int))) with
         | true =>
          rw [c28] at F;refine on' F 14 ?_;refine fl F 4 fun A F=>?_;refine on' F 14 ?_;refine ce F M 0 fun A F=>?_;refine on' F 14 ?_;refine sw_not F ⟨rfl, rfl, rfl⟩ rfl rfl fun A F => ?_;refine on' F 9 ?_;refine pkT F fun A F=>?_;refine pkF F fun A F=>?_;refine en (cd F (fun hc29=>?_) fun hc29=>?_)
          ·refine sq (rg ?_);refine as1 F fun A F=>?_;refine en (wp_ret ?_);repeat first|refine tr ?_|refine br ?_
           exact sw_rettmp F Tryz.results50 rfl (ze M (by rw [ST.fm, har, hbs, hls, XT.fms_all, ST.fms_all, ST.fms_all, fs_eq, c2, hc3, c5, c6, c7, hc8, c9, c10, c26, c27, c28, hc29]; rfl))
          refine wp_skip (sq (rg ?_));refine fl F 5 fun A F=>?_;refine ce F M 1 fun A F=>?_;refine sw_call0 (allE_m w0 ar HE lo ea ec ee he hAe) F M ⟨rfl, rfl, rfl⟩ rfl rfl ?_;rintro _ _ A w ⟨_, rfl⟩ F M;refine mv F fun A F=>?_
          cases c30 : (ar.all XT.fm) with
          | true =>
           rw [c30] at F;refine on' F 3 ?_;refine fl F 6 fun A F=>?_;refine on' F 3 ?_;refine ce F M 1 fun A F=>?_;refine on' F 3 ?_;refine sw_call0 (allS_m w0 bs HB lo ba bc bb heb hAb) F M ⟨rfl, rfl, rfl⟩ rfl rfl ?_;rintro _ _ A w ⟨_, rfl⟩ F M;refine pkT F fun A F=>?_;refine mv F fun A F=>?_
           cases c31 : (bs.all ST.fm) with
           | true =>
            rw [c31] at F;refine on' F 8 ?_;refine fl F 7 fun A F=>?_;refine on' F 8 ?_;refine ce F M 1 fun A F=>?_;refine on' F 8 ?_;refine sw_call0 (allS_m w0 ls HL lo la lc ll hel hAl) F M ⟨rfl, rfl, rfl⟩ rfl rfl ?_;rintro _ _ A w ⟨_, rfl⟩ F M;refine pkT F fun A F=>?_;refine as1 F fun A F=>?_;refine en (wp_ret ?_);repeat first|refine tr ?_|refine br ?_
            exact sw_rettmp F Tryz.results50 rfl (ze M (by rw [ST.fm, har, hbs, hls, XT.fms_all, ST.fms_all, ST.fms_all, fs_eq, c2, hc3, c5, c6, c7, hc8, c9, c10, c26, c27, c28, hc29, c30, c31]; rfl))
           | false =>
            rw [c31] at F;refine off3 F 8 8 8 fun A F=>?_;refine pkF F fun A F=>?_;refine as1 F fun A F=>?_;refine en (wp_ret ?_);repeat first|refine tr ?_|refine br ?_
            exact sw_rettmp F Tryz.results50 rfl (ze M (by rw [ST.fm, har, hbs, hls, XT.fms_all, ST.fms_all, ST.fms_all, fs_eq, c2, hc3, c5, c6, c7, hc8, c9, c10, c26, c27, c28, hc29, c30, c31]; rfl))
          | false =>
           rw [c30] at F;refine off3 F 3 3 3 fun A F=>?_;refine pkF F fun A F=>?_;refine mv F fun A F=>?_;refine off3 F 8 8 8 fun A F=>?_;refine pkF F fun A F=>?_;refine as1 F fun A F=>?_;refine en (wp_ret ?_);repeat first|refine tr ?_|refine br ?_
           exact sw_rettmp F Tryz.results50 rfl (ze M (by rw [ST.fm, har, hbs, hls, XT.fms_all, ST.fms_all, ST.fms_all, fs_eq, c2, hc3, c5, c6, c7, hc8, c9, c10, c26, c27, c28, hc29, c30]; rfl))
         | false =>
          rw [c28] at F;refine off3 F 14 14 14 fun A F=>?_;refine on' F 9 ?_;refine pkF F fun A F=>?_;refine pkF F fun A F=>?_;refine en (sw_false F rfl ?_);refine wp_skip (sq (rg ?_));refine fl F 5 fun A F=>?_;refine ce F M 1 fun A F=>?_;refine sw_call0 (allE_m w0 ar HE lo ea ec ee he hAe) F M ⟨rfl, rfl, rfl⟩ rfl rfl ?_;rintro _ _ A w ⟨_, rfl⟩ F M;refine mv F fun A F=>?_
          cases c32 : (ar.all XT.fm) with
          | true =>
           rw [c32] at F;refine on' F 3 ?_;refine fl F 6 fun A F=>?_;refine on' F 3 ?_;refine ce F M 1 fun A F=>?_;refine on' F 3 ?_;refine sw_call0 (allS_m w0 bs HB lo ba bc bb heb hAb) F M ⟨rfl, rfl, rfl⟩ rfl rfl ?_;rintro _ _ A w ⟨_, rfl⟩ F M;refine pkT F fun A F=>?_;refine mv F fun A F=>?_
           cases c33 : (bs.all ST.fm) with
           | true =>
            rw [c33] at F;refine on' F 8 ?_;refine fl F 7 fun A F=>?_;refine on' F 8 ?_;refine ce F M 1 fun A F=>?_;refine on' F 8 ?_;refine sw_call0 (allS_m w0 ls HL lo la lc ll hel hAl) F M ⟨rfl, rfl, rfl⟩ rfl rfl ?_;rintro _ _ A w ⟨_, rfl⟩ F M;refine pkT F fun A F=>?_;refine as1 F fun A F=>?_;refine en (wp_ret ?_);repeat first|refine tr ?_|refine br ?_
            exact sw_rettmp F Tryz.results50 rfl (ze M (by rw [ST.fm, har, hbs, hls, XT.fms_all, ST.fms_all, ST.fms_all, fs_eq, c2, hc3, c5, c6, c7, hc8, c9, c10, c26, c27, c28, c32, c33]; rfl))
           | false =>
            rw [c33] at F;refine off3 F 8 8 8 fun A F=>?_;refine pkF F fun A F=>?_;refine as1 F fun A F=>?_;refine en (wp_ret ?_);repeat first|refine tr ?_|refine br ?_
            exact sw_rettmp F Tryz.results50 rfl (ze M (by rw [ST.fm, har, hbs, hls, XT.fms_all, ST.fms_all, ST.fms_all, fs_eq, c2, hc3, c5, c6, c7, hc8, c9, c10, c26, c27, c28, c32, c33]; rfl))
          | false =>
           rw [c32] at F;refine off3 F 3 3 3 fun A F=>?_;refine pkF F fun A F=>?_;refine mv F fun A F=>?_;refine off3 F 8 8 8 fun A F=>?_;refine pkF F fun A F=>?_;refine as1 F fun A F=>?_;refine en (wp_ret ?_);repeat first|refine tr ?_|refine br ?_
           exact sw_rettmp F Tryz.results50 rfl (ze M (by rw [ST.fm, har, hbs, hls, XT.fms_all, ST.fms_all, ST.fms_all, fs_eq, c2, hc3, c5, c6, c7, hc8, c9, c10, c26, c27, c28, c32]; rfl))
       | false =>
        rw [c26] at F;refine off3 F 4 4 4 fun A F=>?_;refine pkF F fun A F=>?_;refine mv F fun A F=>?_;refine on' F 9 ?_;refine fl F 7 fun A F=>?_;refine on' F 9 ?_;refine ce F M 1 fun A F=>?_;refine on' F 9 ?_;refine sw_len F ⟨rfl, rfl, rfl⟩ rfl Tryz.underlying51 rfl fun A F => ?_;refine on' F 9 ?_;refine gti F fun A F=>?_;refine on' F 9 ?_;refine mv F fun A F=>?_
        cases c34 : (decide (0 < (ll.length : Int))) with
        | true =>
         rw [c34] at F;refine on' F 14 ?_;refine fl F 4 fun A F=>?_;refine on' F 14 ?_;refine ce F M 0 fun A F=>?_;refine on' F 14 ?_;refine sw_not F ⟨rfl, rfl, rfl⟩ rfl rfl fun A F => ?_;refine on' F 9 ?_;refine pkT F fun A F=>?_;refine pkF F fun A F=>?_;refine en (cd F (fun hc35=>?_) fun hc35=>?_)
         ·refine sq (rg ?_);refine as1 F fun A F=>?_;refine en (wp_ret ?_);repeat first|refine tr ?_|refine br ?_
          exact sw_rettmp F Tryz.results50 rfl (ze M (by rw [ST.fm, har, hbs, hls, XT.fms_all, ST.fms_all, ST.fms_all, fs_eq, c2, hc3, c5, c6, c7, hc8, c9, c10, c26, c34, hc35]; rfl))
         refine wp_skip (sq (rg ?_));refine fl F 5 fun A F=>?_;refine ce F M 1 fun A F=>?_;refine sw_call0 (allE_m w0 ar HE lo ea ec ee he hAe) F M ⟨rfl, rfl, rfl⟩ rfl rfl ?_;rintro _ _ A w ⟨_, rfl⟩ F M;refine mv F fun A F=>?_
         cases c36 : (ar.all XT.fm) with
         | true =>
          rw [c36] at F;refine on' F 3 ?_;refine fl F 6 fun A F=>?_;refine on' F 3 ?_;refine ce F M 1 fun A F=>?_;refine on' F 3 ?_;refine sw_call0 (allS_m w0 bs HB lo ba bc bb heb hAb) F M ⟨rfl, rfl, rfl⟩ rfl rfl ?_;rintro _ _ A w ⟨_, rfl⟩ F M;refine pkT F fun A F=>?_;refine mv F fun A F=>?_
          cases c37 : (bs.all ST.fm) with
          | true =>
           rw [c37] at F;refine on' F 8 ?_;refine fl F 7 fun A F=>?_;refine on' F 8 ?_;refine ce F M 1 fun A F=>?_;refine on' F 8 ?_;refine sw_call0 (allS_m w0 ls HL lo la lc ll hel hAl) F M ⟨rfl, rfl, rfl⟩ rfl rfl ?_;rintro _ _ A w ⟨_, rfl⟩ F M;refine pkT F fun A F=>?_;refine as1 F fun A F=>?_;refine en (wp_ret ?_);repeat first|refine tr ?_|refine br ?_
           exact sw_rettmp F Tryz.results50 rfl (ze M (by rw [ST.fm, har, hbs, hls, XT.fms_all, ST.fms_all, ST.fms_all, fs_eq, c2, hc3, c5, c6, c7, hc8, c9, c10, c26, c34, hc35, c36, c37]; rfl))
          | false =>
           rw [c37] at F;refine off3 F 8 8 8 fun A F=>?_;refine pkF F fun A F=>?_;refine as1 F fun A F=>?_;refine en (wp_ret ?_);repeat first|refine tr ?_|refine br ?_
           exact sw_rettmp F Tryz.results50 rfl (ze M (by rw [ST.fm, har, hbs, hls, XT.fms_all, ST.fms_all, ST.fms_all, fs_eq, c2, hc3, c5, c6, c7, hc8, c9, c10, c26, c34, hc35, c36, c37]; rfl))
         | false =>
          rw [c36] at F;refine off3 F 3 3 3 fun A F=>?_;refine pkF F fun A F=>?_;refine mv F fun A F=>?_;refine off3 F 8 8 8 fun A F=>?_;refine pkF F fun A F=>?_;refine as1 F fun A F=>?_;refine en (wp_ret ?_);repeat first|refine tr ?_|refine br ?_
          exact sw_rettmp F Tryz.results50 rfl (ze M (by rw [ST.fm, har, hbs, hls, XT.fms_all, ST.fms_all, ST.fms_all, fs_eq, c2, hc3, c5, c6, c7, hc8, c9, c10, c26, c34, hc35, c36]; rfl))
        | false =>
         rw [c34] at F;refine off3 F 14 14 14 fun A F=>?_;refine on' F 9 ?_;refine pkF F fun A F=>?_;refine pkF F fun A F=>?_;refine en (sw_false F rfl ?_);refine wp_skip (sq (rg ?_));refine fl F 5 fun A F=>?_;refine ce F M 1 fun A F=>?_;refine sw_call0 (allE_m w0 ar HE lo ea ec ee he hAe) F M ⟨rfl, rfl, rfl⟩ rfl rfl ?_;rintro _ _ A w ⟨_, rfl⟩ F M;refine mv F fun A F=>?_
         cases c38 : (ar.all XT.fm) with
         | true =>
          rw [c38] at F;refine on' F 3 ?_;refine fl F 6 fun A F=>?_;refine on' F 3 ?_;refine ce F M 1 fun A F=>?_;refine on' F 3 ?_;refine sw_call0 (allS_m w0 bs HB lo ba bc bb heb hAb) F M ⟨rfl, rfl, rfl⟩ rfl rfl ?_;rintro _ _ A w ⟨_, rfl⟩ F M;refine pkT F fun A F=>?_;refine mv F fun A F=>?_
          cases c39 : (bs.all ST.fm) with
          | true =>
           rw [c39] at F;refine on' F 8 ?_;refine fl F 7 fun A F=>?_;refine on' F 8 ?_;refine ce F M 1 fun A F=>?_;refine on' F 8 ?_;refine sw_call0 (allS_m w0 ls HL lo la lc ll hel hAl) F M ⟨rfl, rfl, rfl⟩ rfl rfl ?_;rintro _ _ A w ⟨_, rfl⟩ F M;refine pkT F fun A F=>?_;refine as1 F fun A F=>?_;refine en (wp_ret ?_);repeat first|refine tr ?_|refine br ?_
           exact sw_rettmp F Tryz.results50 rfl (ze M (by rw [ST.fm, har, hbs, hls, XT.fms_all, ST.fms_all, ST.fms_all, fs_eq, c2, hc3, c5, c6, c7, hc8, c9, c10, c26, c34, c38, c39]; rfl))
          | false =>
           rw [c39] at F;refine off3 F 8 8 8 fun A F=>?_;refine pkF F fun A F=>?_;refine as1 F fun A F=>?_;refine en (wp_ret ?_);repeat first|refine tr ?_|refine br ?_
           exact sw_rettmp F Tryz.results50 rfl (ze M (by rw [ST.fm, har, hbs, hls, XT.fms_all, ST.fms_all, ST.fms_all, fs_eq, c2, hc3, c5, c6, c7, hc8, c9, c10, c26, c34, c38, c39]; rfl))
         | false =>
          rw [c38] at F;refine off3 F 3 3 3 fun A F=>?_;refine pkF F fun A F=>?_;refine mv F fun A F=>?_;refine off3 F 8 8 8 fun A F=>?_;refine pkF F fun A F=>?_;refine as1 F fun A F=>?_;refine en (wp_ret ?_);repeat first|refine tr ?_|refine br ?_
          exact sw_rettmp F Tryz.results50 rfl (ze M (by rw [ST.fm, har, hbs, hls, XT.fms_all, ST.fms_all, ST.fms_all, fs_eq, c2, hc3, c5, c6, c7, hc8, c9, c10, c26, c34, c38]; rfl))
end Go.Proofs.YtpofgnlkhkednaaGreatDoor
