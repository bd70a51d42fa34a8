import Derived.Test.YthhpkjmhcolgfaaGreatDoorM06
import Derived.Test.YthhpkjmhcolgfaaGreatDoorSQk
namespace Go.Proofs.YthhpkjmhcolgfaaGreatDoor
open Go.RowKit
set_option linter.unusedVariables false
set_option linter.unusedSimpArgs false
set_option maxRecDepth 20000
set_option maxHeartbeats 8000000
theorem span_all (f : UInt8 → Bool) : ∀ s : Key, (spanN f s = s.length) ↔ s.all f = true
 | [] => by simp [spanN]
 | c :: r => by
  have h := span_all f r;have e : spanN f (c :: r) = if f c then spanN f r + 1 else 0 := rfl
  rw [e, List.all_cons]
  cases f c with
  | true => simp [h]
  | false => simp
theorem pnm_long {s : Key} (h : ¬ (s.length : Int) ≤ 16) : Value.bool false = .bool (nmB s) := by
 unfold nmB;rw [decide_eq_false (by omega)];simp
theorem nm_eq {c : UInt8} {s : Key} (h : s[0]? = some c) : nmB s = (decide (s.length ≤ 16) && isL c && decide (spanN goes s = s.length) && !wordL.contains s) := by
 cases s with
 | nil => cases h
 | cons d r =>
  injection h with h
  subst h
  have e : decide (spanN goes (d :: r) = (d :: r).length) = (d :: r).all goes := by
   rw [Bool.eq_iff_iff, decide_eq_true_eq];exact span_all goes (d :: r)
  rw [e];unfold nmB;rfl
theorem isname_m (w0 : World) (s : Key) : Meth Tryz.prog (Bx w0) (fun _ => False) 52 [.string (str s)] () (fun v _ _ => v = .bool (nmB s)) := by
 obtain ⟨c, hc⟩ : ∃ c : UInt8, s ≠ [] → s[0]? = some c := by
  cases s with
  | nil => exact ⟨0, fun h => absurd rfl h⟩
  | cons c r => exact ⟨c, fun _ => rfl⟩
 refine ⟨by kernel_rfl, fun wO R _ => ?_⟩;have M := bx_begin R;refine sw_fn Tryz.func52 rfl 27 Tryz.ntmps52 rfl fun A F => ?_;refine sq (rg ?_);refine as1 F fun A F=>?_;refine en (sq (rg ?_));refine mv F fun A F=>?_;refine sw_sne F ⟨rfl, rfl, rfl⟩ rfl rfl rfl fun A F => ?_;refine mv F fun A F=>?_
 cases c1 : (!(s == [])) with
 | true =>
  rw [c1] at F;have hne : s ≠ [] := by simpa using c1
  refine on' F 2 ?_;refine mv F fun A F=>?_;refine on' F 2 ?_;refine sw_slen F ⟨rfl, rfl, rfl⟩ rfl Tryz.underlying9 rfl fun A F => ?_;refine on' F 2 ?_;refine sw_leq F ⟨rfl, rfl, rfl⟩ rfl rfl rfl fun A F => ?_;refine pkT F fun A F=>?_;refine mv F fun A F=>?_
  cases c2 : (decide ((s.length : Int) ≤ 16)) with
  | true =>
   rw [c2] at F;have h16 := of_decide_eq_true c2;refine on' F 7 ?_;refine mv F fun A F=>?_;refine on' F 7 ?_;refine sw_index (j := 0) (c := c) F ⟨rfl, rfl, rfl⟩ rfl rfl (hc hne) Tryz.underlying9 rfl fun A F => ?_;refine on' F 7 ?_;refine sw_callR (by kernel_rfl) (letter_any c _) F ⟨rfl, rfl, rfl⟩ rfl rfl ?_;rintro e w1 ⟨rfl, rfl⟩;refine ⟨_, rfl, fun A F => ?_⟩;refine pkT F fun A F=>?_;refine mv F fun A F=>?_
   cases c3 : (isL c) with
   | true =>
    rw [c3] at F;refine on' F 12 ?_;refine mv F fun A F=>?_;refine on' F 12 ?_;refine sw_callR (by kernel_rfl) (span_goes s _ (by omega)) F ⟨rfl, rfl, rfl⟩ rfl rfl ?_;rintro e w1 ⟨rfl, hb1⟩;refine ⟨_, rfl, fun A F => ?_⟩;replace M := M.after2 hb1;refine on' F 12 ?_;refine mv F fun A F=>?_;refine on' F 12 ?_;refine sw_slen F ⟨rfl, rfl, rfl⟩ rfl Tryz.underlying9 rfl fun A F => ?_;refine on' F 12 ?_;refine eqi F fun A F=>?_;refine pkT F fun A F=>?_;refine mv F fun A F=>?_
    cases c4 : ((spanN goes s : Int) == (s.length : Int)) with
    | true =>
     rw [c4] at F;refine on' F 19 ?_;refine mv F fun A F=>?_;refine on' F 19 ?_;refine sw_callR (by kernel_rfl) (isWord_any s _) F ⟨rfl, rfl, rfl⟩ rfl rfl ?_;rintro e w1 ⟨rfl, rfl⟩;refine ⟨_, rfl, fun A F => ?_⟩;refine on' F 19 ?_;refine sw_not F ⟨rfl, rfl, rfl⟩ rfl rfl fun A F => ?_;refine pkT F fun A F=>?_;refine as1 F fun A F=>?_;refine en (wp_ret ?_);repeat first|refine tr ?_|refine br ?_
     exact sw_rettmp F Tryz.results52 rfl (ze M (by rw [nm_eq (hc hne), c3, show decide (spanN goes s = s.length) = true by rw [← c4, int_beq], decide_eq_true (show s.length ≤ 16 by omega)]; rfl))
    | false =>
     rw [c4] at F;refine off3 F 19 19 19 fun A F=>?_;refine pkF F fun A F=>?_;refine as1 F fun A F=>?_;refine en (wp_ret ?_);repeat first|refine tr ?_|refine br ?_
     exact sw_rettmp F Tryz.results52 rfl (ze M (by rw [nm_eq (hc hne), show decide (spanN goes s = s.length) = false by rw [← c4, int_beq], Bool.and_false, Bool.false_and]))
   | false =>
    rw [c3] at F;refine off4 F 12 12 12 12 fun A F=>?_;refine off F 12 fun A F=>?_;refine pkF F fun A F=>?_;refine mv F fun A F=>?_;refine off3 F 19 19 19 fun A F=>?_;refine pkF F fun A F=>?_;refine as1 F fun A F=>?_;refine en (wp_ret ?_);repeat first|refine tr ?_|refine br ?_
    exact sw_rettmp F Tryz.results52 rfl (ze M (by rw [nm_eq (hc hne), c3, Bool.and_false, Bool.false_and, Bool.false_and]))
  | false =>
   rw [c2] at F;have h16 := of_decide_eq_false c2;refine off3 F 7 7 7 fun A F=>?_;refine pkF F fun A F=>?_;refine mv F fun A F=>?_;refine off4 F 12 12 12 12 fun A F=>?_;refine off F 12 fun A F=>?_;refine pkF F fun A F=>?_;refine mv F fun A F=>?_;refine off3 F 19 19 19 fun A F=>?_;refine pkF F fun A F=>?_;refine as1 F fun A F=>?_;refine en (wp_ret ?_);repeat first|refine tr ?_|refine br ?_
   exact sw_rettmp F Tryz.results52 rfl (ze M (by exact pnm_long h16))
 | false =>
  rw [c1] at F;have hne : s = [] := by simpa using c1
  refine off3 F 2 2 2 fun A F=>?_;refine pkF F fun A F=>?_;refine mv F fun A F=>?_;refine off3 F 7 7 7 fun A F=>?_;refine pkF F fun A F=>?_;refine mv F fun A F=>?_;refine off4 F 12 12 12 12 fun A F=>?_;refine off F 12 fun A F=>?_;refine pkF F fun A F=>?_;refine mv F fun A F=>?_;refine off3 F 19 19 19 fun A F=>?_;refine pkF F fun A F=>?_;refine as1 F fun A F=>?_;refine en (wp_ret ?_);repeat first|refine tr ?_|refine br ?_
  exact sw_rettmp F Tryz.results52 rfl (ze M (by rw [hne]; rfl))
theorem iskind_m (w0 : World) (k : Int) : Meth Tryz.prog (Bx w0) (fun _ => False) 86 [.int .i64 k] () (fun v _ _ => v = .bool (decide (1 ≤ k ∧ k ≤ 3))) := by
 refine ⟨by kernel_rfl, fun wO R _ => ?_⟩;have M := bx_begin R;refine sw_fn Tryz.func86 rfl 9 Tryz.ntmps86 rfl fun A F => ?_;refine sq (rg ?_);refine as1 F fun A F=>?_;refine en (sq (rg ?_));refine mv F fun A F=>?_;refine sw_geq F ⟨rfl, rfl, rfl⟩ rfl rfl rfl fun A F => ?_;refine mv F fun A F=>?_
 cases c1 : (decide (1 ≤ k)) with
 | true =>
  rw [c1] at F;refine on' F 2 ?_;refine mv F fun A F=>?_;refine on' F 2 ?_;refine sw_leq F ⟨rfl, rfl, rfl⟩ rfl rfl rfl fun A F => ?_;refine pkT F fun A F=>?_;refine as1 F fun A F=>?_;refine en (wp_ret ?_);repeat first|refine tr ?_|refine br ?_
  exact sw_rettmp F Tryz.results86 rfl (ze M (by rw [Bool.eq_iff_iff.2 (show decide (k ≤ 3) = true ↔ decide (1 ≤ k ∧ k ≤ 3) = true by have := of_decide_eq_true c1; simp only [decide_eq_true_eq]; omega)]))
 | false =>
  rw [c1] at F;refine off2 F 2 2 fun A F=>?_;refine pkF F fun A F=>?_;refine as1 F fun A F=>?_;refine en (wp_ret ?_);repeat first|refine tr ?_|refine br ?_
  exact sw_rettmp F Tryz.results86 rfl (ze M (by rw [decide_eq_false (show ¬ (1 ≤ k ∧ k ≤ 3) by have := of_decide_eq_false c1; omega)]))
theorem nameif_m (w0 : World) (b : Bool) (s : Key) : Meth Tryz.prog (Bx w0) (fun _ => False) 116 [.bool b, .string (str s)] () (fun v _ _ => v = .bool (nmIf b s)) := by
 refine ⟨by kernel_rfl, fun wO R _ => ?_⟩;have M := bx_begin R;refine sw_fn Tryz.func116 rfl 10 Tryz.ntmps116 rfl fun A F => ?_;refine sq (rg ?_);refine as1 F fun A F=>?_;refine en (sq (sq (rg ?_)));refine mv F fun A F=>?_;refine en (cd F (fun hc1=>?_) fun hc1=>?_)
 ·refine sq (rg ?_);refine mv F fun A F=>?_;refine sw_callR (by kernel_rfl) ((isname_m _ s).2 _ (Below.refl _ _) (fun _ q => q.elim)) F ⟨rfl, rfl, rfl⟩ rfl rfl ?_;rintro e w1 ⟨v, fs, s', rfl, _, hb1, _, rfl⟩;refine ⟨_, rfl, fun A F => ?_⟩;replace M := M.after2 hb1;refine as1 F fun A F=>?_;refine en (wp_ret ?_);repeat first|refine tr ?_|refine br ?_
  exact sw_rettmp F Tryz.results116 rfl (ze M (by subst hc1; rfl))
 refine wp_skip (sq (rg ?_));refine mv F fun A F=>?_;refine sw_seq2 F ⟨rfl, rfl, rfl⟩ rfl rfl rfl fun A F => ?_;refine as1 F fun A F=>?_;refine en (wp_ret ?_);repeat first|refine tr ?_|refine br ?_
 exact sw_rettmp F Tryz.results116 rfl (ze M (by subst hc1; rfl))
theorem kindif_m (w0 : World) (b : Bool) (k : Int) : Meth Tryz.prog (Bx w0) (fun _ => False) 117 [.bool b, .int .i64 k] () (fun v _ _ => v = .bool (kdIf b k)) := by
 refine ⟨by kernel_rfl, fun wO R _ => ?_⟩;have M := bx_begin R;refine sw_fn Tryz.func117 rfl 10 Tryz.ntmps117 rfl fun A F => ?_;refine sq (rg ?_);refine as1 F fun A F=>?_;refine en (sq (sq (rg ?_)));refine mv F fun A F=>?_;refine en (cd F (fun hc1=>?_) fun hc1=>?_)
 ·refine sq (rg ?_);refine mv F fun A F=>?_;refine sw_callR (by kernel_rfl) ((iskind_m _ k).2 _ (Below.refl _ _) (fun _ q => q.elim)) F ⟨rfl, rfl, rfl⟩ rfl rfl ?_;rintro e w1 ⟨v, fs, s', rfl, _, hb1, _, rfl⟩;refine ⟨_, rfl, fun A F => ?_⟩;replace M := M.after2 hb1;refine as1 F fun A F=>?_;refine en (wp_ret ?_);repeat first|refine tr ?_|refine br ?_
  exact sw_rettmp F Tryz.results117 rfl (ze M (by subst hc1; rfl))
 refine wp_skip (sq (rg ?_));refine mv F fun A F=>?_;refine eqi F fun A F=>?_;refine as1 F fun A F=>?_;refine en (wp_ret ?_);repeat first|refine tr ?_|refine br ?_
 exact sw_rettmp F Tryz.results117 rfl (ze M (by subst hc1; rfl))
theorem of_beq {a b : Int} (h : (a == b) = true) : a = b := by simpa using h
theorem mostof_m (w0 : World) (op : Int) : Meth Tryz.prog (Bx w0) (fun _ => False) 147 [.int .i64 op] () (fun v _ _ => v = .int .i64 (mostI op)) := by
 refine ⟨by kernel_rfl, fun wO R _ => ?_⟩;have M := bx_begin R;refine sw_fn Tryz.func147 rfl 8 Tryz.ntmps147 rfl fun A F => ?_;refine sq (rg ?_);refine as1 F fun A F=>?_;refine en (sq (sq (rg ?_)));refine mv F fun A F=>?_;refine en (wp_block ?_);refine sq (rg ?_);refine eqi F fun A F=>?_;refine as1 F fun A F=>?_;refine en (cd F (fun hc1=>?_) fun hc1=>?_)
 ·refine sq (rg ?_);refine as1 F fun A F=>?_;refine en (wp_ret ?_);repeat first|refine tr ?_|refine br ?_
  exact sw_rettmp F Tryz.results147 rfl (ze M (by have q := of_beq hc1; subst q; rfl))
 refine sq (rg ?_);refine eqi F fun A F=>?_;refine as1 F fun A F=>?_;refine en (cd F (fun hc2=>?_) fun hc2=>?_)
 ·refine sq (rg ?_);refine as1 F fun A F=>?_;refine en (wp_ret ?_);repeat first|refine tr ?_|refine br ?_
  exact sw_rettmp F Tryz.results147 rfl (ze M (by have q := of_beq hc2; subst q; rfl))
 refine wp_skip (sq (rg ?_));refine as1 F fun A F=>?_;refine en (wp_ret ?_);repeat first|refine tr ?_|refine br ?_
 exact sw_rettmp F Tryz.results147 rfl (ze M (by unfold mostI; rw [if_neg (by simpa using hc1), if_neg (by simpa using hc2)]))
theorem fmp_m (w0 : World) (x : Key × Int) : Meth Tryz.prog (Bx w0) (fun _ => False) 54 [.agg #[.string (str x.1), .int .i64 x.2]] () (fun v _ _ => v = .bool (paF x)) := by
 refine ⟨by kernel_rfl, fun wO R _ => ?_⟩;have M := bx_begin R;refine sw_fn Tryz.func54 rfl 11 Tryz.ntmps54 rfl fun A F => ?_;refine sq (rg ?_);refine sw_box F M [.string (str x.1), .int .i64 x.2] ⟨rfl, rfl, rfl⟩ rfl rfl rfl fun x1 A w F M => ?_;refine as1 F fun A F=>?_;refine en (sq (rg ?_));refine fl F 0 fun A F=>?_;refine ce F M 0 fun A F=>?_;refine sw_callR (by kernel_rfl) ((isname_m _ x.1).2 _ (Below.refl _ _) (fun _ q => q.elim)) F ⟨rfl, rfl, rfl⟩ rfl rfl ?_;rintro e w1 ⟨v, fs, s', rfl, _, hb1, _, rfl⟩;refine ⟨_, rfl, fun A F => ?_⟩;replace M := M.after2 hb1;refine mv F fun A F=>?_
 cases c2 : (nmB x.1) with
 | true =>
  rw [c2] at F;refine on' F 3 ?_;refine fl F 1 fun A F=>?_;refine on' F 3 ?_;refine ce F M 0 fun A F=>?_;refine on' F 3 ?_;refine sw_callR (by kernel_rfl) ((iskind_m _ x.2).2 _ (Below.refl _ _) (fun _ q => q.elim)) F ⟨rfl, rfl, rfl⟩ rfl rfl ?_;rintro e w1 ⟨v, fs, s', rfl, _, hb1, _, rfl⟩;refine ⟨_, rfl, fun A F => ?_⟩;replace M := M.after2 hb1;refine pkT F fun A F=>?_;refine as1 F fun A F=>?_;refine en (wp_ret ?_);repeat first|refine tr ?_|refine br ?_
  exact sw_rettmp F Tryz.results54 rfl (ze M (by unfold paF; rw [c2]; rfl))
 | false =>
  rw [c2] at F;refine off3 F 3 3 3 fun A F=>?_;refine pkF F fun A F=>?_;refine as1 F fun A F=>?_;refine en (wp_ret ?_);repeat first|refine tr ?_|refine br ?_
  exact sw_rettmp F Tryz.results54 rfl (ze M (by unfold paF; rw [c2]; rfl))
theorem fmt_m (w0 : World) (x : Key × Int × Int) : Meth Tryz.prog (Bx w0) (fun _ => False) 56 [.agg #[.string (str x.1), .int .i64 x.2.1, .int .i64 x.2.2]] () (fun v _ _ => v = .bool (taF x)) := by
 refine ⟨by kernel_rfl, fun wO R _ => ?_⟩;have M := bx_begin R;refine sw_fn Tryz.func56 rfl 16 Tryz.ntmps56 rfl fun A F => ?_;refine sq (rg ?_);refine sw_box F M [.string (str x.1), .int .i64 x.2.1, .int .i64 x.2.2] ⟨rfl, rfl, rfl⟩ rfl rfl rfl fun x1 A w F M => ?_;refine as1 F fun A F=>?_;refine en (sq (rg ?_));refine fl F 0 fun A F=>?_;refine ce F M 0 fun A F=>?_;refine sw_callR (by kernel_rfl) ((isname_m _ x.1).2 _ (Below.refl _ _) (fun _ q => q.elim)) F ⟨rfl, rfl, rfl⟩ rfl rfl ?_;rintro e w1 ⟨v, fs, s', rfl, _, hb1, _, rfl⟩;refine ⟨_, rfl, fun A F => ?_⟩;replace M := M.after2 hb1;refine mv F fun A F=>?_
 cases c2 : (nmB x.1) with
 | true =>
  rw [c2] at F;refine on' F 3 ?_;refine fl F 1 fun A F=>?_;refine on' F 3 ?_;refine ce F M 0 fun A F=>?_;refine on' F 3 ?_;refine sw_callR (by kernel_rfl) ((iskind_m _ x.2.1).2 _ (Below.refl _ _) (fun _ q => q.elim)) F ⟨rfl, rfl, rfl⟩ rfl rfl ?_;rintro e w1 ⟨v, fs, s', rfl, _, hb1, _, rfl⟩;refine ⟨_, rfl, fun A F => ?_⟩;replace M := M.after2 hb1;refine pkT F fun A F=>?_;refine mv F fun A F=>?_
  cases c3 : (decide (1 ≤ x.2.1 ∧ x.2.1 ≤ 3)) with
  | true =>
   rw [c3] at F;refine on' F 8 ?_;refine fl F 2 fun A F=>?_;refine on' F 8 ?_;refine ce F M 0 fun A F=>?_;refine on' F 8 ?_;refine sw_callR (by kernel_rfl) ((iskind_m _ x.2.2).2 _ (Below.refl _ _) (fun _ q => q.elim)) F ⟨rfl, rfl, rfl⟩ rfl rfl ?_;rintro e w1 ⟨v, fs, s', rfl, _, hb1, _, rfl⟩;refine ⟨_, rfl, fun A F => ?_⟩;replace M := M.after2 hb1;refine pkT F fun A F=>?_;refine as1 F fun A F=>?_;refine en (wp_ret ?_);repeat first|refine tr ?_|refine br ?_
   exact sw_rettmp F Tryz.results56 rfl (ze M (by unfold taF; rw [c2, c3]; rfl))
  | false =>
   rw [c3] at F;refine off3 F 8 8 8 fun A F=>?_;refine pkF F fun A F=>?_;refine as1 F fun A F=>?_;refine en (wp_ret ?_);repeat first|refine tr ?_|refine br ?_
   exact sw_rettmp F Tryz.results56 rfl (ze M (by unfold taF; rw [c2, c3]; rfl))
 | false =>
  rw [c2] at F;refine off3 F 3 3 3 fun A F=>?_;refine pkF F fun A F=>?_;refine mv F fun A F=>?_;refine off3 F 8 8 8 fun A F=>?_;refine pkF F fun A F=>?_;refine as1 F fun A F=>?_;refine en (wp_ret ?_);repeat first|refine tr ?_|refine br ?_
  exact sw_rettmp F Tryz.results56 rfl (ze M (by unfold taF; rw [c2]; rfl))
end Go.Proofs.YthhpkjmhcolgfaaGreatDoor
