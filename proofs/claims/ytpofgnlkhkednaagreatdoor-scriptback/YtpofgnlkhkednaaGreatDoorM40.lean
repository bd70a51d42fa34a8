import Derived.Test.YtpofgnlkhkednaaGreatDoorSQwc
import Derived.Test.YtpofgnlkhkednaaGreatDoorM17
namespace Go.Proofs.YtpofgnlkhkednaaGreatDoor
open Go.RowKit
set_option linter.unusedVariables false
set_option linter.unusedSimpArgs false
set_option maxRecDepth 20000
set_option maxHeartbeats 8000000
theorem XT.fms_in {l : List XT} (h : XT.fms l = true) : ∀ x ∈ l, x.fm = true := by
 rw [XT.fms_all, List.all_eq_true] at h;exact h
theorem ST.fms_in {l : List ST} (h : ST.fms l = true) : ∀ x ∈ l, x.fm = true := by
 rw [ST.fms_all, List.all_eq_true] at h;exact h
theorem else_ev {α : Type} {n : Nat} {ls : List α} (h : n = ls.length) (v : List PEv) : (n = 0 → (if ls.isEmpty then [] else tkn [101, 108, 115, 101] ++ v) = []) ∧ (0 < n → (if ls.isEmpty then [] else tkn [101, 108, 115, 101] ++ v) = tkn [101, 108, 115, 101] ++ v) := by
 cases ls with
 | nil => exact ⟨fun _ => rfl, fun q => by rw [h] at q; simp at q⟩
 | cons a l => exact ⟨fun q => by rw [h] at q; simp at q, fun _ => rfl⟩
theorem stw_of {W0 : World} (HT : Tabs W0) (HP : PowT W0) (b : Nat) (k : Int) (nm al ca : Key) (ty : Int) (es : List XT) (bs ls : List ST) (hf : (ST.mk k nm al ca ty es bs ls).fm = true) (HB : ∀ x ∈ bs, StW2 b W0 x) (HL : ∀ x ∈ ls, StW2 b W0 x) : StW2 b W0 (.mk k nm al ca ty es bs ls) := by
 intro lo fs hp hl;obtain ⟨ea, ec, ee, ba, bc, bb, la, lc, el, rfl, he, hb, hle⟩ := inv_S hp;have q := ST.parts hf;rw [ST.pvs_map] at hb hle;have hAe : (Fld.l ea ec ee).lies lo W0 := hl _ (by simp);have hAb : (Fld.l ba bc bb).lies lo W0 := hl _ (by simp);have hAl : (Fld.l la lc el).lies lo W0 := hl _ (by simp);have HX : ∀ x ∈ es, ExW b W0 x := fun x hx => exw_m HT HP b x (XT.fms_in q.hes x hx);have hlb := blockw_of b W0 bs HB lo ba bc bb hb hAb;have hll := blockw_of b W0 ls HL lo la lc el hle hAl;have hel : el.length = ls.length := by rw [← pvRows_len, hle, List.length_map]
 have hee : ee.length = es.length := by rw [← pvRows_len, he, List.length_map]
 have hle' := else_ev hel (blockV (ls.map ST.evs));generalize hev : (ST.mk k nm al ca ty es bs ls).evs = ev;show WrM b W0 63 [ptr b, .agg #[.int .i64 k, .string (str nm), .string (str al), .string (str ca), .int .i64 ty, .slice ea ee.length ec, .slice ba bb.length bc, .slice la el.length lc]] ev;have hk := q.rng;rcases (show k = 1 ∨ k = 2 ∨ k = 3 ∨ k = 4 ∨ k = 5 ∨ k = 8 ∨ k = 10 ∨ (k = 6 ∨ k = 7 ∨ k = 9) by omega) with rfl | rfl | rfl | rfl | rfl | rfl | rfl | h6
 ·obtain ⟨x, rfl, _⟩ := q.one rfl (by decide);have ht : 1 ≤ ty ∧ ty ≤ 3 := of_decide_eq_true q.hty;rw [sv_1 q] at hev;exact stepw_of HT b 1 nm al ca ty ea ba la ec bc lc ee bb el ev _ hk hev.symm (fun h => by omega) (fun _ => ⟨x.evs, rfl, argw_one HX he hAe rfl, ht.1, ht.2⟩) (fun h => by omega) (fun h => by omega) (fun h => by omega) (fun h => by omega) (fun h => by omega)
 ·obtain ⟨x, rfl, _⟩ := q.one rfl (by decide);rw [sv_2 q] at hev;exact stepw_of HT b 2 nm al ca ty ea ba la ec bc lc ee bb el ev _ hk hev.symm (fun h => by omega) (fun h => by omega) (fun _ => ⟨x.evs, rfl, argw_one HX he hAe rfl⟩) (fun h => by omega) (fun h => by omega) (fun h => by omega) (fun h => by omega)
 ·obtain ⟨x, y, rfl, _, _⟩ := q.two rfl (by decide);rw [sv_3 q] at hev;exact stepw_of HT b 3 nm al ca ty ea ba la ec bc lc ee bb el ev _ hk hev.symm (fun h => by omega) (fun h => by omega) (fun h => by omega) (fun _ => ⟨x.evs, y.evs, rfl, argw_one HX he hAe rfl, argw_one HX he hAe rfl⟩) (fun h => by omega) (fun h => by omega) (fun h => by omega)
 ·obtain ⟨x, rfl, _⟩ := q.one rfl (by decide);rw [sv_4 q] at hev;exact stepw_of HT b 4 nm al ca ty ea ba la ec bc lc ee bb el ev _ hk hev.symm (fun _ => branchw_of b W0 4 nm al ca ty ea ba la ec bc lc ee bb el _ _ _ _ (argw_one HX he hAe rfl) hlb hll hle'.1 hle'.2) (fun h => by omega) (fun h => by omega) (fun h => by omega) (fun h => by omega) (fun h => by omega) (fun h => by omega)
 ·obtain ⟨x, rfl, _⟩ := q.one rfl (by decide);rw [sv_5 q] at hev;exact stepw_of HT b 5 nm al ca ty ea ba la ec bc lc ee bb el ev _ hk hev.symm (fun _ => branchw_of b W0 5 nm al ca ty ea ba la ec bc lc ee bb el _ _ _ _ (argw_one HX he hAe rfl) hlb hll hle'.1 hle'.2) (fun h => by omega) (fun h => by omega) (fun h => by omega) (fun h => by omega) (fun h => by omega) (fun h => by omega)
 ·obtain ⟨x, y, rfl, _, _⟩ := q.two rfl (by decide);rw [sv_8 q] at hev;exact stepw_of HT b 8 nm al ca ty ea ba la ec bc lc ee bb el ev _ hk hev.symm (fun h => by omega) (fun h => by omega) (fun h => by omega) (fun h => by omega) (fun h => by omega) (fun _ => ⟨x.evs, y.evs, rfl, argw_one HX he hAe rfl, argw_one HX he hAe rfl⟩) (fun h => by omega)
 ·obtain ⟨_, _, _, x, y, z, r, rfl, _, _, _, _⟩ := q.ask;rw [sv_10 q] at hev;have hk2 : 3 ≤ ee.length := by rw [hee]; simp
  have hdr := lies_drop hAe (four_of he) hk2;have HA5 := argsw_m (l := r) (fun x hx => HX x (List.mem_cons_of_mem _ (List.mem_cons_of_mem _ (List.mem_cons_of_mem _ hx)))) lo _ _ (ee.drop 3) (by rw [drop_rows, he]; rfl) hdr;rw [List.length_drop] at HA5;refine stepw_of HT b 10 nm al ca ty ea ba la ec bc lc ee bb el ev _ hk (hev.symm.trans ?_) (fun h => by omega) (fun h => by omega) (fun h => by omega) (fun h => by omega) (fun _ => ⟨_, rfl, askw_of b W0 10 nm al ca ty ea ba la ec bc lc ee bb el x.evs y.evs z.evs _ hk2 (argw_one HX he hAe rfl) (argw_one HX he hAe rfl) (argw_one HX he hAe rfl) HA5⟩) (fun h => by omega) (fun h => by omega);show tkn [97, 115, 107] ++ _ = tkn [97, 115, 107] ++ _;simp [tkn]
 ·obtain ⟨x, rfl, _⟩ := q.one (by rcases h6 with rfl | rfl | rfl <;> rfl) (by omega);rw [sv_one q h6] at hev;have hw : wdE k = tkn (wdS k) := by rcases h6 with rfl | rfl | rfl <;> rfl
  rw [← hw] at hev;exact stepw_of HT b k nm al ca ty ea ba la ec bc lc ee bb el ev _ hk hev.symm (fun h => by omega) (fun h => by omega) (fun h => by omega) (fun h => by omega) (fun h => by omega) (fun h => by omega) (fun _ => ⟨x.evs, rfl, argw_one HX he hAe rfl⟩)
theorem stw_all {W0 : World} (HT : Tabs W0) (HP : PowT W0) (b : Nat) : ∀ x : ST, x.fm = true → StW2 b W0 x
 | .mk k nm al ca ty es bs ls, hf => stw_of HT HP b k nm al ca ty es bs ls hf (fun y hy => stw_all HT HP b y (ST.fms_in (ST.parts hf).hbs y hy)) (fun y hy => stw_all HT HP b y (ST.fms_in (ST.parts hf).hls y hy))
termination_by x => SizeOf.sizeOf x
decreasing_by
 all_goals
  have := List.sizeOf_lt_of_mem hy;simp only [ST.mk.sizeOf_spec];omega
theorem blockw_m {W0 : World} (HT : Tabs W0) (HP : PowT W0) (b : Nat) (l : List ST) (hf : ST.fms l = true) (lo : Nat) (la : Option Addr) (lc : Nat) (es : List (List Fld)) (he : pvRows es = l.map ST.pv) (hA : (Fld.l la lc es).lies lo W0) : WrM b W0 52 [ptr b, .slice la es.length lc] (blockV (l.map ST.evs)) :=
 blockw_of b W0 l (fun x hx => stw_all HT HP b x (ST.fms_in hf x hx)) lo la lc es he hA
theorem StW.nob1 {k ty : Int} {nm al ca : Key} {es : List XT} {bs ls : List ST} (h : StW k nm al ca ty es bs ls) (q : (wantsI k).2.2.2 < 1) : bs = [] := by
 have ho := h.ok;unfold okS at ho;simp only [Bool.and_eq_true, Bool.not_eq_true', Bool.and_eq_false_iff, decide_eq_false_iff_not] at ho;have h1 := ho.1.2;rw [ST.all_len] at h1
 cases bs with
 | nil => rfl
 | cons a l =>
  rcases h1 with h1 | h1
  ·exact absurd q h1
  ·simp at h1
theorem StW.no_nm {k ty : Int} {nm al ca : Key} {es : List XT} {bs ls : List ST} (h : StW k nm al ca ty es bs ls) (q : (wantsI k).1 = false) : nm = [] := by
 have := h.hnm;rw [nmIf, if_neg (by rw [q]; decide)] at this
 simpa using this
theorem StW.no_al {k ty : Int} {nm al ca : Key} {es : List XT} {bs ls : List ST} (h : StW k nm al ca ty es bs ls) (q : k ≠ 10) : al = [] ∧ ca = [] := by
 have h1 := h.hal;have h2 := h.hca;rw [nmIf, if_neg (by simpa using q)] at h1 h2;exact ⟨by simpa using h1, by simpa using h2⟩
theorem StW.no_ty {k ty : Int} {nm al ca : Key} {es : List XT} {bs ls : List ST} (h : StW k nm al ca ty es bs ls) (q : (wantsI k).2.1 = false) : ty = 0 := by
 have := h.hty;rw [kdIf, if_neg (by rw [q]; decide)] at this
 simpa using this
theorem StW.kind {k ty : Int} {nm al ca : Key} {es : List XT} {bs ls : List ST} (h : StW k nm al ca ty es bs ls) (q : (wantsI k).2.1 = true) : 1 ≤ ty ∧ ty ≤ 3 := by
 have := h.hty;rw [kdIf, if_pos q] at this;exact of_decide_eq_true this
theorem kind_word {k : Int} (h : 1 ≤ k ∧ k ≤ 3) : kindK k ∈ wordL ∧ pickI kindW (.ok ⟨[], tkOf (kindK k), 0⟩) = k := by
 rcases (show k = 1 ∨ k = 2 ∨ k = 3 by omega) with rfl | rfl | rfl <;> decide
theorem kind_rd {ty : Int} {k : List Key} {lv : Int} (h : 1 ≤ ty ∧ ty ≤ 3) (hk : Gs k) : Rv (fun _ => kindT) (.ok (stOf (kindK ty :: k) lv)) ty (.ok (stOf k lv)) := by
 refine rv_to (F' := fun _ => bnd (pickT kindW) fun k => if k = 0 then wrongT else bnd nextT fun _ => pur k) (fun _ => rfl) ?_;refine rd_pick.bind (rv_to (F' := fun _ => bnd nextT fun _ => pur ty) (fun _ => ?_) ((rd_next hk).bind (rv_pur _ _)));rw [pick_now _ (show (stOf (kindK ty :: k) lv).now = (⟨[], tkOf (kindK ty), 0⟩ : St).now from rfl), (kind_word h).2, if_neg (by omega)]
structure Sv (x : ST) : Prop where
 nt : nt x.evs = 0
 gs : Gs (etk x.evs)
 hd : ∃ s r, etk x.evs = s :: r ∧ s ≠ [125] ∧ s ≠ kElse
theorem nt_flat (l : List (List PEv)) (h : ∀ b ∈ l, nt b = 0) : nt l.flatten = 0 := by
 induction l with
 | nil => rfl
 | cons b l ih => rw [List.flatten_cons, nt_app, h b (by simp), ih fun d hd => h d (List.mem_cons_of_mem _ hd)]; rfl
theorem gs_flat (l : List (List PEv)) (h : ∀ b ∈ l, Gs (etk b)) : Gs (etk l.flatten) := by
 induction l with
 | nil => exact Gs.nil
 | cons b l ih =>
  rw [List.flatten_cons, etk_app];exact (h b (by simp)).app (ih fun d hd => h d (List.mem_cons_of_mem _ hd))
theorem blk_inn (bs : List (List PEv)) : blockV bs = innV [123] bs.flatten [125] := by
 unfold blockV innV;simp [List.append_assoc]
theorem g123 : Good [123] := good_fix (.inr (by decide))
theorem g125 : Good [125] := good_fix (.inr (by decide))
theorem g59 : Good [59] := good_fix (.inr (by decide))
theorem g61 : Good [61] := good_fix (.inr (by decide))
theorem g58 : Good [58] := good_fix (.inr (by decide))
theorem g46 : Good [46] := good_fix (.inr (by decide))
theorem g4562 : Good [45, 62] := good_fix (.inr (by decide))
theorem gNm {s : Key} (h : nmB s = true) : Good s := .inr (.inr (.inl h))
theorem gKd {k : Int} (h : 1 ≤ k ∧ k ≤ 3) : Good (kindK k) := .inl (kind_word h).1
theorem blk_ok {l : List ST} (H : ∀ x ∈ l, Sv x) : nt (blockV (l.map ST.evs)) = 0 ∧ Gs (etk (blockV (l.map ST.evs))) := by
 rw [blk_inn]
 have h1 : ∀ b ∈ l.map ST.evs, nt b = 0 ∧ Gs (etk b) := fun b hb => by
  obtain ⟨z, hz, rfl⟩ := List.mem_map.1 hb;exact ⟨(H z hz).nt, (H z hz).gs⟩
 exact ⟨nt_inn (nt_flat _ fun b hb => (h1 b hb).1), gs_inn g123 g125 (gs_flat _ fun b hb => (h1 b hb).2)⟩
theorem stp_word : ∀ k ∈ [(1 : Int), 4, 5, 6, 7, 8, 9, 10], stepL.getD k.toNat [] ∈ wordL ∧ stepL.getD k.toNat [] ≠ [125] ∧ stepL.getD k.toNat [] ≠ kElse ∧ pickI stepW (.ok ⟨[], tkOf (stepL.getD k.toNat []), 0⟩) = k := by decide
theorem sv_mk {x : ST} {s : Key} {l : List PEv} (h : x.evs = tkn s ++ l) (hn : nt l = 0) (hs : Good s) (hg : Gs (etk l)) (h1 : s ≠ [125]) (h2 : s ≠ kElse) : Sv x :=
 ⟨by rw [h, nt_app, nt_tkn, hn]; rfl, by rw [h, etk_app]; exact Gs.cons hs hg, ⟨s, _, by rw [h, etk_app]; rfl, h1, h2⟩⟩
theorem StW.cases {k ty : Int} {nm al ca : Key} {es : List XT} {bs ls : List ST} (h : StW k nm al ca ty es bs ls) {P : Prop}
  (c1 : ∀ x, k = 1 → es = [x] → x.fm = true → bs = [] → ls = [] → al = [] → ca = [] → nmB nm = true → (1 ≤ ty ∧ ty ≤ 3) → P)
  (c2 : ∀ x, k = 2 → es = [x] → x.fm = true → bs = [] → ls = [] → al = [] → ca = [] → nmB nm = true → ty = 0 → P)
  (c3 : ∀ x y, k = 3 → es = [x, y] → x.fm = true → y.fm = true → bs = [] → ls = [] → al = [] → ca = [] → nmB nm = true → ty = 0 → P)
  (c4 : ∀ x, k = 4 → es = [x] → x.fm = true → nm = [] → al = [] → ca = [] → ty = 0 → P)
  (c5 : ∀ x, k = 5 → es = [x] → x.fm = true → ls = [] → nm = [] → al = [] → ca = [] → ty = 0 → P)
  (co : ∀ x, k = 6 ∨ k = 7 ∨ k = 9 → es = [x] → x.fm = true → bs = [] → ls = [] → nm = [] → al = [] → ca = [] → ty = 0 → P)
  (c8 : ∀ x y, k = 8 → es = [x, y] → x.fm = true → y.fm = true → bs = [] → ls = [] → nm = [] → al = [] → ca = [] → ty = 0 → P)
  (c10 : ∀ x y z r, k = 10 → es = x :: y :: z :: r → x.fm = true → y.fm = true → z.fm = true → XT.fms r = true → bs = [] → ls = [] → nmB nm = true → nmB al = true → nmB ca = true → ty = 0 → P) : P := by
 have hr := h.rng;rcases (show k = 1 ∨ k = 2 ∨ k = 3 ∨ k = 4 ∨ k = 5 ∨ k = 6 ∨ k = 7 ∨ k = 8 ∨ k = 9 ∨ k = 10 by omega) with rfl | rfl | rfl | rfl | rfl | rfl | rfl | rfl | rfl | rfl
 ·obtain ⟨x, e, f⟩ := h.one rfl (by decide);exact c1 x rfl e f (h.nob1 (by decide)) (h.nob (by decide)) (h.no_al (by decide)).1 (h.no_al (by decide)).2 (h.named rfl) (h.kind rfl)
 ·obtain ⟨x, e, f⟩ := h.one rfl (by decide);exact c2 x rfl e f (h.nob1 (by decide)) (h.nob (by decide)) (h.no_al (by decide)).1 (h.no_al (by decide)).2 (h.named rfl) (h.no_ty rfl)
 ·obtain ⟨x, y, e, f, g⟩ := h.two rfl (by decide);exact c3 x y rfl e f g (h.nob1 (by decide)) (h.nob (by decide)) (h.no_al (by decide)).1 (h.no_al (by decide)).2 (h.named rfl) (h.no_ty rfl)
 ·obtain ⟨x, e, f⟩ := h.one rfl (by decide);exact c4 x rfl e f (h.no_nm rfl) (h.no_al (by decide)).1 (h.no_al (by decide)).2 (h.no_ty rfl)
 ·obtain ⟨x, e, f⟩ := h.one rfl (by decide);exact c5 x rfl e f (h.nob (by decide)) (h.no_nm rfl) (h.no_al (by decide)).1 (h.no_al (by decide)).2 (h.no_ty rfl)
 ·obtain ⟨x, e, f⟩ := h.one rfl (by decide);exact co x (.inl rfl) e f (h.nob1 (by decide)) (h.nob (by decide)) (h.no_nm rfl) (h.no_al (by decide)).1 (h.no_al (by decide)).2 (h.no_ty rfl)
 ·obtain ⟨x, e, f⟩ := h.one rfl (by decide);exact co x (.inr (.inl rfl)) e f (h.nob1 (by decide)) (h.nob (by decide)) (h.no_nm rfl) (h.no_al (by decide)).1 (h.no_al (by decide)).2 (h.no_ty rfl)
 ·obtain ⟨x, y, e, f, g⟩ := h.two rfl (by decide);exact c8 x y rfl e f g (h.nob1 (by decide)) (h.nob (by decide)) (h.no_nm rfl) (h.no_al (by decide)).1 (h.no_al (by decide)).2 (h.no_ty rfl)
 ·obtain ⟨x, e, f⟩ := h.one rfl (by decide);exact co x (.inr (.inr rfl)) e f (h.nob1 (by decide)) (h.nob (by decide)) (h.no_nm rfl) (h.no_al (by decide)).1 (h.no_al (by decide)).2 (h.no_ty rfl)
 ·obtain ⟨a, b, c, x, y, z, r, e, f1, f2, f3, f4⟩ := h.ask;exact c10 x y z r rfl e f1 f2 f3 f4 (h.nob1 (by decide)) (h.nob (by decide)) a b c (h.no_ty rfl)
theorem else_cases {α : Type} (ls : List α) (v : List PEv) : (ls = [] ∧ (if ls.isEmpty then [] else tkn [101, 108, 115, 101] ++ v) = []) ∨ ((∃ a l, ls = a :: l) ∧ (if ls.isEmpty then [] else tkn [101, 108, 115, 101] ++ v) = tkn kElse ++ v) := by
 cases ls with
 | nil => exact .inl ⟨rfl, rfl⟩
 | cons a l => exact .inr ⟨⟨a, l, rfl⟩, rfl⟩
theorem args_ok {r : List XT} (hf : XT.fms r = true) : nt (argsV (r.map XT.evs)) = 0 ∧ Gs (etk (argsV (r.map XT.evs))) := by
 have h1 : ∀ b ∈ r.map XT.evs, nt b = 0 ∧ Gs (etk b) := fun b hb => by
  obtain ⟨z, hz, rfl⟩ := List.mem_map.1 hb;have E := ev_all z (XT.fms_in hf z hz);exact ⟨E.nt, E.gs⟩
 exact ⟨args_nt _ fun b hb => (h1 b hb).1, by rw [args_tk]; exact gs_inn g40 g41 (gs_sep _ fun b hb => (h1 b hb).2)⟩
theorem sv_of (k : Int) (nm al ca : Key) (ty : Int) (es : List XT) (bs ls : List ST) (hf : (ST.mk k nm al ca ty es bs ls).fm = true) (HB : ∀ x ∈ bs, x.fm = true → Sv x) (HL : ∀ x ∈ ls, x.fm = true → Sv x) : Sv (.mk k nm al ca ty es bs ls) := by
 have h := ST.parts hf;have B := blk_ok (l := bs) fun x hx => HB x hx (ST.fms_in h.hbs x hx);have L := blk_ok (l := ls) fun x hx => HL x hx (ST.fms_in h.hls x hx)
 have el : nt (if ls.isEmpty then [] else tkn [101, 108, 115, 101] ++ blockV (ls.map ST.evs)) = 0 ∧ Gs (etk (if ls.isEmpty then [] else tkn [101, 108, 115, 101] ++ blockV (ls.map ST.evs))) := by
  rcases else_cases ls (blockV (ls.map ST.evs)) with ⟨_, e⟩ | ⟨_, e⟩
  ·rw [e]; exact ⟨rfl, Gs.nil⟩
  ·rw [e, nt_app, nt_tkn, L.1, etk_app];exact ⟨rfl, Gs.cons (.inl (by decide)) L.2⟩
 have word : ∀ s ∈ wordL, Good s := fun s hs => .inl hs
 have one : ∀ {x : XT}, x.fm = true → nt (x.evs ++ tkn [59]) = 0 ∧ Gs (etk (x.evs ++ tkn [59])) := fun q => by
  have E := ev_all _ q;exact ⟨by rw [nt_app, E.nt, nt_tkn]; rfl, by rw [etk_app]; exact E.gs.app (Gs.cons g59 Gs.nil)⟩
 have give : ∀ {x : XT}, x.fm = true → nt (tkn [61] ++ (x.evs ++ tkn [59])) = 0 ∧ Gs (etk (tkn [61] ++ (x.evs ++ tkn [59]))) := fun q => by
  have E := one q;exact ⟨by rw [nt_app, E.1, nt_tkn]; rfl, by rw [etk_app]; exact Gs.cons g61 E.2⟩
 refine h.cases ?_ ?_ ?_ ?_ ?_ ?_ ?_ ?_
 ·rintro x rfl rfl f rfl rfl rfl rfl hn hty;have G := give f;refine sv_mk (sv_1 h) ?_ (word _ (by decide)) ?_ (by decide) (by decide)
  ·rw [nt_app, G.1]; rfl
  ·rw [etk_app];exact (show Gs (etk (tkn nm ++ tkn [58] ++ tkn (kindK ty))) from Gs.cons (gNm hn) (Gs.cons g58 (Gs.cons (gKd hty) Gs.nil))).app G.2
 ·rintro x rfl rfl f rfl rfl rfl rfl hn rfl;have G := give f;have e := sv_2 h;rw [List.append_assoc] at e;exact sv_mk e G.1 (gNm hn) G.2 (nm_ne hn (.inr (by decide))) (nm_ne hn (.inl (by decide)))
 ·rintro x y rfl rfl f g rfl rfl rfl rfl hn rfl;have G := give g;have E := ev_all _ f;refine sv_mk (sv_3 h) ?_ (gNm hn) ?_ (nm_ne hn (.inr (by decide))) (nm_ne hn (.inl (by decide)))
  ·rw [nt_app, G.1, nt_inn E.nt]; rfl
  ·rw [etk_app]; exact (gs_inn g91 g93 E.gs).app G.2
 ·rintro x rfl rfl f rfl rfl rfl rfl;have E := ev_all _ f;refine sv_mk (sv_4 h) ?_ (word _ (by decide)) ?_ (by decide) (by decide)
  ·rw [nt_app, nt_app, E.nt, B.1, el.1]; rfl
  ·rw [etk_app, etk_app]; exact E.gs.app (B.2.app el.2)
 ·rintro x rfl rfl f rfl rfl rfl rfl rfl;have E := ev_all _ f;refine sv_mk (sv_5 h) ?_ (word _ (by decide)) ?_ (by decide) (by decide)
  ·rw [nt_app, nt_app, E.nt, B.1, el.1]; rfl
  ·rw [etk_app, etk_app]; exact E.gs.app (B.2.app el.2)
 ·rintro x q rfl f rfl rfl rfl rfl rfl rfl;have G := one f;have hw : wdS k ∈ wordL ∧ wdS k ≠ [125] ∧ wdS k ≠ kElse := by rcases q with rfl | rfl | rfl <;> decide
  exact sv_mk (sv_one h q) G.1 (word _ hw.1) G.2 hw.2.1 hw.2.2
 ·rintro x y rfl rfl f g rfl rfl rfl rfl rfl rfl;have G := one g;have E := ev_all _ f;refine sv_mk (sv_8 h) ?_ (word _ (by decide)) ?_ (by decide) (by decide)
  ·rw [nt_app, nt_app, nt_tkn, G.1, E.nt]; rfl
  ·rw [etk_app, etk_app]; exact E.gs.app (Gs.cons g44 G.2)
 ·rintro x y z r rfl rfl f1 f2 f3 f4 rfl rfl n1 n2 n3 rfl;have G := one f3;have E1 := ev_all _ f1;have E2 := ev_all _ f2;have A := args_ok f4;refine sv_mk (sv_10 h) ?_ (word _ (by decide)) ?_ (by decide) (by decide)
  ·simp only [nt_app, nt_tkn, E1.nt, E2.nt, A.1];have := G.1;rw [nt_app, nt_tkn] at this;omega
  ·have G2 := G.2;rw [etk_app] at G2;simp only [etk_app, etk_tkn];exact (Gs.cons (gNm n1) (Gs.cons g44 (Gs.cons (gNm n2) (Gs.cons g61 Gs.nil)))).app (E1.gs.app ((Gs.cons g46 (Gs.cons (gNm n3) Gs.nil)).app (A.2.app ((Gs.cons (word _ (by decide)) Gs.nil).app (E2.gs.app ((Gs.cons (word _ (by decide)) Gs.nil).app G2))))))
theorem sv_all : ∀ x : ST, x.fm = true → Sv x
 | .mk k nm al ca ty es bs ls, hf => sv_of k nm al ca ty es bs ls hf (fun y hy q => sv_all y q) (fun y hy q => sv_all y q)
termination_by x => SizeOf.sizeOf x
decreasing_by
 all_goals
  have := List.sizeOf_lt_of_mem hy;simp only [ST.mk.sizeOf_spec];omega
end Go.Proofs.YtpofgnlkhkednaaGreatDoor
