import Derived.Test.YtpofgnlkhkednaaGreatDoorM46
namespace Go.Proofs.YtpofgnlkhkednaaGreatDoor
open Go.RowKit
set_option linter.unusedVariables false
set_option linter.unusedSimpArgs false
set_option maxRecDepth 20000
set_option maxHeartbeats 8000000
def lcx (r : Int) : Int := if r = 4 then 5 else r
theorem g_num {lv m : Int} (h : 0 ≤ m ∧ m ≤ 1099511627775) : XG lv 7 (exP 1 m [] []) := by
 have f : (XT.mk 1 m [] []).fm = true := fm_mk (by
  unfold fmX;rw [show nmIf (namedI 1) [] = true by decide, show decide (0 ≤ m ∧ m ≤ mostI 1) = true from decide_eq_true h]
  rfl) (fun X hX => by cases hX)
 exact XG.top f (show 7 ≤ holdI 1 by decide) (by rw [ev_1 (XT.parts f)]; trivial)
theorem g_truth {lv m : Int} (h : m = 0 ∨ m = 1) : XG lv 7 (exP 2 m [] []) := by
 have f : (XT.mk 2 m [] []).fm = true := by rcases h with rfl | rfl <;> decide
 exact XG.top f (show 7 ≤ holdI 2 by decide) (by rw [ev_2 (XT.parts f)]; trivial)
theorem fm_named {op : Int} {s : Key} {k : Nat} (h : op = 3 ∨ op = 4 ∨ op = 5) (hs : nmB s = true) (hk : k = takesI op k) : fmX op 0 s k = true := by
 unfold fmX;have hn : namedI op = true := by unfold namedI; exact decide_eq_true h
 rw [nmIf, if_pos hn, hs, ← hk];rcases h with rfl | rfl | rfl <;> simp [mostI]
theorem g_name {lv : Int} {s : Key} (hs : nmB s = true) : XG lv 7 (exP 3 0 s []) := by
 have f : (XT.mk 3 0 s []).fm = true := fm_mk (fm_named (.inl rfl) hs rfl) (fun X hX => by cases hX);exact XG.top f (show 7 ≤ holdI 3 by decide) (by rw [ev_3 (XT.parts f)]; trivial)
theorem g_at {lv : Int} {s : Key} {y : EV} (hs : nmB s = true) (h : XI lv y) : XG lv 7 (exP 4 0 s [y]) := by
 obtain ⟨Y, rfl, fy, h1, h2⟩ := h;have f : (XT.mk 4 0 s [Y]).fm = true := fm_mk (fm_named (.inr (.inl rfl)) hs rfl) (fun X hX => by rw [List.mem_singleton.1 hX]; exact fy)
 exact XG.top f (show 7 ≤ holdI 4 by decide) (by
  rw [ev_4 (XT.parts f), lvl_app, nt_tkn, Int.add_zero]
  exact ⟨trivial, (lvl_inn (ev_all Y fy).nt).2 ⟨h1, h2⟩⟩)
def AI (lv : Int) (l : List EV) : Prop := AG (lv + 1) l ∧ lv < 32
theorem g_use {lv : Int} {s : Key} {l : List EV} (hs : nmB s = true) (h : AI lv l) : XG lv 7 (exP 5 0 s l) := by
 obtain ⟨⟨L, rfl, h1, h2⟩, h32⟩ := h;have f : (XT.mk 5 0 s L).fm = true := fm_mk (fm_named (.inr (.inr rfl)) hs rfl) (fun X hX => (h1 X hX).1);have e : (XT.mk 5 0 s L).pv = exP 5 0 s (L.map XT.pv) := by rw [XT.pv, XT.pvs_map]
 rw [← e]
 exact XG.top f (show 7 ≤ holdI 5 by decide) (by
  rw [ev_5 (XT.parts f), lvl_app, nt_tkn, Int.add_zero]
  exact ⟨trivial, AG.lvl h1 h2 h32⟩)
theorem g_not {lv : Int} {y : EV} (h32 : lv < 32) (h : XG (lv + 1) 3 y) : XG lv 3 (exP 8 0 [] [y]) := by
 obtain ⟨Y, rfl, fy, h⟩ := h;have f : (XT.mk 8 0 [] [Y]).fm = true := fm_mk (by show fmX 8 0 [] 1 = true; decide) (fun X hX => by rw [List.mem_singleton.1 hX]; exact fy)
 exact XG.top f (show 3 ≤ holdI 8 by decide) (by
  rw [ev_8 (XT.parts f)];simp only [lvl_app, lvl_up, lvl_tkn, lvl_down, nt_app, nt_up, nt_tkn, true_and, and_true, Int.add_zero]
  exact ⟨h32, h⟩)
theorem g_two {lv op : Int} {x y : EV} (ht : isTwo op = true) (hx : XG lv (lcx (holdI op)) x) (hy : XG lv (holdI op + 1) y) : XG lv (holdI op) (exP op 0 [] [x, y]) := by
 obtain ⟨X, rfl, fx, hx⟩ := hx;obtain ⟨Y, rfl, fy, hy⟩ := hy
 have hX : fmX op 0 [] 2 = true := by
  have : ∀ op ∈ [(6 : Int), 7, 9, 10, 11, 12, 13, 14, 15, 16, 17, 18, 19], fmX op 0 [] 2 = true := by decide
  exact this op (twos_of ht)
 have f : (XT.mk op 0 [] [X, Y]).fm = true := fm_mk hX (fun Z hZ => by
  rcases List.mem_cons.1 hZ with rfl | hZ
  ·exact fx
  ·rw [List.mem_singleton.1 hZ]; exact fy)
 exact XG.top f (Int.le_refl _) (by
  rw [ev_two (XT.parts f) ht];simp only [lvl_app, lvl_tkn, nt_app, nt_tkn, nt_brk (ev_all X fx).nt, and_true, Int.add_zero]
  exact ⟨hx, hy⟩)
theorem g_bare {lv op : Int} (h : 20 ≤ op ∧ op ≤ 23) : XG lv 7 (exP op 0 [] []) := by
 have hX : fmX op 0 [] 0 = true ∧ 7 ≤ holdI op := by
  rcases (show op = 20 ∨ op = 21 ∨ op = 22 ∨ op = 23 by omega) with rfl | rfl | rfl | rfl <;> decide
 have f : (XT.mk op 0 [] []).fm = true := fm_mk hX.1 (fun X hX => by cases hX);exact XG.top f hX.2 (by rw [ev_bare (XT.parts f) h]; trivial)
theorem g_one {lv op : Int} {y : EV} (h : 24 ≤ op ∧ op ≤ 26) (hy : XI lv y) : XG lv 7 (exP op 0 [] [y]) := by
 obtain ⟨Y, rfl, fy, h1, h2⟩ := hy
 have hX : fmX op 0 [] 1 = true ∧ 7 ≤ holdI op := by
  rcases (show op = 24 ∨ op = 25 ∨ op = 26 by omega) with rfl | rfl | rfl <;> decide
 have f : (XT.mk op 0 [] [Y]).fm = true := fm_mk hX.1 (fun X hX => by rw [List.mem_singleton.1 hX]; exact fy)
 exact XG.top f hX.2 (by
  rw [ev_one (XT.parts f) h, lvl_app, nt_tkn, Int.add_zero]
  exact ⟨trivial, (lvl_inn (ev_all Y fy).nt).2 ⟨h1, h2⟩⟩)
theorem oper_two {r op : Int} (hr : r ∈ [(1 : Int), 2, 4, 5, 6]) (h : ∃ s, (op, s) ∈ operW r ∧ s ≠ []) : isTwo op = true ∧ holdI op = r := by
 obtain ⟨s, h, _⟩ := h;have : ∀ r ∈ [(1 : Int), 2, 4, 5, 6], ∀ p ∈ operW r, isTwo p.1 = true ∧ holdI p.1 = r := by decide
 exact this r hr _ h
theorem oper_7 {op : Int} (h : ∃ s, (op, s) ∈ operW 7 ∧ s ≠ []) : 20 ≤ op ∧ op ≤ 26 := by
 obtain ⟨s, h, _⟩ := h;have : ∀ p ∈ operW 7, 20 ≤ p.1 ∧ p.1 ≤ 26 := by decide
 exact this _ h
theorem expr_pc : ∀ (n : Nat) (lv : Int), 0 ≤ lv → (∀ r, 1 ≤ r → r ≤ 7 → Pc lv lv (XG lv r) (exprT n r)) ∧ (∀ r x, r ∈ [(1 : Int), 2, 4, 5, 6] → XG lv (lcx r) x → Pc lv lv (XG lv r) (loopT n r x)) ∧ Pc lv lv (XG lv 3) (notT n) ∧ (∀ o c, Pc lv lv (XI lv) (innerT n o c)) ∧ Pc lv lv (AG lv) (commaT n) ∧ (∀ l, AG lv l → Pc lv lv (AG lv) (moreT n l)) ∧ Pc lv lv (AI lv) (argsT n) ∧ Pc lv lv (XG lv 7) (namedT n) ∧ Pc lv lv (XG lv 7) (wordT n) ∧ Pc lv lv (XG lv 7) (atomT n) := by
 intro n
 induction n with
 | zero => exact fun lv _ => ⟨fun _ _ _ => Pc.fl, fun _ _ _ _ => Pc.fl, Pc.fl, fun _ _ => Pc.fl, Pc.fl, fun _ _ => Pc.fl, Pc.fl, Pc.fl, Pc.fl, Pc.fl⟩
 | succ n ih =>
  intro lv h0;obtain ⟨h1, h2, h3, h4, h5, h6, h7, h8, h9, h10⟩ := ih lv h0;obtain ⟨u1, _, _, _, u5, _⟩ := ih (lv + 1) (by omega);refine ⟨fun r hr hr7 => ?_, fun r x hr hx => ?_, ?_, fun o c => ?_, ?_, fun l hl => ?_, ?_, ?_, ?_, ?_⟩
  ·rw [exprT];refine Pc.it (fun q => by subst q; exact h10) fun q7 => Pc.it (fun q => ?_) fun q3 => ?_
   ·subst q;exact Pc.bd (Pc.is _) fun c _ => Pc.it (fun _ => h3) fun _ => (h1 4 (by decide) (by decide)).to fun x hx => hx.low (by decide)
   ·refine Pc.bd (h1 (r + 1) (by omega) (by omega)) fun x hx => h2 r x ?_ (hx.low ?_)
    ·rcases (show r = 1 ∨ r = 2 ∨ r = 4 ∨ r = 5 ∨ r = 6 by omega) with rfl | rfl | rfl | rfl | rfl <;> simp
    ·unfold lcx; split <;> omega
  ·rw [loopT];refine Pc.bd (Pc.pick _) fun op hop => Pc.it (fun _ => Pc.pr (hx.low (by unfold lcx; split <;> omega))) fun q0 => ?_;obtain ⟨ht, hh⟩ := oper_two hr (hop q0)
   have hr2 : 1 ≤ r ∧ r ≤ 6 := by
    have := hr;simp at this;omega
   refine Pc.bd Pc.next fun _ _ => Pc.bd (h1 (r + 1) (by omega) (by omega)) fun y hy => ?_
   have g : XG lv r (exP op 0 [] [x, y]) := by
    rw [← hh] at hx hy ⊢;exact g_two ht hx hy
   exact Pc.it (fun _ => Pc.pr g) fun q4 => h2 r _ hr (by unfold lcx; rw [if_neg q4]; exact g)
  ·rw [notT];exact Pc.bd Pc.deep fun _ h32 => Pc.bd (Pc.take _) fun _ _ => Pc.bd (u1 3 (by decide) (by decide)) fun x hx => Pc.bd (Pc.upT h0) fun _ _ => Pc.pr (g_not h32 hx)
  ·rw [innerT]
   exact Pc.bd (Pc.open _) fun _ h32 => Pc.bd (u1 1 (by decide) (by decide)) fun x hx => Pc.bd (Pc.shut h0 _) fun _ _ => Pc.pr (by
    obtain ⟨X, e, f, g⟩ := hx.one
    exact ⟨X, e, f, h32, g⟩)
  ·rw [commaT];exact Pc.bd (Pc.is _) fun c _ => Pc.it (fun _ => Pc.pr (AG.nil _)) fun _ => Pc.bd (h1 1 (by decide) (by decide)) fun x hx => h6 _ (AG.app (AG.nil lv) hx (by decide))
  ·rw [moreT];exact Pc.bd (Pc.is _) fun c _ => Pc.it (fun _ => Pc.bd Pc.room fun _ hn => Pc.bd (Pc.take _) fun _ _ => Pc.bd (h1 1 (by decide) (by decide)) fun x hx => h6 _ (hl.app hx hn)) fun _ => Pc.pr hl
  ·rw [argsT];exact Pc.bd (Pc.open _) fun _ h32 => Pc.bd u5 fun l hl => Pc.bd (Pc.shut h0 _) fun _ _ => Pc.pr ⟨hl, h32⟩
  ·rw [namedT];exact Pc.bd Pc.name fun s hs => Pc.bd (Pc.is _) fun c _ => Pc.it (fun _ => Pc.bd (h4 _ _) fun y hy => Pc.pr (g_at hs hy)) fun _ => Pc.bd (Pc.is _) fun d _ => Pc.it (fun _ => Pc.bd h7 fun l hl => Pc.pr (g_use hs hl)) fun _ => Pc.pr (g_name hs)
  ·rw [wordT]
   exact Pc.bd (Pc.is _) fun c _ => Pc.it (fun _ => (h4 _ _).to fun x hx => hx.to) fun _ => Pc.bd (Pc.is _) fun c _ => Pc.it (fun _ => Pc.bd (Pc.take _) fun _ _ => Pc.pr (g_truth (.inr rfl))) fun _ => Pc.bd (Pc.is _) fun c _ => Pc.it (fun _ => Pc.bd (Pc.take _) fun _ _ => Pc.pr (g_truth (.inl rfl))) fun _ => Pc.bd (Pc.pick _) fun op hop => Pc.it (fun _ => Pc.wr) fun q0 => Pc.bd Pc.next fun _ _ => Pc.it (fun q => Pc.bd (h4 _ _) fun y hy => Pc.pr (g_one (by
    have a := oper_7 (hop q0);have b := (word_op op (word_in a)).2.2.2.2.2.2.2.1.1 q
    omega) hy)) fun q => Pc.pr (g_bare (by
    have a := oper_7 (hop q0)
    exact ⟨a.1, Int.not_lt.1 fun w => q ((word_op op (word_in a)).2.2.2.2.2.2.2.1.2 (by omega))⟩))
  ·refine Pc.at fun σ sn => ?_;rw [atomT]
   cases h : σ.now with
   | num m => exact ⟨_, Pc.bd Pc.next fun _ _ => Pc.pr (g_num (sn.2.1 m h)), by simp only [h]⟩
   | name s => exact ⟨_, h8, by simp only [h]⟩
   | none => exact ⟨_, h9, by simp only [h]⟩
   | fin => exact ⟨_, h9, by simp only [h]⟩
   | fixed s => exact ⟨_, h9, by simp only [h]⟩
def SG (lv : Int) (x : EV) : Prop := ∃ X : ST, X.pv = x ∧ X.fm = true ∧ lvl lv X.evs
def BG (lv : Int) (l : List EV) : Prop := ∃ L : List ST, L.map ST.pv = l ∧ ∀ X ∈ L, X.fm = true ∧ lvl lv X.evs
def BI (lv : Int) (l : List EV) : Prop := BG (lv + 1) l ∧ lv < 32
theorem BG.nil (lv : Int) : BG lv [] := ⟨[], rfl, fun _ h => (by cases h)⟩
theorem BG.app {lv : Int} {l : List EV} {x : EV} (h : BG lv l) (g : SG lv x) : BG lv (l ++ [x]) := by
 obtain ⟨L, e, f⟩ := h;obtain ⟨X, e2, f2⟩ := g;refine ⟨L ++ [X], by simp [e, e2], fun Y hY => ?_⟩;rcases List.mem_append.1 hY with q | q
 ·exact f Y q
 ·rw [List.mem_singleton.1 q]; exact f2
theorem lvl_flat {lv : Int} : ∀ l : List ST, (∀ X ∈ l, X.fm = true ∧ lvl lv X.evs) → lvl lv (l.map ST.evs).flatten
 | [], _ => trivial
 | X :: l, h => by
  have E := sv_all X (h X (by simp)).1;rw [List.map_cons, List.flatten_cons, lvl_app, E.nt, Int.add_zero];exact ⟨(h X (by simp)).2, lvl_flat l fun Z hZ => h Z (List.mem_cons_of_mem _ hZ)⟩
theorem lvl_blk {lv : Int} {L : List ST} (h : ∀ X ∈ L, X.fm = true ∧ lvl (lv + 1) X.evs) (h32 : lv < 32) : lvl lv (blockV (L.map ST.evs)) := by
 rw [blk_inn];refine (lvl_inn (nt_flat _ fun b hb => ?_)).2 ⟨h32, lvl_flat L h⟩;obtain ⟨z, hz, rfl⟩ := List.mem_map.1 hb;exact (sv_all z (h z hz).1).nt
theorem fmS_mk {k : Int} {nm al ca : Key} {ty : Int} {ne nb nl : Nat} (h1 : 1 ≤ k ∧ k ≤ 10) (h2 : nmIf (wantsI k).1 nm = true) (h3 : nmIf (decide (k = 10)) al = true) (h4 : nmIf (decide (k = 10)) ca = true) (h5 : kdIf (wantsI k).2.1 ty = true) (h6 : (ne : Int) = (wantsI k).2.2.1 ∨ k = 10 ∧ (wantsI k).2.2.1 < ne) (h7 : nb = 0 ∨ 1 ≤ (wantsI k).2.2.2) (h8 : nl = 0 ∨ 2 ≤ (wantsI k).2.2.2) : fmS k nm al ca ty ne nb nl = true := by
 unfold fmS;rw [decide_eq_true h1, h2, h3, h4, h5]
 have e6 : (decide ((ne : Int) = (wantsI k).2.2.1) || decide (k = 10 ∧ (wantsI k).2.2.1 < ne)) = true := by
  rw [Bool.or_eq_true, decide_eq_true_eq, decide_eq_true_eq]; exact h6
 have e7 : (!(decide ((wantsI k).2.2.2 < 1) && decide (0 < nb))) = true := by
  rw [Bool.not_eq_true', Bool.and_eq_false_iff, decide_eq_false_iff_not, decide_eq_false_iff_not];omega
 have e8 : (!(decide ((wantsI k).2.2.2 < 2) && decide (0 < nl))) = true := by
  rw [Bool.not_eq_true', Bool.and_eq_false_iff, decide_eq_false_iff_not, decide_eq_false_iff_not];omega
 rw [e6, e7, e8];rfl
theorem fm_st {k : Int} {nm al ca : Key} {ty : Int} {es : List XT} {bs ls : List ST} (h : fmS k nm al ca ty es.length bs.length ls.length = true) (h1 : ∀ X ∈ es, X.fm = true) (h2 : ∀ X ∈ bs, X.fm = true) (h3 : ∀ X ∈ ls, X.fm = true) : (ST.mk k nm al ca ty es bs ls).fm = true := by
 have hb : ∀ {l : List ST}, (∀ X ∈ l, X.fm = true) → ST.fms l = true := fun q => by rw [ST.fms_all]; exact List.all_eq_true.2 q
 rw [ST.fm, h, fms_all2 h1, hb h2, hb h3]; rfl
theorem no_st : ∀ X ∈ ([] : List ST), X.fm = true := fun X h => by cases h
theorem one_x {x : XT} (h : x.fm = true) : ∀ X ∈ [x], X.fm = true := fun X q => by rw [List.mem_singleton.1 q]; exact h
theorem two_x {x y : XT} (h : x.fm = true) (g : y.fm = true) : ∀ X ∈ [x, y], X.fm = true := fun X q => by
 rcases List.mem_cons.1 q with rfl | q
 ·exact h
 ·rw [List.mem_singleton.1 q]; exact g
theorem s_let {lv ty : Int} {nm : Key} {x : EV} (hn : nmB nm = true) (hk : 1 ≤ ty ∧ ty ≤ 3) (hx : XG lv 1 x) : SG lv (stP 1 nm [] [] ty [x] [] []) := by
 obtain ⟨X, rfl, f, g⟩ := hx.one;have E := ev_all X f;have hf : (ST.mk 1 nm [] [] ty [X] [] []).fm = true := fm_st (fmS_mk (by decide) hn rfl rfl (decide_eq_true hk) (.inl rfl) (.inl rfl) (.inl rfl)) (one_x f) no_st no_st;refine ⟨_, st_pv .., hf, ?_⟩;rw [sv_1 (ST.parts hf)];simp only [lvl_app, lvl_tkn, nt_app, nt_tkn, Int.add_zero, Int.zero_add, true_and, and_true];exact g
theorem s_set {lv : Int} {nm : Key} {x : EV} (hn : nmB nm = true) (hx : XG lv 1 x) : SG lv (stP 2 nm [] [] 0 [x] [] []) := by
 obtain ⟨X, rfl, f, g⟩ := hx.one;have hf : (ST.mk 2 nm [] [] 0 [X] [] []).fm = true := fm_st (fmS_mk (by decide) hn rfl rfl rfl (.inl rfl) (.inl rfl) (.inl rfl)) (one_x f) no_st no_st;refine ⟨_, st_pv .., hf, ?_⟩;rw [sv_2 (ST.parts hf)];simp only [lvl_app, lvl_tkn, nt_app, nt_tkn, Int.add_zero, Int.zero_add, true_and, and_true];exact g
theorem s_put {lv : Int} {nm : Key} {x y : EV} (hn : nmB nm = true) (hx : XI lv x) (hy : XG lv 1 y) : SG lv (stP 3 nm [] [] 0 [x, y] [] []) := by
 obtain ⟨X, rfl, f, h32, g⟩ := hx;obtain ⟨Y, rfl, f2, g2⟩ := hy.one;have hf : (ST.mk 3 nm [] [] 0 [X, Y] [] []).fm = true := fm_st (fmS_mk (by decide) hn rfl rfl rfl (.inl rfl) (.inl rfl) (.inl rfl)) (two_x f f2) no_st no_st;refine ⟨_, st_pv .., hf, ?_⟩;rw [sv_3 (ST.parts hf)];simp only [lvl_app, lvl_tkn, nt_app, nt_tkn, lvl_inn (ev_all X f).nt, nt_inn (ev_all X f).nt, Int.add_zero, Int.zero_add, true_and, and_true];exact ⟨⟨h32, g⟩, g2⟩
theorem s_if {lv : Int} {x : EV} {l m : List EV} (hx : XG lv 1 x) (hl : BI lv l) (hm : m = [] ∨ BI lv m) : SG lv (stP 4 [] [] [] 0 [x] l m) := by
 obtain ⟨X, rfl, f, g⟩ := hx.one;obtain ⟨⟨L, rfl, hL⟩, h32⟩ := hl
 have hM : ∃ M : List ST, M.map ST.pv = m ∧ ∀ X ∈ M, X.fm = true ∧ lvl (lv + 1) X.evs := by
  rcases hm with rfl | ⟨h, _⟩
  ·exact ⟨[], rfl, fun X h => (by cases h)⟩
  ·exact h
 obtain ⟨M, rfl, hM⟩ := hM;have hf : (ST.mk 4 [] [] [] 0 [X] L M).fm = true := fm_st (fmS_mk (by decide) rfl rfl rfl rfl (.inl rfl) (.inr (by decide)) (.inr (by decide))) (one_x f) (fun Y hY => (hL Y hY).1) (fun Y hY => (hM Y hY).1);refine ⟨_, st_pv .., hf, ?_⟩;rw [sv_4 (ST.parts hf)];have B := blk_ok (l := L) fun Y hY => sv_all Y (hL Y hY).1;simp only [lvl_app, lvl_tkn, nt_app, nt_tkn, (ev_all X f).nt, B.1, Int.add_zero, Int.zero_add, true_and];refine ⟨g, lvl_blk hL h32, ?_⟩;rcases else_cases M (blockV (M.map ST.evs)) with ⟨_, e⟩ | ⟨_, e⟩
 ·rw [e]; trivial
 ·rw [e, lvl_app, nt_tkn, Int.add_zero];exact ⟨trivial, lvl_blk hM h32⟩
theorem s_while {lv : Int} {x : EV} {l : List EV} (hx : XG lv 1 x) (hl : BI lv l) : SG lv (stP 5 [] [] [] 0 [x] l []) := by
 obtain ⟨X, rfl, f, g⟩ := hx.one;obtain ⟨⟨L, rfl, hL⟩, h32⟩ := hl;have hf : (ST.mk 5 [] [] [] 0 [X] L []).fm = true := fm_st (fmS_mk (by decide) rfl rfl rfl rfl (.inl rfl) (.inr (by decide)) (.inl rfl)) (one_x f) (fun Y hY => (hL Y hY).1) no_st;refine ⟨_, st_pv .., hf, ?_⟩;rw [sv_5 (ST.parts hf)];have B := blk_ok (l := L) fun Y hY => sv_all Y (hL Y hY).1;simp only [lvl_app, lvl_tkn, nt_app, nt_tkn, (ev_all X f).nt, B.1, Int.add_zero, Int.zero_add, true_and];exact ⟨g, lvl_blk hL h32, trivial⟩
theorem s_one {lv k : Int} {x : EV} (hk : k = 6 ∨ k = 7 ∨ k = 9) (hx : XG lv 1 x) : SG lv (stP k [] [] [] 0 [x] [] []) := by
 obtain ⟨X, rfl, f, g⟩ := hx.one
 have hf : (ST.mk k [] [] [] 0 [X] [] []).fm = true := by
  rcases hk with rfl | rfl | rfl <;> exact fm_st (fmS_mk (by decide) rfl rfl rfl rfl (.inl rfl) (.inl rfl) (.inl rfl)) (one_x f) no_st no_st
 refine ⟨_, st_pv .., hf, ?_⟩;rw [sv_one (ST.parts hf) hk];simp only [lvl_app, lvl_tkn, nt_app, nt_tkn, Int.add_zero, Int.zero_add, true_and, and_true];exact g
theorem s_pay {lv : Int} {x y : EV} (hx : XG lv 1 x) (hy : XG lv 1 y) : SG lv (stP 8 [] [] [] 0 [x, y] [] []) := by
 obtain ⟨X, rfl, f, g⟩ := hx.one;obtain ⟨Y, rfl, f2, g2⟩ := hy.one;have hf : (ST.mk 8 [] [] [] 0 [X, Y] [] []).fm = true := fm_st (fmS_mk (by decide) rfl rfl rfl rfl (.inl rfl) (.inl rfl) (.inl rfl)) (two_x f f2) no_st no_st;refine ⟨_, st_pv .., hf, ?_⟩;rw [sv_8 (ST.parts hf)];simp only [lvl_app, lvl_tkn, nt_app, nt_tkn, (ev_all X f).nt, Int.add_zero, Int.zero_add, true_and, and_true];exact ⟨g, g2⟩
theorem s_ask {lv : Int} {nm al ca : Key} {x y z : EV} {l : List EV} (h1 : nmB nm = true) (h2 : nmB al = true) (h3 : nmB ca = true) (hx : XG lv 1 x) (hl : AI lv l) (hy : XG lv 1 y) (hz : XG lv 1 z) : SG lv (stP 10 nm al ca 0 (x :: y :: z :: l) [] []) := by
 obtain ⟨X, rfl, f, g⟩ := hx.one;obtain ⟨Y, rfl, f2, g2⟩ := hy.one;obtain ⟨Z, rfl, f3, g3⟩ := hz.one;obtain ⟨⟨L, rfl, q1, q2⟩, h32⟩ := hl
 have hn : ((X :: Y :: Z :: L).length : Int) = (wantsI 10).2.2.1 ∨ (10 : Int) = 10 ∧ (wantsI 10).2.2.1 < ((X :: Y :: Z :: L).length : Int) := by
  rw [show (wantsI 10).2.2.1 = 3 from rfl];have : (X :: Y :: Z :: L).length = L.length + 3 := rfl;omega
 have hf : (ST.mk 10 nm al ca 0 (X :: Y :: Z :: L) [] []).fm = true := fm_st (fmS_mk (by decide) h1 h2 h3 rfl hn (.inl rfl) (.inl rfl)) (fun W hW => by
  rcases List.mem_cons.1 hW with rfl | hW
  ·exact f
  rcases List.mem_cons.1 hW with rfl | hW
  ·exact f2
  rcases List.mem_cons.1 hW with rfl | hW
  ·exact f3
  ·exact (q1 W hW).1) no_st no_st
 refine ⟨_, st_pv .., hf, ?_⟩;rw [sv_10 (ST.parts hf)];simp only [lvl_app, lvl_tkn, nt_app, nt_tkn, (ev_all X f).nt, (ev_all Y f2).nt, (ev_all Z f3).nt, (args_ok (fms_all2 fun W hW => (q1 W hW).1)).1, Int.add_zero, Int.zero_add, true_and, and_true];exact ⟨g, AG.lvl q1 q2 h32, g2, g3⟩
theorem semi_pc {lv : Int} {x : EV} (h : SG lv x) : Pc lv lv (SG lv) (semiT x) := Pc.bd (Pc.take _) fun _ _ => Pc.pr h
theorem x1_pc (n : Nat) {lv : Int} (h0 : 0 ≤ lv) : Pc lv lv (XG lv 1) (exprT n 1) := (expr_pc n lv h0).1 1 (by decide) (by decide)
theorem give_pc (n : Nat) {lv : Int} (h0 : 0 ≤ lv) {f : EV → EV} (h : ∀ x, XG lv 1 x → SG lv (f x)) : Pc lv lv (SG lv) (giveT n f) := Pc.bd (Pc.take _) fun _ _ => Pc.bd (x1_pc n h0) fun x hx => semi_pc (h x hx)
theorem gift_pc (n : Nat) {lv : Int} (h0 : 0 ≤ lv) : Pc lv lv (SG lv) (gift n) := Pc.bd Pc.name fun s hs => Pc.bd (Pc.is _) fun c _ => Pc.iT (Pc.bd ((expr_pc n lv h0).2.2.2.1 _ _) fun y hy => give_pc n h0 fun x hx => s_put hs hy hx) (give_pc n h0 fun x hx => s_set hs hx)
theorem let_pc (n : Nat) {lv : Int} (h0 : 0 ≤ lv) : Pc lv lv (SG lv) (letM n) := Pc.bd Pc.name fun s hs => Pc.bd (Pc.take _) fun _ _ => Pc.bd Pc.kind fun k hk => give_pc n h0 fun x hx => s_let hs hk hx
theorem ask_pc (n : Nat) {lv : Int} (h0 : 0 ≤ lv) : Pc lv lv (SG lv) (askM n) := Pc.bd Pc.name fun s hs => Pc.bd (Pc.take _) fun _ _ => Pc.bd Pc.name fun t ht => Pc.bd (Pc.take _) fun _ _ => Pc.bd (x1_pc n h0) fun x hx => Pc.bd (Pc.take _) fun _ _ => Pc.bd Pc.name fun u hu => Pc.bd (expr_pc n lv h0).2.2.2.2.2.2.1 fun l hl => Pc.bd (Pc.take _) fun _ _ => Pc.bd (x1_pc n h0) fun y hy => Pc.bd (Pc.take _) fun _ _ => Pc.bd (x1_pc n h0) fun z hz => semi_pc (s_ask hs ht hu hx hl hy hz)
theorem pay_pc (n : Nat) {lv : Int} (h0 : 0 ≤ lv) : Pc lv lv (SG lv) (payM n) := Pc.bd (x1_pc n h0) fun x hx => Pc.bd (Pc.take _) fun _ _ => Pc.bd (x1_pc n h0) fun y hy => semi_pc (s_pay hx hy)
theorem one_pc (n : Nat) {lv k : Int} (h0 : 0 ≤ lv) (hk : k = 6 ∨ k = 7 ∨ k = 9) : Pc lv lv (SG lv) (oneM n k) := Pc.bd (x1_pc n h0) fun x hx => semi_pc (s_one hk hx)
theorem step_pc : ∀ (n : Nat) (lv : Int), 0 ≤ lv → Pc lv lv (SG lv) (stepM n) ∧ Pc lv lv (SG lv) (wordM n) ∧ Pc lv lv (SG lv) (ifM n) ∧ Pc lv lv (SG lv) (whileM n) ∧ Pc lv lv (BI lv) (blockM n) ∧ ∀ l, BG lv l → Pc lv lv (BG lv) (stepsM n l) := by
 intro n
 induction n with
 | zero => exact fun lv _ => ⟨Pc.fl, Pc.fl, Pc.fl, Pc.fl, Pc.fl, fun _ _ => Pc.fl⟩
 | succ n ih =>
  intro lv h0;obtain ⟨h1, h2, h3, h4, h5, h6⟩ := ih lv h0;obtain ⟨_, _, _, _, _, u6⟩ := ih (lv + 1) (by omega);refine ⟨?_, ?_, ?_, ?_, ?_, fun l hl => ?_⟩
  ·refine Pc.at fun σ sn => ?_;rw [stepM]
   cases h : σ.now with
   | name s => exact ⟨_, gift_pc n h0, by simp only [h]⟩
   | num m => exact ⟨_, h2, by simp only [h]⟩
   | none => exact ⟨_, h2, by simp only [h]⟩
   | fin => exact ⟨_, h2, by simp only [h]⟩
   | fixed s => exact ⟨_, h2, by simp only [h]⟩
  ·rw [wordM];refine Pc.bd (Pc.pick _) fun k hk => Pc.it (fun _ => Pc.wr) fun q0 => Pc.bd Pc.next fun _ _ => Pc.it (fun _ => h3) fun a => Pc.it (fun _ => h4) fun b => Pc.it (fun _ => let_pc n h0) fun c => Pc.it (fun _ => ask_pc n h0) fun d => Pc.it (fun _ => pay_pc n h0) fun e => one_pc n h0 ?_;obtain ⟨s, hs, hne⟩ := hk q0;have : ∀ p ∈ stepW, p.2 ≠ [] → (p.1 = 4 ∨ p.1 = 5 ∨ p.1 = 1 ∨ p.1 = 10 ∨ p.1 = 8 ∨ p.1 = 6 ∨ p.1 = 7 ∨ p.1 = 9) := by decide
   have := this _ hs hne;simp only at this;omega
  ·rw [ifM];exact Pc.bd (x1_pc n h0) fun x hx => Pc.bd h5 fun l hl => Pc.bd (Pc.is _) fun c _ => Pc.iT (Pc.bd (Pc.take _) fun _ _ => Pc.bd h5 fun m hm => Pc.pr (s_if hx hl (.inr hm))) (Pc.pr (s_if hx hl (.inl rfl)))
  ·rw [whileM];exact Pc.bd (x1_pc n h0) fun x hx => Pc.bd h5 fun l hl => Pc.pr (s_while hx hl)
  ·rw [blockM];exact Pc.bd (Pc.open _) fun _ h32 => Pc.bd (u6 [] (BG.nil _)) fun l hl => Pc.bd (Pc.shut h0 _) fun _ _ => Pc.pr ⟨hl, h32⟩
  ·rw [stepsM];exact Pc.bd (Pc.is _) fun c _ => Pc.iT (Pc.pr hl) (Pc.bd h1 fun s hs => h6 _ (hl.app hs))
end Go.Proofs.YtpofgnlkhkednaaGreatDoor
