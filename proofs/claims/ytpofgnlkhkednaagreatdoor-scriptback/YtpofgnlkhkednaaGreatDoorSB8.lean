import Derived.Test.YtpofgnlkhkednaaGreatDoorSB7
import Derived.Test.YtpofgnlkhkednaaGreatDoorM44
namespace Go.Proofs.YtpofgnlkhkednaaGreatDoor
open Go.RowKit
set_option linter.unusedVariables false
set_option linter.unusedSimpArgs false
set_option maxRecDepth 20000
set_option maxHeartbeats 8000000
theorem no_bind {α : Type} {s : Key} {F G : Nat → PM α} {ts : List Key} {lv : Int} {x : α} {S' : ES} (h : (stOf ts lv).now ≠ .fixed s) (g : Rv G (.ok (stOf ts lv)) x S') : Rv (fun n => bnd (isT s) fun c => ifT c (F n) (G n)) (.ok (stOf ts lv)) x S' := (rd_no h).bind g
theorem yes_bind {α : Type} {s : Key} {F G : Nat → PM α} {ts : List Key} {lv : Int} {x : α} {S' : ES} (h : tkOf s = .fixed s) (g : Rv F (.ok (stOf (s :: ts) lv)) x S') : Rv (fun n => bnd (isT s) fun c => ifT c (F n) (G n)) (.ok (stOf (s :: ts) lv)) x S' := (rd_yes h).bind g
theorem param_ev {p : Key × Int} (h : paF p = true) : paramV p = tkn p.1 ++ tkn [58] ++ tkn (kindK p.2) ∧ nmB p.1 = true ∧ 1 ≤ p.2 ∧ p.2 ≤ 3 := by
 unfold paF at h;rw [Bool.and_eq_true, decide_eq_true_eq] at h;exact ⟨by rw [paramV, name_fm h.1, kind_fm h.2], h.1, h.2⟩
theorem param_rd {p : Key × Int} (h : paF p = true) {k : List Key} {lv : Int} (hk : Gs k) : Rv (fun _ => paramT) (.ok (stOf (etk (paramV p) ++ k) lv)) p (.ok (stOf k lv)) := by
 obtain ⟨e, h1, h2⟩ := param_ev h;rw [e];have g1 : Gs (kindK p.2 :: k) := Gs.cons (gKd h2) hk;have g2 := Gs.cons g58 g1;exact (rd_name h1 g2).bind ((rd_take (by decide) g1).bind ((kind_rd h2 hk).bind (rv_pur _ _)))
theorem param_ok {p : Key × Int} (h : paF p = true) : nt (paramV p) = 0 ∧ Gs (etk (paramV p)) ∧ ∃ s r, etk (paramV p) = s :: r ∧ nmB s = true := by
 obtain ⟨e, h1, h2⟩ := param_ev h;rw [e];exact ⟨rfl, Gs.cons (gNm h1) (Gs.cons g58 (Gs.cons (gKd h2) Gs.nil)), _, _, rfl, h1⟩
theorem pars_rd {k : List Key} {lv : Int} (hk : Gs k) : ∀ (l : List (Key × Int)) (acc : List EV), (∀ p ∈ l, paF p = true) → acc.length + l.length ≤ 8 → Rd (fun n => parsM n acc) (etk (tailV (l.map paramV)) ++ [41] :: k) lv (acc ++ l.map paP) ([41] :: k)
 | [], acc, _, _ => by
  refine Rv.succ (rv_to (F' := fun n => bnd (isT [44]) fun c => ifT c (bnd (roomT acc.length 8) fun _ => bnd (takeT [44]) fun _ => bnd paramT fun p => parsM n (acc ++ [paP p])) (pur acc)) (fun n => by rw [parsM]) ?_);have e : acc ++ ([] : List (Key × Int)).map paP = acc := by simp
  rw [e];exact (rd_no (now_ne (by decide))).bind (rv_pur _ _)
 | p :: l, acc, H, hn => by
  have hp := H p (by simp);have Hl := fun d hd => H d (List.mem_cons_of_mem p hd);rw [List.length_cons] at hn;have e : tailV ((p :: l).map paramV) = tkn [44] ++ paramV p ++ tailV (l.map paramV) := by simp [tailV]
  have ht : etk (tailV ((p :: l).map paramV)) ++ [41] :: k = [44] :: (etk (paramV p) ++ (etk (tailV (l.map paramV)) ++ [41] :: k)) := by
   rw [e, etk_app, etk_app, etk_tkn]; simp
  rw [ht]
  have g2 : Gs (etk (tailV (l.map paramV)) ++ [41] :: k) := (gs_tail _ fun b hb => by
   obtain ⟨z, hz, rfl⟩ := List.mem_map.1 hb
   exact (param_ok (Hl z hz)).2.1).app (Gs.cons g41 hk)
  have ih := pars_rd (lv := lv) hk l (acc ++ [paP p]) Hl (by simp; omega);have e3 : acc ++ (p :: l).map paP = acc ++ [paP p] ++ l.map paP := by simp
  rw [e3];refine Rv.succ (rv_to (F' := fun n => bnd (isT [44]) fun c => ifT c (bnd (roomT acc.length 8) fun _ => bnd (takeT [44]) fun _ => bnd paramT fun p => parsM n (acc ++ [paP p])) (pur acc)) (fun n => by rw [parsM]) ?_);exact (rd_yes (by decide)).bind ((rd_room (by omega)).bind ((rd_take (by decide) ((param_ok hp).2.1.app g2)).bind ((param_rd hp g2).bind ih)))
theorem params_rd {k : List Key} {lv : Int} (hk : Gs k) (l : List (Key × Int)) (H : ∀ p ∈ l, paF p = true) (hn : l.length ≤ 8) : Rd (fun n => paramsM n) (etk (sepV (l.map paramV)) ++ [41] :: k) lv (l.map paP) ([41] :: k) := by
 refine rv_to (F' := fun n => bnd (isT [41]) fun c => ifT c (pur []) (bnd paramT fun p => parsM n [paP p])) (fun n => rfl) ?_
 cases l with
 | nil => exact (rd_yes (by decide)).bind (rv_pur _ _)
 | cons p l =>
  have hp := H p (by simp);have Hl := fun d hd => H d (List.mem_cons_of_mem p hd);rw [List.length_cons] at hn
  have g2 : Gs (etk (tailV (l.map paramV)) ++ [41] :: k) := (gs_tail _ fun b hb => by
   obtain ⟨z, hz, rfl⟩ := List.mem_map.1 hb
   exact (param_ok (Hl z hz)).2.1).app (Gs.cons g41 hk)
  have e : etk (sepV ((p :: l).map paramV)) ++ [41] :: k = etk (paramV p) ++ (etk (tailV (l.map paramV)) ++ [41] :: k) := by
   rw [List.map_cons, sep_tail, etk_app, List.append_assoc]
  rw [e]
  have hno : (stOf (etk (paramV p) ++ (etk (tailV (l.map paramV)) ++ [41] :: k)) lv).now ≠ .fixed [41] := by
   obtain ⟨_, _, s, r, q, q1⟩ := param_ok hp;rw [q];exact now_ne (nm_ne q1 (.inr (by decide)))
  exact (rd_no hno).bind ((param_rd hp g2).bind (pars_rd hk l [paP p] Hl (by simp; omega)))
theorem gW {s : Key} (h : s ∈ wordL) : Good s := .inl h
theorem ft_ev {f : FT} (h : f.fm = true) (h8 : ¬ 8 < f.ps.length) : f.evs = (if f.op then tkn kOpen else []) ++ (tkn kFn ++ (tkn f.nm ++ (tkn [40] ++ (sepV (f.ps.map paramV) ++ (tkn [41] ++ (tkn [45, 62] ++ (tkn (kindK f.ty) ++ blockV (f.bs.map ST.evs)))))))) := by
 obtain ⟨h1, h2, h3, h4⟩ := FT.fm_parts h;unfold FT.evs;rw [if_neg h8, name_fm h1, kind_fm h3, ST.all_map];simp only [List.append_assoc, List.nil_append]
theorem pa_all {l : List (Key × Int)} (h : l.all paF = true) : ∀ p ∈ l, paF p = true := List.all_eq_true.1 h
theorem ft_ok {f : FT} (h : f.fm = true) : nt f.evs = 0 ∧ Gs (etk f.evs) ∧ ∃ s r, etk f.evs = s :: r ∧ (s = kOpen ∧ f.op = true ∨ s = kFn ∧ f.op = false) := by
 obtain ⟨h1, h2, h3, h4⟩ := FT.fm_parts h;have B := blk_ok (l := f.bs) fun x hx => sv_all x (ST.fms_in h4 x hx)
 have hb : ∀ b ∈ f.ps.map paramV, nt b = 0 ∧ Gs (etk b) := fun b hb => by
  obtain ⟨z, hz, rfl⟩ := List.mem_map.1 hb;exact ⟨(param_ok (pa_all h2 z hz)).1, (param_ok (pa_all h2 z hz)).2.1⟩
 have e : f.evs = (if f.op then tkn kOpen else []) ++ (tkn kFn ++ (tkn f.nm ++ (tkn [40] ++ ((if 8 < f.ps.length then farV else []) ++ (sepV (f.ps.map paramV) ++ (tkn [41] ++ (tkn [45, 62] ++ (tkn (kindK f.ty) ++ blockV (f.bs.map ST.evs))))))))) := by
  unfold FT.evs;rw [name_fm h1, kind_fm h3, ST.all_map];simp only [List.append_assoc]
 have ef : nt (if 8 < f.ps.length then farV else []) = 0 ∧ etk (if 8 < f.ps.length then farV else []) = [] := by split <;> exact ⟨rfl, rfl⟩
 have eo : nt (if f.op then tkn kOpen else []) = 0 ∧ Gs (etk (if f.op then tkn kOpen else [])) := by
  split
  ·exact ⟨rfl, Gs.cons (gW (by decide)) Gs.nil⟩
  ·exact ⟨rfl, Gs.nil⟩
 rw [e];refine ⟨?_, ?_, ?_⟩
 ·simp only [nt_app, nt_tkn, ef.1, eo.1, B.1, nt_sep _ fun b q => (hb b q).1];rfl
 ·simp only [etk_app, etk_tkn, ef.2, List.nil_append];exact eo.2.app (Gs.cons (gW (by decide)) (Gs.cons (gNm h1) (Gs.cons g40 ((gs_sep _ fun b q => (hb b q).2).app (Gs.cons g41 (Gs.cons g4562 (Gs.cons (gKd h3) B.2)))))))
 ·cases ho : f.op with
  | true => exact ⟨kOpen, _, rfl, .inl ⟨rfl, rfl⟩⟩
  | false => exact ⟨kFn, _, rfl, .inr ⟨rfl, rfl⟩⟩
theorem fn_rd {f : FT} (h : f.fm = true) {k : List Key} {lv : Int} (h0 : 0 ≤ lv) (hk : Gs k) (hl : lvl lv f.evs) : Rd (fun n => fnM n) (etk f.evs ++ k) lv f.pv k := by
 obtain ⟨h1, h2, h3, h4⟩ := FT.fm_parts h
 have h8 : ¬ 8 < f.ps.length := by
  intro q;unfold FT.evs at hl;rw [if_pos q] at hl;simp only [lvl_app, farV, lvl, false_and, and_false] at hl
 have HS : ∀ y ∈ f.bs, Sb y ∧ Sv y := fun y hy => ⟨sb_all y (ST.fms_in h4 y hy), sv_all y (ST.fms_in h4 y hy)⟩;have B := blk_ok (l := f.bs) fun x hx => (HS x hx).2
 have hb : ∀ b ∈ f.ps.map paramV, nt b = 0 ∧ Gs (etk b) := fun b hb => by
  obtain ⟨z, hz, rfl⟩ := List.mem_map.1 hb;exact ⟨(param_ok (pa_all h2 z hz)).1, (param_ok (pa_all h2 z hz)).2.1⟩
 have hbl : lvl lv (blockV (f.bs.map ST.evs)) := by
  rw [ft_ev h h8] at hl;have eo : nt (if f.op then tkn kOpen else []) = 0 := by split <;> rfl
  simp only [lvl_app, nt_tkn, eo, nt_sep _ fun b q => (hb b q).1, Int.add_zero] at hl;exact hl.2.2.2.2.2.2.2.2
 rw [ft_ev h h8];have g1 := B.2.app hk;have g2 := Gs.cons (gKd h3) g1;have g3 := Gs.cons g4562 g2;have g4 := Gs.cons g41 g3;have g5 := (gs_sep _ fun b q => (hb b q).2).app g4;have g6 := Gs.cons g40 g5;have g7 := Gs.cons (gNm h1) g6;have g8 : Gs (kFn :: _) := Gs.cons (gW (by decide)) g7;have ep : f.pv = fnP f.nm f.op (f.ps.map paP) f.ty (f.bs.map ST.pv) := by rw [FT.pv, ST.pvs_map]
 rw [ep]
 have et : etk ((if f.op then tkn kOpen else []) ++ (tkn kFn ++ (tkn f.nm ++ (tkn [40] ++ (sepV (f.ps.map paramV) ++ (tkn [41] ++ (tkn [45, 62] ++ (tkn (kindK f.ty) ++ blockV (f.bs.map ST.evs))))))))) ++ k = etk (if f.op then tkn kOpen else []) ++ (kFn :: f.nm :: [40] :: (etk (sepV (f.ps.map paramV)) ++ ([41] :: [45, 62] :: kindK f.ty :: (etk (blockV (f.bs.map ST.evs)) ++ k)))) := by
  simp only [etk_app, etk_tkn, List.cons_append, List.nil_append, List.append_assoc]
 rw [et];have rest := fun (o : Bool) => (rd_take (s := kFn) (lv := lv) (by decide) g7).bind (G := fun n _ => bnd nameT fun s => bnd (takeT [40]) fun _ => bnd (paramsM n) fun l => bnd (takeT [41]) fun _ => bnd (takeT [45, 62]) fun _ => bnd kindT fun k => bnd (blockM n) fun b => pur (fnP s o l k b)) ((rd_name h1 g6).bind ((rd_take (by decide) g5).bind (Rv.bind (params_rd g3 f.ps (pa_all h2) (by omega)) ((rd_take (by decide) g3).bind ((rd_take (by decide) g2).bind ((kind_rd h3 g1).bind (Rv.bind (block_rd h0 hk f.bs HS hbl) (rv_pur _ _))))))));refine rv_to (F' := fun n => bnd (isT kOpen) fun o => bnd (ifT o (takeT kOpen) (pur ())) fun _ => bnd (takeT kFn) fun _ => bnd nameT fun s => bnd (takeT [40]) fun _ => bnd (paramsM n) fun l => bnd (takeT [41]) fun _ => bnd (takeT [45, 62]) fun _ => bnd kindT fun k => bnd (blockM n) fun b => pur (fnP s o l k b)) (fun n => rfl) ?_
 cases ho : f.op with
 | true => exact (rd_yes (by decide)).bind ((rd_take (by decide) g8).bind (rest true))
 | false => exact (rd_no (now_ne (by decide))).bind ((rv_pur () _).bind (rest false))
theorem table_ev {t : Key × Int × Int} (h : taF t = true) : nameV t.1 = tkn t.1 ∧ kindV t.2.1 = tkn (kindK t.2.1) ∧ kindV t.2.2 = tkn (kindK t.2.2) ∧ nmB t.1 = true ∧ (1 ≤ t.2.1 ∧ t.2.1 ≤ 3) ∧ (1 ≤ t.2.2 ∧ t.2.2 ≤ 3) := by
 unfold taF at h;simp only [Bool.and_eq_true, decide_eq_true_eq] at h;exact ⟨name_fm h.1.1, kind_fm h.1.2, kind_fm h.2, h.1.1, h.1.2, h.2⟩
def slotV (p : Key × Int) : List PEv := tkn kSlot ++ paramV p ++ tkn [59]
def mapV (t : Key × Int × Int) : List PEv := tkn kMap ++ nameV t.1 ++ tkn [58] ++ kindV t.2.1 ++ tkn [45, 62] ++ kindV t.2.2 ++ tkn [59]
theorem mapV_tk {t : Key × Int × Int} (h : taF t = true) : etk (mapV t) = [kMap, t.1, [58], kindK t.2.1, [45, 62], kindK t.2.2, [59]] ∧ nt (mapV t) = 0 := by
 obtain ⟨a, b, c, _⟩ := table_ev h;unfold mapV;rw [a, b, c];exact ⟨rfl, rfl⟩
theorem table_rd {t : Key × Int × Int} (h : taF t = true) {k : List Key} {lv : Int} (hk : Gs k) : Rv (fun _ => tableT) (.ok (stOf (etk (mapV t) ++ k) lv)) (tbV t) (.ok (stOf k lv)) := by
 obtain ⟨_, _, _, h1, h2, h3⟩ := table_ev h;rw [(mapV_tk h).1];have g1 : Gs ([59] :: k) := Gs.cons g59 hk;have g2 := Gs.cons (gKd h3) g1;have g3 := Gs.cons g4562 g2;have g4 := Gs.cons (gKd h2) g3;have g5 := Gs.cons g58 g4;have g6 := Gs.cons (gNm h1) g5;exact (rd_take (by decide) g6).bind ((rd_name h1 g5).bind ((rd_take (by decide) g4).bind ((kind_rd h2 g3).bind ((rd_take (by decide) g2).bind ((kind_rd h3 g1).bind ((rd_take (by decide) hk).bind (rv_pur _ _)))))))
theorem item_step {c c' : CT} {s : Key} {r k : List Key} {lv : Int} (hs : s ≠ [125]) (h : Rv (fun n => itemM n c) (.ok (stOf (s :: r) lv)) c' (.ok (stOf k lv))) : Kn (fun n => itemsM n c) (.ok (stOf (s :: r) lv)) (fun n => itemsM n c') (.ok (stOf k lv)) := fun y S' g =>
 Rv.succ (rv_to (F' := fun n => bnd (isT [125]) fun e => ifT e (pur c) (bnd (itemM n c) fun c => itemsM n c)) (fun n => by rw [itemsM]) ((rd_no (now_ne hs)).bind (h.bind g)))
theorem kn_trans {α : Type} {F G H : Nat → PM α} {S S1 S2 : ES} (h : Kn F S G S1) (g : Kn G S1 H S2) : Kn F S H S2 := fun y S' q => h y S' (g y S' q)
theorem slots_kn {t f : List EV} {k : List Key} {lv : Int} (hk : Gs k) : ∀ (l : List (Key × Int)) (a : List EV), (∀ p ∈ l, paF p = true) → a.length + l.length + t.length ≤ 32 → Kn (fun n => itemsM n (a, t, f)) (.ok (stOf (etk (l.map slotV).flatten ++ k) lv)) (fun n => itemsM n (a ++ l.map paP, t, f)) (.ok (stOf k lv))
 | [], a, _, _ => by
  have e : a ++ ([] : List (Key × Int)).map paP = a := by simp
  rw [e];exact Kn.here
 | p :: l, a, H, hn => by
  have hp := H p (by simp);have Hl := fun d hd => H d (List.mem_cons_of_mem p hd);rw [List.length_cons] at hn
  have gl : Gs (etk (l.map slotV).flatten ++ k) := (gs_flat _ fun b hb => by
   obtain ⟨z, hz, rfl⟩ := List.mem_map.1 hb;unfold slotV;rw [etk_app, etk_app]
   exact ((Gs.cons (gW (by decide)) Gs.nil).app (param_ok (Hl z hz)).2.1).app (Gs.cons g59 Gs.nil)).app hk
  have e : etk ((p :: l).map slotV).flatten ++ k = kSlot :: (etk (paramV p) ++ [59] :: (etk (l.map slotV).flatten ++ k)) := by
   simp [slotV, etk_app, etk_tkn]
  have e3 : a ++ (p :: l).map paP = a ++ [paP p] ++ l.map paP := by simp
  rw [e, e3];refine kn_trans (item_step (by decide) ?_) (slots_kn hk l (a ++ [paP p]) Hl (by simp; omega));have g1 : Gs ([59] :: (etk (l.map slotV).flatten ++ k)) := Gs.cons g59 gl;refine rv_to (F' := fun n => bnd (isT kSlot) fun c => ifT c (bnd (roomT ((a.length : Int) + (t.length : Int)) 32) fun _ => bnd (takeT kSlot) fun _ => bnd paramT fun p => bnd (takeT [59]) fun _ => pur (a ++ [paP p], t, f)) _) (fun n => rfl) ?_;exact yes_bind (by decide) ((rd_room (by omega)).bind ((rd_take (by decide) ((param_ok hp).2.1.app g1)).bind ((param_rd hp g1).bind ((rd_take (by decide) gl).bind (rv_pur _ _)))))
theorem maps_kn {a f : List EV} {k : List Key} {lv : Int} (hk : Gs k) : ∀ (l : List (Key × Int × Int)) (t : List EV), (∀ p ∈ l, taF p = true) → a.length + (t.length + l.length) ≤ 32 → Kn (fun n => itemsM n (a, t, f)) (.ok (stOf (etk (l.map mapV).flatten ++ k) lv)) (fun n => itemsM n (a, t ++ l.map tbV, f)) (.ok (stOf k lv))
 | [], t, _, _ => by
  have e : t ++ ([] : List (Key × Int × Int)).map tbV = t := by simp
  rw [e];exact Kn.here
 | p :: l, t, H, hn => by
  have hp := H p (by simp);have Hl := fun d hd => H d (List.mem_cons_of_mem p hd);rw [List.length_cons] at hn
  have gm : ∀ {z}, taF z = true → Gs (etk (mapV z)) := fun q => by
   obtain ⟨_, _, _, q1, q2, q3⟩ := table_ev q;rw [(mapV_tk q).1];exact Gs.cons (gW (by decide)) (Gs.cons (gNm q1) (Gs.cons g58 (Gs.cons (gKd q2) (Gs.cons g4562 (Gs.cons (gKd q3) (Gs.cons g59 Gs.nil))))))
  have gl : Gs (etk (l.map mapV).flatten ++ k) := (gs_flat _ fun b hb => by
   obtain ⟨z, hz, rfl⟩ := List.mem_map.1 hb
   exact gm (Hl z hz)).app hk
  have e : etk ((p :: l).map mapV).flatten ++ k = etk (mapV p) ++ (etk (l.map mapV).flatten ++ k) := by simp [etk_app]
  have e3 : t ++ (p :: l).map tbV = t ++ [tbV p] ++ l.map tbV := by simp
  rw [e, e3];refine kn_trans ?_ (maps_kn hk l (t ++ [tbV p]) Hl (by simp; omega));have ht := table_rd (lv := lv) hp gl;rw [(mapV_tk hp).1] at ht ⊢;refine item_step (by decide) ?_;refine rv_to (F' := fun n => bnd (isT kSlot) fun c => ifT c (bnd (roomT ((a.length : Int) + (t.length : Int)) 32) fun _ => bnd (takeT kSlot) fun _ => bnd paramT fun p => bnd (takeT [59]) fun _ => pur (a ++ [paP p], t, f)) (bnd (isT kMap) fun c => ifT c (bnd (roomT ((a.length : Int) + (t.length : Int)) 32) fun _ => bnd tableT fun u => pur (a, t ++ [u], f)) _)) (fun n => rfl) ?_;exact no_bind (now_ne (by decide)) (yes_bind (by decide) ((rd_room (by omega)).bind (ht.bind (rv_pur _ _))))
theorem fns_kn {a t : List EV} {k : List Key} {lv : Int} (h0 : 0 ≤ lv) (hk : Gs k) : ∀ (l : List FT) (f : List EV), (∀ p ∈ l, p.fm = true) → f.length + l.length ≤ 32 → lvl lv (l.map FT.evs).flatten → Kn (fun n => itemsM n (a, t, f)) (.ok (stOf (etk (l.map FT.evs).flatten ++ k) lv)) (fun n => itemsM n (a, t, f ++ l.map FT.pv)) (.ok (stOf k lv))
 | [], f, _, _, _ => by
  have e : f ++ ([] : List FT).map FT.pv = f := by simp
  rw [e];exact Kn.here
 | p :: l, f, H, hn, hl => by
  have hp := H p (by simp);have Hl := fun d hd => H d (List.mem_cons_of_mem p hd);rw [List.length_cons] at hn;obtain ⟨n1, n2, s, r, n3, n4⟩ := ft_ok hp;rw [List.map_cons, List.flatten_cons, lvl_app, n1, Int.add_zero] at hl
  have gl : Gs (etk (l.map FT.evs).flatten ++ k) := (gs_flat _ fun b hb => by
   obtain ⟨z, hz, rfl⟩ := List.mem_map.1 hb
   exact (ft_ok (Hl z hz)).2.1).app hk
  have e : etk ((p :: l).map FT.evs).flatten ++ k = etk p.evs ++ (etk (l.map FT.evs).flatten ++ k) := by simp [etk_app]
  have e3 : f ++ (p :: l).map FT.pv = f ++ [p.pv] ++ l.map FT.pv := by simp
  rw [e, e3];refine kn_trans ?_ (fns_kn h0 hk l (f ++ [p.pv]) Hl (by simp; omega) hl.2);have hF := fn_rd hp h0 gl hl.1;rw [n3] at hF ⊢;have F1 : ∀ n, itemM n (a, t, f) = bnd (isT kSlot) fun c => ifT c (bnd (roomT ((a.length : Int) + (t.length : Int)) 32) fun _ => bnd (takeT kSlot) fun _ => bnd paramT fun p => bnd (takeT [59]) fun _ => pur (a ++ [paP p], t, f)) (bnd (isT kMap) fun c => ifT c (bnd (roomT ((a.length : Int) + (t.length : Int)) 32) fun _ => bnd tableT fun u => pur (a, t ++ [u], f)) (bnd (isT kFn) fun c => ifT c (bnd (roomT (f.length : Int) 32) fun _ => bnd (fnM n) fun g => pur (a, t, f ++ [g])) (bnd (isT kOpen) fun c => ifT c (bnd (roomT (f.length : Int) 32) fun _ => bnd (fnM n) fun g => pur (a, t, f ++ [g])) wrongT))) := fun n => rfl;rcases n4 with ⟨rfl, _⟩ | ⟨rfl, _⟩
  ·refine item_step (by decide) (rv_to F1 ?_);exact no_bind (now_ne (by decide)) (no_bind (now_ne (by decide)) (no_bind (now_ne (by decide)) (yes_bind (by decide) ((rd_room (by omega)).bind (Rv.bind hF (rv_pur _ _))))))
  ·refine item_step (by decide) (rv_to F1 ?_);exact no_bind (now_ne (by decide)) (no_bind (now_ne (by decide)) (yes_bind (by decide) ((rd_room (by omega)).bind (Rv.bind hF (rv_pur _ _)))))
end Go.Proofs.YtpofgnlkhkednaaGreatDoor
