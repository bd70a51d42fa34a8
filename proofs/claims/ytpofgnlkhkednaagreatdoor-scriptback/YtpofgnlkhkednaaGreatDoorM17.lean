import Derived.Test.YtpofgnlkhkednaaGreatDoorM16
namespace Go.Proofs.YtpofgnlkhkednaaGreatDoor
open Go.RowKit
set_option linter.unusedVariables false
set_option linter.unusedSimpArgs false
set_option maxRecDepth 20000
set_option maxHeartbeats 8000000
def Xb (x : XT) : Prop := ∀ (lv : Int) (k : List Key) (r : Int), 0 ≤ lv → lvl lv x.evs → Gs k → 1 ≤ r → r ≤ holdI x.op →
 (stop r k → Rd (fun n => exprT n r) (etk x.evs ++ k) lv x.pv k) ∧
 (holdI x.op = r → isTwo x.op = true → r ≠ 4 → stop (r + 1) k → Kn (fun n => exprT n r) (.ok (stOf (etk x.evs ++ k) lv)) (fun n => loopT n r x.pv) (.ok (stOf k lv)))
theorem inn_rd {y : XT} (H : Xb y) (E : Ev y) {o c : Key} {k : List Key} {lv : Int} (h0 : 0 ≤ lv) (ho : tkOf o = .fixed o) (hc : tkOf c = .fixed c) (hs : stop 1 (c :: k)) (hg : Good c) (hk : Gs k) (hl : lvl lv (innV o y.evs c)) : Rd (fun n => innerT n o c) (etk (innV o y.evs c) ++ k) lv y.pv k := by
 rw [lvl_inn E.nt] at hl;obtain ⟨h32, hl⟩ := hl;rw [etk_inn];have e : o :: (etk y.evs ++ [c]) ++ k = o :: (etk y.evs ++ (c :: k)) := by simp
 rw [e];have hck : Gs (c :: k) := Gs.cons hg hk;refine Rv.succ (rv_to (F' := fun n => bnd (openT o) fun _ => bnd (exprT n 1) fun x => bnd (shutT c) fun _ => pur x) (fun n => by rw [innerT]) ?_);exact (rd_open ho (E.gs.app hck) h0 h32).bind (((H (lv + 1) (c :: k) 1 (by omega) hl hck (by decide) (hold_rng _).1).1 hs).bind ((rd_shut hc hk h0 h32).bind (rv_pur _ _)))
theorem rd_atom {ts k : List Key} {lv : Int} {x : EV} (h : Rd (fun n => atomT n) ts lv x k) : Rd (fun n => exprT n 7) ts lv x k :=
 Rv.succ (rv_to (F' := fun n => atomT n) (fun n => by rw [exprT, if_pos rfl]) h)
theorem rd_word {s : Key} {ts k : List Key} {lv : Int} {x : EV} (hs : tkOf s = .fixed s) (h : Rd (fun n => wordT n) (s :: ts) lv x k) : Rd (fun n => exprT n 7) (s :: ts) lv x k :=
 rd_atom (Rv.succ (rv_at (F' := fun n => wordT n) (fun n => by
  have e : (stOf (s :: ts) lv).now = .fixed s := hs;rw [atomT]
  simp only [e]) h))
theorem rd_paren {ts k : List Key} {lv : Int} {x : EV} (h : Rd (fun n => innerT n [40] [41]) ([40] :: ts) lv x k) : Rd (fun n => exprT n 7) ([40] :: ts) lv x k := by
 refine rd_word (by decide) (Rv.succ (rv_to (F' := fun n => bnd (isT [40]) fun c => if c then innerT n [40] [41] else bnd (isT kTrue) fun c => if c then bnd (takeT kTrue) fun _ => pur (exP 2 1 [] []) else bnd (isT kFalse) fun c => if c then bnd (takeT kFalse) fun _ => pur (exP 2 0 [] [])
   else bnd (pickT (operW 7)) fun op => if op = 0 then wrongT else bnd nextT fun _ => if formI op = 1 then bnd (innerT n [40] [41]) fun y => pur (exP op 0 [] [y]) else pur (exP op 0 [] [])) (fun n => by rw [wordT]) ?_))
 exact (rd_yes (by decide)).bind (rv_to (F' := fun n => innerT n [40] [41]) (fun n => if_pos rfl) h)
theorem brk_rd {x : XT} (H : Xb x) (E : Ev x) {lv r : Int} {k : List Key} (h0 : 0 ≤ lv) (hl : lvl lv (brkV r x.op x.evs)) (hk : Gs k) (h1 : 1 ≤ r) (h7 : r ≤ 7) (hs : stop r k) : Rd (fun n => exprT n r) (etk (brkV r x.op x.evs) ++ k) lv x.pv k := by
 rw [brk_inn] at hl ⊢
 split at hl
 ·rename_i hh
  rw [if_pos hh];have g := inn_rd H E h0 (o := [40]) (c := [41]) (by decide) (by decide) (stop_41 (by decide)) g41 hk hl;rw [etk_inn] at g ⊢;exact downs (fun _ _ => now_ne (by decide)) hs h7 (by decide) (rd_paren g)
 ·rename_i hh
  rw [if_neg hh];exact (H lv k r h0 hl hk h1 (by omega)).1 hs
theorem brk_kn {x : XT} (H : Xb x) (E : Ev x) (hf : 1 ≤ x.op ∧ x.op ≤ 26) {lv r : Int} {k : List Key} (h0 : 0 ≤ lv) (hl : lvl lv (brkV r x.op x.evs)) (hk : Gs k) (h1 : 1 ≤ r) (h6 : r ≤ 6) (h3 : r ≠ 3) (h4 : r ≠ 4) (hs : stop (r + 1) k) : Kn (fun n => exprT n r) (.ok (stOf (etk (brkV r x.op x.evs) ++ k) lv)) (fun n => loopT n r x.pv) (.ok (stOf k lv)) := by
 by_cases hh : holdI x.op = r
 ·have e : brkV r x.op x.evs = x.evs := by rw [brk_inn, if_neg (by omega)]
  rw [e] at hl ⊢;exact (H lv k r h0 hl hk h1 (by omega)).2 hh (hold_ops hf (by omega) (by omega)) h4 hs
 ·have e : brkV r x.op x.evs = brkV (r + 1) x.op x.evs := by
   rw [brk_inn, brk_inn]
   by_cases q : holdI x.op < r
   ·rw [if_pos q, if_pos (by omega)]
   ·rw [if_neg q, if_neg (by omega)]
  rw [e] at hl ⊢;have g := brk_rd H E h0 hl hk (by omega) (by omega) hs;intro y S' hy;refine Rv.succ (rv_to (F' := fun n => bnd (exprT n (r + 1)) fun x => loopT n r x) (fun n => by rw [exprT, if_neg (by omega), if_neg h3]) ?_);exact Rv.bind g hy
theorem gs_tail (l : List (List PEv)) (h : ∀ b ∈ l, Gs (etk b)) : Gs (etk (tailV l)) := by
 induction l with
 | nil => exact Gs.nil
 | cons b l ih =>
  have e : tailV (b :: l) = tkn [44] ++ b ++ tailV l := by simp [tailV]
  rw [e, etk_app, etk_app];exact (Gs.cons g44 (h b (by simp))).app (ih fun d hd => h d (List.mem_cons_of_mem _ hd))
theorem more_rd {k : List Key} {lv : Int} (h0 : 0 ≤ lv) (hk : Gs k) : ∀ (l : List XT) (acc : List EV), (∀ y ∈ l, Xb y ∧ Ev y) → acc.length + l.length ≤ 8 → lvl lv (tailV (l.map XT.evs)) → Rd (fun n => moreT n acc) (etk (tailV (l.map XT.evs)) ++ [41] :: k) lv (acc ++ l.map XT.pv) ([41] :: k)
 | [], acc, _, _, _ => by
  refine Rv.succ (rv_to (F' := fun n => bnd (isT [44]) fun c => if c then bnd (roomT acc.length 8) fun _ => bnd (takeT [44]) fun _ => bnd (exprT n 1) fun x => moreT n (acc ++ [x]) else pur acc) (fun n => by rw [moreT]) ?_);have e : acc ++ ([] : List XT).map XT.pv = acc := by simp
  rw [e];exact (rd_no (now_ne (by decide))).bind (rv_to (F' := fun _ => pur acc) (fun n => if_neg (by decide)) (rv_pur _ _))
 | y :: l, acc, H, hn, hl => by
  obtain ⟨Hy, Ey⟩ := H y (by simp);have Hl := fun d hd => H d (List.mem_cons_of_mem y hd);have e : tailV ((y :: l).map XT.evs) = tkn [44] ++ y.evs ++ tailV (l.map XT.evs) := by simp [tailV]
  rw [e, lvl_app, lvl_app, nt_app, nt_tkn, Ey.nt] at hl;simp only [Int.add_zero] at hl;obtain ⟨⟨_, hl1⟩, hl2⟩ := hl;rw [List.length_cons] at hn
  have ht : etk (tailV ((y :: l).map XT.evs)) ++ [41] :: k = [44] :: (etk y.evs ++ (etk (tailV (l.map XT.evs)) ++ [41] :: k)) := by
   rw [e, etk_app, etk_app, etk_tkn]; simp
  rw [ht]
  have hgs : Gs (etk (tailV (l.map XT.evs))) := gs_tail _ fun b hb => by
   obtain ⟨z, hz, rfl⟩ := List.mem_map.1 hb;exact (Hl z hz).2.gs
  have g2 : Gs (etk (tailV (l.map XT.evs)) ++ [41] :: k) := hgs.app (Gs.cons g41 hk)
  have hst : stop 1 (etk (tailV (l.map XT.evs)) ++ [41] :: k) := by
   cases l with
   | nil => exact stop_41 (by decide)
   | cons z l =>
    have e : tailV ((z :: l).map XT.evs) = tkn [44] ++ (z.evs ++ tailV (l.map XT.evs)) := by simp [tailV]
    rw [e, etk_app];exact stop_44 (by decide)
  have ih := more_rd h0 hk l (acc ++ [y.pv]) Hl (by simp; omega) hl2;refine Rv.succ (rv_to (F' := fun n => bnd (isT [44]) fun c => if c then bnd (roomT acc.length 8) fun _ => bnd (takeT [44]) fun _ => bnd (exprT n 1) fun x => moreT n (acc ++ [x]) else pur acc) (fun n => by rw [moreT]) ?_);refine (rd_yes (by decide)).bind (rv_to (F' := fun n => bnd (roomT acc.length 8) fun _ => bnd (takeT [44]) fun _ => bnd (exprT n 1) fun x => moreT n (acc ++ [x])) (fun n => if_pos rfl) ?_);refine (rd_room (by omega)).bind ((rd_take (by decide) (Ey.gs.app g2)).bind (((Hy lv _ 1 h0 hl1 g2 (by decide) (hold_rng _).1).1 hst).bind ?_));have e3 : acc ++ (y :: l).map XT.pv = acc ++ [y.pv] ++ l.map XT.pv := by simp
  rw [e3];exact ih
theorem args_rd {k : List Key} {lv : Int} (h0 : 0 ≤ lv) (hk : Gs k) (l : List XT) (H : ∀ y ∈ l, Xb y ∧ Ev y) (hl : lvl lv (argsV (l.map XT.evs))) : Rd (fun n => argsT n) (etk (argsV (l.map XT.evs)) ++ k) lv (l.map XT.pv) k := by
 have h8 : ¬ 8 < (l.map XT.evs).length := by
  intro q;unfold argsV at hl;rw [if_pos q] at hl;simp only [lvl_app, farV, lvl, false_and] at hl
 rw [args_inn h8] at hl ⊢
 have hnt : ∀ b ∈ l.map XT.evs, nt b = 0 := fun b hb => by
  obtain ⟨z, hz, rfl⟩ := List.mem_map.1 hb;exact (H z hz).2.nt
 rw [lvl_inn (nt_sep _ hnt)] at hl;obtain ⟨h32, hl⟩ := hl;rw [etk_inn]
 have hgs : ∀ b ∈ l.map XT.evs, Gs (etk b) := fun b hb => by
  obtain ⟨z, hz, rfl⟩ := List.mem_map.1 hb;exact (H z hz).2.gs
 have g2 := gs_sep _ hgs;have e : [40] :: (etk (sepV (l.map XT.evs)) ++ [[41]]) ++ k = [40] :: (etk (sepV (l.map XT.evs)) ++ [41] :: k) := by simp
 rw [e];have g41k : Gs ([41] :: k) := Gs.cons g41 hk;refine Rv.succ (rv_to (F' := fun n => bnd (openT [40]) fun _ => bnd (commaT n) fun l => bnd (shutT [41]) fun _ => pur l) (fun n => by rw [argsT]) ?_);refine (rd_open (by decide) (g2.app g41k) h0 h32).bind (Rv.bind (x := l.map XT.pv) (S1 := .ok (stOf ([41] :: k) (lv + 1))) ?_ ((rd_shut (by decide) hk h0 h32).bind (rv_pur _ _)));refine Rv.succ (rv_to (F' := fun n => bnd (isT [41]) fun c => if c then pur [] else bnd (exprT n 1) fun x => moreT n [x]) (fun n => by rw [commaT]) ?_)
 cases l with
 | nil => exact (rd_yes (by decide)).bind (rv_to (F' := fun _ => pur []) (fun n => if_pos rfl) (rv_pur _ _))
 | cons y l =>
  obtain ⟨Hy, Ey⟩ := H y (by simp);have Hl := fun d hd => H d (List.mem_cons_of_mem y hd);rw [List.map_cons, sep_tail, lvl_app, Ey.nt] at hl;simp only [Int.add_zero] at hl;obtain ⟨hl1, hl2⟩ := hl
  have e : etk (sepV ((y :: l).map XT.evs)) ++ [41] :: k = etk y.evs ++ (etk (tailV (l.map XT.evs)) ++ [41] :: k) := by
   rw [List.map_cons, sep_tail, etk_app]; simp
  rw [e];have g3 : Gs (etk (tailV (l.map XT.evs)) ++ [41] :: k) := (gs_tail _ fun b hb => hgs b (by rw [List.map_cons]; exact List.mem_cons_of_mem _ hb)).app g41k
  have hst : stop 1 (etk (tailV (l.map XT.evs)) ++ [41] :: k) := by
   cases l with
   | nil => exact stop_41 (by decide)
   | cons z l =>
    have e : tailV ((z :: l).map XT.evs) = tkn [44] ++ (z.evs ++ tailV (l.map XT.evs)) := by simp [tailV]
    rw [e, etk_app];exact stop_44 (by decide)
  have hno : (stOf (etk y.evs ++ (etk (tailV (l.map XT.evs)) ++ [41] :: k)) (lv + 1)).now ≠ .fixed [41] := by
   obtain ⟨s, r, q, q1, _⟩ := Ey.hd;rw [q];exact now_ne q1
  have hm := more_rd (by omega : (0 : Int) ≤ lv + 1) hk l [y.pv] Hl (by simp at h8 ⊢; omega) hl2;refine (rd_no hno).bind (rv_to (F' := fun n => bnd (exprT n 1) fun x => moreT n [x]) (fun n => if_neg (by decide)) ?_);exact ((Hy (lv + 1) _ 1 (by omega) hl1 g3 (by decide) (hold_rng _).1).1 hst).bind hm
theorem wordT_no {s : Key} {ts : List Key} {k : List Key} {lv : Int} {x : EV} (h1 : s ≠ [40]) (h2 : s ≠ kTrue) (h3 : s ≠ kFalse) (h : Rd (fun n => bnd (pickT (operW 7)) fun op => if op = 0 then wrongT else bnd nextT fun _ => if formI op = 1 then bnd (innerT n [40] [41]) fun y => pur (exP op 0 [] [y]) else pur (exP op 0 [] [])) (s :: ts) lv x k) : Rd (fun n => wordT n) (s :: ts) lv x k := by
 refine Rv.succ (rv_to (F' := fun n => bnd (isT [40]) fun c => if c then innerT n [40] [41] else bnd (isT kTrue) fun c => if c then bnd (takeT kTrue) fun _ => pur (exP 2 1 [] []) else bnd (isT kFalse) fun c => if c then bnd (takeT kFalse) fun _ => pur (exP 2 0 [] [])
   else bnd (pickT (operW 7)) fun op => if op = 0 then wrongT else bnd nextT fun _ => if formI op = 1 then bnd (innerT n [40] [41]) fun y => pur (exP op 0 [] [y]) else pur (exP op 0 [] [])) (fun n => by rw [wordT]) ?_)
 refine (rd_no (now_ne h1)).bind (rv_to (fun n => if_neg (by decide)) ((rd_no (now_ne h2)).bind (rv_to (fun n => if_neg (by decide)) ((rd_no (now_ne h3)).bind (rv_to (fun n => if_neg (by decide)) h)))))
theorem wordT_true {k : List Key} {lv : Int} (hk : Gs k) : Rd (fun n => wordT n) (kTrue :: k) lv (exP 2 1 [] []) k := by
 refine Rv.succ (rv_to (F' := fun n => bnd (isT [40]) fun c => if c then innerT n [40] [41] else bnd (isT kTrue) fun c => if c then bnd (takeT kTrue) fun _ => pur (exP 2 1 [] []) else bnd (isT kFalse) fun c => if c then bnd (takeT kFalse) fun _ => pur (exP 2 0 [] [])
   else bnd (pickT (operW 7)) fun op => if op = 0 then wrongT else bnd nextT fun _ => if formI op = 1 then bnd (innerT n [40] [41]) fun y => pur (exP op 0 [] [y]) else pur (exP op 0 [] [])) (fun n => by rw [wordT]) ?_)
 exact (rd_no (now_ne (by decide))).bind (rv_to (fun n => if_neg (by decide)) ((rd_yes (by decide)).bind (rv_to (fun n => if_pos rfl) ((rd_take (by decide) hk).bind (rv_pur _ _)))))
theorem wordT_false {k : List Key} {lv : Int} (hk : Gs k) : Rd (fun n => wordT n) (kFalse :: k) lv (exP 2 0 [] []) k := by
 refine Rv.succ (rv_to (F' := fun n => bnd (isT [40]) fun c => if c then innerT n [40] [41] else bnd (isT kTrue) fun c => if c then bnd (takeT kTrue) fun _ => pur (exP 2 1 [] []) else bnd (isT kFalse) fun c => if c then bnd (takeT kFalse) fun _ => pur (exP 2 0 [] [])
   else bnd (pickT (operW 7)) fun op => if op = 0 then wrongT else bnd nextT fun _ => if formI op = 1 then bnd (innerT n [40] [41]) fun y => pur (exP op 0 [] [y]) else pur (exP op 0 [] [])) (fun n => by rw [wordT]) ?_)
 exact (rd_no (now_ne (by decide))).bind (rv_to (fun n => if_neg (by decide)) ((rd_no (now_ne (by decide))).bind (rv_to (fun n => if_neg (by decide)) ((rd_yes (by decide)).bind (rv_to (fun n => if_pos rfl) ((rd_take (by decide) hk).bind (rv_pur _ _)))))))
theorem named_rd {s : Key} {ts k : List Key} {lv : Int} {x : EV} (hs : nmB s = true) (h : Rd (fun n => namedT n) (s :: ts) lv x k) : Rd (fun n => exprT n 7) (s :: ts) lv x k :=
 rd_atom (Rv.succ (rv_at (F' := fun n => namedT n) (fun n => by
  have e : (stOf (s :: ts) lv).now = .name s := name_of hs;rw [atomT]
  simp only [e]) h))
theorem namedT_of {s : Key} {ts k : List Key} {lv : Int} {x : EV} (hs : nmB s = true) (ht : Gs ts) (h : Rd (fun n => bnd (isT [91]) fun c => if c then bnd (innerT n [91] [93]) fun y => pur (exP 4 0 s [y]) else bnd (isT [40]) fun d => if d then bnd (argsT n) fun l => pur (exP 5 0 s l) else pur (exP 3 0 s [])) ts lv x k) : Rd (fun n => namedT n) (s :: ts) lv x k :=
 Rv.succ (rv_to (F' := fun n => bnd nameT fun s => bnd (isT [91]) fun c => if c then bnd (innerT n [91] [93]) fun y => pur (exP 4 0 s [y]) else bnd (isT [40]) fun d => if d then bnd (argsT n) fun l => pur (exP 5 0 s l) else pur (exP 3 0 s [])) (fun n => by rw [namedT]) ((rd_name hs ht).bind h))
theorem xb_7 {x : XT} (E : Ev x) (hh : holdI x.op = 7) (ht : isTwo x.op = false) (h : ∀ (lv : Int) (k : List Key), 0 ≤ lv → lvl lv x.evs → Gs k → (stOf k lv).now ≠ .fixed [91] → (stOf k lv).now ≠ .fixed [40] → Rd (fun n => exprT n 7) (etk x.evs ++ k) lv x.pv k) : Xb x := by
 intro lv k r h0 hl hk h1 hr;refine ⟨fun hs => ?_, fun _ q => by rw [ht] at q; cases q⟩;rw [hh] at hr;refine downs (fun _ _ => ?_) hs hr (by decide) (h lv k h0 hl hk (hs.no lv).1 (hs.no lv).2);obtain ⟨s, t, q, _, q2⟩ := E.hd;rw [q];exact now_ne (q2 (by rw [hh]; decide))
theorem xb_of (op n : Int) (s : Key) (ar : List XT) (hf : (XT.mk op n s ar).fm = true) (H : ∀ y ∈ ar, y.fm = true → Xb y) : Xb (.mk op n s ar) := by
 have E := ev_all _ hf;have h := XT.parts hf;have hm := h.mem;have HE : ∀ y ∈ ar, Xb y ∧ Ev y := fun y hy => ⟨H y hy (hm y hy), ev_all y (hm y hy)⟩;refine h.cases ?_ ?_ ?_ ?_ ?_ ?_ ?_ ?_ ?_
 ·rintro rfl rfl rfl;refine xb_7 E rfl rfl fun lv k h0 hl hk _ _ => ?_;have hn := h.num;rw [ev_1 h];refine rd_atom (Rv.succ (rv_at (F' := fun n' => bnd nextT fun _ => pur (exP 1 n [] [])) (fun n' => ?_) ((rd_next hk).bind (rv_pur _ _))))
  have e : (stOf (digK n.toNat :: k) lv).now = .num n := by
   show tkOf (digK n.toNat) = _;rw [num_of, Int.toNat_of_nonneg hn.1]
  show atomT (n' + 1) (stOf (digK n.toNat :: k) lv) = _;rw [atomT];simp only [e];rfl
 ·rintro rfl rfl rfl;refine xb_7 E rfl rfl fun lv k h0 hl hk _ _ => ?_;have hn := h.num;have hm2 : mostI 2 = 1 := rfl;rw [ev_2 h]
  by_cases q : n = 1
  ·subst q;rw [if_pos rfl];exact rd_word (by decide) (wordT_true hk)
  ·have q : n = 0 := by omega
   subst q;rw [if_neg (by decide)];exact rd_word (by decide) (wordT_false hk)
 ·rintro rfl rfl hs;refine xb_7 E rfl rfl fun lv k h0 hl hk a b => ?_;have hn := h.n0 (by decide) (by decide);subst hn;rw [ev_3 h];refine named_rd hs (namedT_of hs hk ?_);exact (rd_no a).bind (rv_to (fun n => if_neg (by decide)) ((rd_no b).bind (rv_to (fun n => if_neg (by decide)) (rv_pur _ _))))
 ·rintro y rfl rfl hs;refine xb_7 E rfl rfl fun lv k h0 hl hk a b => ?_;have hn := h.n0 (by decide) (by decide);subst hn;obtain ⟨Hy, Ey⟩ := HE y (by simp);rw [ev_4 h] at hl ⊢;rw [lvl_app] at hl;have g := inn_rd Hy Ey h0 (o := [91]) (c := [93]) (k := k) (by decide) (by decide) (stop_93 (by decide)) g93 hk (by rw [nt_tkn, Int.add_zero] at hl; exact hl.2);have gg := (gs_inn g91 g93 Ey.gs).app hk;rw [etk_app, etk_tkn];have e : [s] ++ etk (innV [91] y.evs [93]) ++ k = s :: (etk (innV [91] y.evs [93]) ++ k) := by simp
  rw [e];refine named_rd hs (namedT_of hs gg ?_);rw [etk_inn] at g ⊢;exact (rd_yes (by decide)).bind (rv_to (F' := fun n => bnd (innerT n [91] [93]) fun y => pur (exP 4 0 s [y])) (fun n => if_pos rfl) (Rv.bind g (rv_pur _ _)))
 ·rintro rfl hs;refine xb_7 E rfl rfl fun lv k h0 hl hk a b => ?_;have hn := h.n0 (by decide) (by decide);subst hn;rw [ev_5 h] at hl ⊢;rw [lvl_app, nt_tkn, Int.add_zero] at hl;have g := args_rd h0 hk ar HE hl.2
  have gg : Gs (etk (argsV (ar.map XT.evs)) ++ k) := by
   rw [args_tk];exact (gs_inn g40 g41 (gs_sep _ fun b hb => by obtain ⟨z, hz, rfl⟩ := List.mem_map.1 hb; exact (HE z hz).2.gs)).app hk
  rw [etk_app, etk_tkn];have e : [s] ++ etk (argsV (ar.map XT.evs)) ++ k = s :: (etk (argsV (ar.map XT.evs)) ++ k) := by simp
  rw [e];have ep : (XT.mk 5 0 s ar).pv = exP 5 0 s (ar.map XT.pv) := by rw [XT.pv, XT.pvs_map]
  rw [ep];refine named_rd hs (namedT_of hs gg ?_);rw [args_tk, etk_inn] at g ⊢;exact (rd_no (now_ne (by decide))).bind (rv_to (fun n => if_neg (by decide)) ((rd_yes (by decide)).bind (rv_to (F' := fun n => bnd (argsT n) fun l => pur (exP 5 0 s l)) (fun n => if_pos rfl) (Rv.bind g (rv_pur _ _)))))
 ·rintro y rfl rfl rfl;have hn := h.n0 (by decide) (by decide);subst hn;obtain ⟨Hy, Ey⟩ := HE y (by simp);intro lv k r h0 hl hk h1 hr;have hr : r ≤ 3 := hr;refine ⟨fun hs => ?_, fun _ q => by cases q⟩;rw [ev_8 h] at hl ⊢;simp only [lvl_app, lvl_up, lvl_tkn, lvl_down, nt_app, nt_up, nt_tkn, nt_brk Ey.nt, true_and, and_true] at hl;have hl2 : lvl (lv + 1) (brkV 3 y.op y.evs) := hl.2;have g := brk_rd Hy Ey (by omega) hl2 hk (by decide) (by decide) (hs.mono hr);have gg := (gs_brk Ey.gs).app hk (a := etk (brkV 3 y.op y.evs));simp only [etk_app, etk_up, etk_tkn, etk_down, List.nil_append, List.append_nil];refine downs (fun q => absurd q (by decide)) hs hr (by decide) (h := 3) ?_;refine Rv.succ (rv_to (F' := fun n => bnd (isT kNot) fun c => if c then notT n else exprT n 4) (fun n => by rw [exprT, if_neg (by decide), if_pos rfl]; rfl) ?_);refine (rd_yes (by decide)).bind (rv_to (F' := fun n => notT n) (fun n => if_pos rfl) ?_);refine Rv.succ (rv_to (F' := fun n => bnd deeperT fun _ => bnd (takeT kNot) fun _ => bnd (exprT n 3) fun x => bnd upT fun _ => pur (exP 8 0 [] [x])) (fun n => by rw [notT]) ?_);exact (rd_deep h0 hl.1).bind ((rd_take (by decide) gg).bind (Rv.bind g ((rd_upT h0 hl.1).bind (rv_pur _ _))))
 ·rintro y z ht rfl rfl;have hno := twos_of ht;have hn := h.n0 (by rintro rfl; cases ht) (by rintro rfl; cases ht);subst hn;obtain ⟨Hy, Ey⟩ := HE y (by simp);obtain ⟨Hz, Ez⟩ := HE z (by simp);obtain ⟨w1, w3, w6⟩ := two_word ht;have hrg := hold_rng op
  have hfy : 1 ≤ y.op ∧ y.op ≤ 26 := by
   have := hm y (by simp)
   cases y with
   | mk a b c d => exact (XT.parts this).rng
  intro lv k r h0 hl hk h1 hr;have hr : r ≤ holdI op := hr;rw [ev_two h ht] at hl ⊢;rw [lvl_app, lvl_app, nt_app, nt_tkn, nt_brk Ey.nt] at hl;simp only [Int.add_zero] at hl;obtain ⟨⟨hl1, _⟩, hl2⟩ := hl;have gz : Gs (etk (brkV (holdI op + 1) z.op z.evs) ++ k) := (gs_brk Ez.gs).app hk;have gy : Gs (opWord op :: (etk (brkV (holdI op + 1) z.op z.evs) ++ k)) := Gs.cons (good_fix w1) gz;have e : ∀ q : Int, etk (brkV q y.op y.evs ++ tkn (opWord op) ++ brkV (holdI op + 1) z.op z.evs) ++ k = etk (brkV q y.op y.evs) ++ opWord op :: (etk (brkV (holdI op + 1) z.op z.evs) ++ k) := fun q => by simp [etk_app, etk_tkn]
  rw [e]
  have hd : 3 < holdI op → r ≤ 3 → (stOf (etk (brkV (if holdI op = 4 then 5 else holdI op) y.op y.evs) ++ opWord op :: (etk (brkV (holdI op + 1) z.op z.evs) ++ k)) lv).now ≠ .fixed kNot := by
   intro q _;obtain ⟨s, t, q1, _, q2⟩ := E.hd;rw [ev_two h ht] at q1;have e2 := e (if holdI op = 4 then 5 else holdI op);rw [← e2, q1];exact now_ne (q2 q)
  by_cases h4 : holdI op = 4
  ·rw [if_pos h4] at hl1 hd ⊢;refine ⟨fun hs => ?_, fun q _ q4 => absurd (q.symm.trans h4) q4⟩;have gl := brk_rd Hy Ey h0 hl1 gy (by decide) (by decide) (stop_op ht (by omega));rw [h4] at hl2 gz gl hd hr ⊢;have gr := brk_rd Hz Ez h0 hl2 hk (by decide) (by decide) (hs.mono (by omega));refine downs hd hs hr (by decide) ?_;refine Rv.succ (rv_to (F' := fun n => bnd (exprT n 5) fun x => loopT n 4 x) (fun n => by rw [exprT, if_neg (by decide), if_neg (by decide)]; rfl) ?_);exact Rv.bind gl (loop_4 ht h4 gz gr)
  ·rw [if_neg h4] at hl1 hd ⊢;have kl := brk_kn Hy Ey hfy h0 hl1 gy hrg.1 w6 w3 h4 (stop_op ht (by omega))
   have chain : stop (holdI op + 1) k → Kn (fun n => exprT n (holdI op)) (.ok (stOf (etk (brkV (holdI op) y.op y.evs) ++ opWord op :: (etk (brkV (holdI op + 1) z.op z.evs) ++ k)) lv)) (fun n => loopT n (holdI op) (XT.mk op 0 [] [y, z]).pv) (.ok (stOf k lv)) := fun hs => by
    have gr := brk_rd Hz Ez h0 hl2 hk (by omega) (by omega) hs;intro v S' hv;exact kl v S' (loop_step ht rfl h4 gz gr v S' hv)
   refine ⟨fun hs => ?_, fun q _ _ hs => ?_⟩
   ·exact downs hd hs hr hrg.2 (chain (hs.mono (by omega)) _ _ (loop_stop (hs.mono hr) w6))
   ·have q : holdI op = r := q;subst q;exact chain hs
 ·rintro q rfl rfl;obtain ⟨a, b, c, d1, d2, d3, d4, d5, d6⟩ := word_op op (word_in ⟨q.1, by omega⟩);have hnt : isTwo op = false := by unfold isTwo; rw [decide_eq_false_iff_not]; omega
  have hn := h.n0 (by omega) (by omega);subst hn;refine xb_7 E d6 hnt fun lv k h0 hl hk _ _ => ?_;rw [ev_bare h q];show Rd _ (opWord op :: k) lv _ k;refine rd_word (fixed_of (.inl a)) (wordT_no d1 d2 d3 ?_);refine rd_pick.bind (rv_to (F' := fun n => bnd nextT fun _ => pur (exP op 0 [] [])) (fun n => ?_) ((rd_next hk).bind (rv_pur _ _)));rw [pick_now _ (show (stOf (opWord op :: k) lv).now = (⟨[], tkOf (opWord op), 0⟩ : St).now from rfl), d4, if_neg (by omega)];simp only [if_neg (show ¬ formI op = 1 from fun w => by have := d5.1 w; omega)]
 ·rintro y q rfl rfl;obtain ⟨a, b, c, d1, d2, d3, d4, d5, d6⟩ := word_op op (word_in ⟨by omega, q.2⟩);have hnt : isTwo op = false := by unfold isTwo; rw [decide_eq_false_iff_not]; omega
  have hn := h.n0 (by omega) (by omega);subst hn;obtain ⟨Hy, Ey⟩ := HE y (by simp);refine xb_7 E d6 hnt fun lv k h0 hl hk _ _ => ?_;rw [ev_one h q] at hl ⊢;rw [lvl_app, nt_tkn, Int.add_zero] at hl;have g := inn_rd Hy Ey h0 (o := [40]) (c := [41]) (k := k) (by decide) (by decide) (stop_41 (by decide)) g41 hk hl.2;have gg := (gs_inn g40 g41 Ey.gs).app hk;rw [etk_app, etk_tkn];have e : [opWord op] ++ etk (innV [40] y.evs [41]) ++ k = opWord op :: (etk (innV [40] y.evs [41]) ++ k) := by simp
  rw [e];refine rd_word (fixed_of (.inl a)) (wordT_no d1 d2 d3 ?_);refine rd_pick.bind (rv_to (F' := fun n => bnd nextT fun _ => bnd (innerT n [40] [41]) fun y => pur (exP op 0 [] [y])) (fun n => ?_) ((rd_next gg).bind (Rv.bind g (rv_pur _ _))));rw [pick_now _ (show (stOf (opWord op :: (etk (innV [40] y.evs [41]) ++ k)) lv).now = (⟨[], tkOf (opWord op), 0⟩ : St).now from rfl), d4, if_neg (by omega)];simp only [if_pos (d5.2 q.1)]
theorem xb_all : ∀ x : XT, x.fm = true → Xb x
 | .mk op n s ar, hf => xb_of op n s ar hf fun y hy q => xb_all y q
termination_by x => SizeOf.sizeOf x
decreasing_by
 have := List.sizeOf_lt_of_mem hy;simp only [XT.mk.sizeOf_spec];omega
theorem expr_rd {x : XT} (hf : x.fm = true) {lv : Int} {k : List Key} (h0 : 0 ≤ lv) (hl : lvl lv x.evs) (hk : Gs k) (hs : stop 1 k) : Rd (fun n => exprT n 1) (etk x.evs ++ k) lv x.pv k :=
 (xb_all x hf lv k 1 h0 hl hk (by decide) (hold_rng _).1).1 hs
end Go.Proofs.YtpofgnlkhkednaaGreatDoor
