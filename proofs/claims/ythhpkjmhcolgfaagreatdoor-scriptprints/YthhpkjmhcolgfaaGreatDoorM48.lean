import Derived.Test.YthhpkjmhcolgfaaGreatDoorSQw
namespace Go.Proofs.YthhpkjmhcolgfaaGreatDoor
open Go.RowKit
set_option linter.unusedVariables false
set_option linter.unusedSimpArgs false
set_option maxRecDepth 20000
set_option maxHeartbeats 8000000
theorem fme_all {w0 : World} (H4 : w0.rangeAt 4 0 (flatF formL)) (h4 : 4 < w0.heap.size) : ∀ x : XT, ExF w0 x
 | .mk op n s ar => fme_of w0 H4 h4 op n s ar fun y hy => fme_all H4 h4 y
termination_by x => SizeOf.sizeOf x
decreasing_by
 have := List.sizeOf_lt_of_mem hy;simp only [XT.mk.sizeOf_spec];omega
theorem fms_all {w0 : World} (H4 : w0.rangeAt 4 0 (flatF formL)) (H1 : w0.rangeAt 1 0 stepV) (h4 : 4 < w0.heap.size) : ∀ x : ST, StF w0 x
 | .mk k nm al ca ty es bs ls => fms_of w0 H1 (by omega) k nm al ca ty es bs ls (fun y _ => fme_all H4 h4 y) (fun y hy => fms_all H4 H1 h4 y) (fun y hy => fms_all H4 H1 h4 y)
termination_by x => SizeOf.sizeOf x
decreasing_by
 all_goals
  have := List.sizeOf_lt_of_mem hy;simp only [ST.mk.sizeOf_spec];omega
theorem formed_m {w0 : World} (H4 : w0.rangeAt 4 0 (flatF formL)) (H1 : w0.rangeAt 1 0 stepV) (h4 : 4 < w0.heap.size) (c : CTr) (lo : Nat) (fs : List Fld) (hp : pvAll fs = c.pv) (hl : lieAll lo w0 fs) : Meth Tryz.prog (Bx w0) (fun _ => False) 20 [.agg (fs.map Fld.val).toArray] () (fun v _ _ => v = .bool c.fm) :=
 formed_of w0 c (fun f _ => fmf_of w0 f fun x _ => fms_all H4 H1 h4 x) lo fs hp hl
theorem txl {t p : Key} (h : TxOk t p) : decide ((2048 : Int) < (t.length : Int)) = decide ((2048 : Int) < (p.length : Int)) := by
 have := h.fits.1;rw [decide_eq_decide] at this ⊢;omega
theorem print_p {w0 : World} (HT : Tabs w0) (HP : PowT w0) (H4 : w0.rangeAt 4 0 (flatF formL)) (H1 : w0.rangeAt 1 0 stepV) (c : CTr) (wA : World) (lo : Nat) (fs : List Fld) (hp : pvAll fs = c.pv) (hl : lieAll lo w0 fs) (hB : Bx w0 () wA) (hmax : c.sl.length + c.tb.length ≤ 1000000000) (hroom : Rm PS.zero (wtV c.evs + 2)) : Calls Tryz.prog 7 ([.agg (fs.map Fld.val).toArray] : List Value).toArray wA fun e w' => e = .returned (.tuple #[.string (str (endP (PS.zero.run c.evs)).1), .int .i64 (endP (PS.zero.run c.evs)).2]) ∧ Below wA.heap.size wA w' := by
 have hsz : 4 < w0.heap.size := by have := HT.size; omega
 have h4 : fs.length = 4 := by rw [← pvAll_len, hp]; rfl
 have M := bx_begin hB;refine sw_fn Tryz.func7 rfl 32 Tryz.ntmps7 rfl fun A F => ?_;refine sq (rg ?_);refine sw_box F M (fs.map Fld.val) ⟨rfl, rfl, rfl⟩ rfl rfl rfl fun x1 A w F M => ?_;refine as1 F fun A F=>?_;refine as1 F fun A F=>?_;refine en (sq (sq (rg ?_)));refine sw_all F M 0 ⟨rfl, rfl, rfl⟩ rfl rfl (by kernel_rfl) (by rw [List.length_map, h4]; kernel_rfl) rfl fun A F => ?_;refine sw_call0 (formed_m H4 H1 hsz c lo fs hp hl) F M ⟨rfl, rfl, rfl⟩ rfl rfl ?_;rintro _ _ A w ⟨_, rfl⟩ F M;refine sw_not F ⟨rfl, rfl, rfl⟩ rfl rfl fun A F => ?_;refine en (cd F (fun hc1=>?_) fun hc1=>?_)
 ·have hcf : c.fm = false := by simpa using hc1
  have hod : (PS.zero.run c.evs).od = true := by rw [od_run, od_ct, hcf]; rfl
  refine sq (rg ?_);refine as1 F fun A F=>?_;refine as1 F fun A F=>?_;refine en (wp_ret ?_);repeat first|refine tr ?_|refine br ?_
  exact sw_retT2 F Tryz.results7 rfl rfl ⟨by exact ret_end (end_odd hod), M.but.below (Nat.le_refl _) fun k q => q.elim⟩
 have hcf : c.fm = true := by simpa using hc1
 have hod : (PS.zero.run c.evs).od = false := by rw [od_run, od_ct, hcf]; rfl
 refine wp_skip (sq (rg ?_));refine sw_build F _ [.slice none 0 0, .int .i64 0, .bool false, .bool false] ⟨rfl, rfl, rfl⟩ rfl (by kernel_rfl) rfl fun A F => ?_;refine sw_box F M [.slice none 0 0, .int .i64 0, .bool false, .bool false] ⟨rfl, rfl, rfl⟩ rfl rfl rfl fun b A w F M => ?_;refine as1 F fun A F=>?_;refine en (sq (rg ?_));refine mv F fun A F=>?_;refine sw_all F M 1 ⟨rfl, rfl, rfl⟩ rfl rfl (by kernel_rfl) (by rw [List.length_map, h4]; kernel_rfl) rfl fun A F => ?_;have HC := contractw_m HT HP b c hcf hmax lo fs hp hl;have R := WrS.new M;refine sw_callR HC.1 (HC.2 _ _ _ _ R hroom) F ⟨rfl, rfl, rfl⟩ rfl rfl ?_;rintro e1 w ⟨rfl, R1⟩;refine ⟨_, rfl, fun A F => ?_⟩;clear R M HC;obtain ⟨wa, wc, wt, M, ht⟩ := R1;unfold WrI wrC at M;generalize hpz : PS.zero.run c.evs = pz at M ht hod;refine en (sq ?_);refine wp_block ?_;refine sq (rg ?_);refine mv F fun A F=>?_;refine ni F fun A F=>?_;refine fl F 2 fun A F=>?_;refine ce F M 0 fun A F=>?_;refine mv F fun A F=>?_
 cases c2 : (pz.fr) with
 | true =>
  rw [c2] at F;refine off2 F 4 4 fun A F=>?_;refine pkT F fun A F=>?_;refine as1 F fun A F=>?_;refine en (sw_true F rfl ?_);refine sq (rg ?_);refine as1 F fun A F=>?_;refine as1 F fun A F=>?_;refine en (wp_ret ?_);repeat first|refine tr ?_|refine br ?_
  exact sw_retT2 F Tryz.results7 rfl rfl ⟨by (try rw [hpz]); exact ret_end (end_fr hod c2), M.but.below (Nat.le_refl _) fun k q => q.elim⟩
 | false =>
  rw [c2] at F;refine on' F 4 ?_;refine mv F fun A F=>?_;refine on' F 4 ?_;refine sw_callR (long_m b w0).1 ((long_m b w0).2 _ _ pz wa wc wt w M) F ⟨rfl, rfl, rfl⟩ rfl rfl ?_;rintro e2 w ⟨rfl, M⟩;refine ⟨_, rfl, fun A F => ?_⟩;unfold WrI wrC at M;rw [txl ht] at F;refine pkF F fun A F=>?_;refine as1 F fun A F=>?_;refine en (cd F (fun hc3=>?_) fun hc3=>?_)
  ·refine sq (rg ?_);refine as1 F fun A F=>?_;refine as1 F fun A F=>?_;refine en (wp_ret ?_);repeat first|refine tr ?_|refine br ?_
   exact sw_retT2 F Tryz.results7 rfl rfl ⟨by (try rw [hpz]); exact ret_end (end_len hod c2 hc3), M.but.below (Nat.le_refl _) fun k q => q.elim⟩
  refine sq (rg ?_);refine mv F fun A F=>?_;refine ni F fun A F=>?_;refine fl F 3 fun A F=>?_;refine ce F M 0 fun A F=>?_;refine as1 F fun A F=>?_;refine en (cd F (fun hc4=>?_) fun hc4=>?_)
  ·refine sq (rg ?_);refine as1 F fun A F=>?_;refine as1 F fun A F=>?_;refine en (wp_ret ?_);repeat first|refine tr ?_|refine br ?_
   exact sw_retT2 F Tryz.results7 rfl rfl ⟨by (try rw [hpz]); exact ret_end (end_mx hod c2 hc3 hc4), M.but.below (Nat.le_refl _) fun k q => q.elim⟩
  refine wp_skip (sq (rg ?_));refine mv F fun A F=>?_;refine ni F fun A F=>?_;refine fl F 0 fun A F=>?_;refine ce F M 0 fun A F=>?_;refine sw_txt F M 1 ⟨rfl, rfl, rfl⟩ rfl rfl rfl Tryz.underlying54 Tryz.underlying5 Tryz.underlying9 rfl fun A F => ?_;refine as1 F fun A F=>?_;refine as1 F fun A F=>?_;refine en (wp_ret ?_);repeat first|refine tr ?_|refine br ?_
  exact sw_retT2 F Tryz.results7 rfl rfl ⟨by (try rw [hpz]); rw [(TxOk.fits ht).2 (by have := of_decide_eq_false hc3; omega)]; exact ret_end (end_ok hod c2 hc3 hc4), M.but.below (Nat.le_refl _) fun k q => q.elim⟩
structure RxOk (sz c : Nat) (es : List (List Fld)) (zs : List Value) : Prop where
 len : (flatV es ++ zs).length = c * sz
 each : ∀ d ∈ es, d.length = sz
 most : c ≤ maxLen
theorem RxOk.fits {sz c : Nat} {es : List (List Fld)} {zs : List Value} (h : RxOk sz c es zs) (h0 : 0 < sz) : es.length ≤ c := by
 have h1 := flatV_len h.each;have h2 := h.len;rw [List.length_append, h1] at h2;exact Nat.le_of_mul_le_mul_right (show es.length * sz ≤ c * sz by omega) h0
theorem RxOk.zero (sz : Nat) : RxOk sz 0 [] [] := ⟨by simp [flatV], (fun d h => by cases h), by unfold maxLen; omega⟩
theorem flatVx_at {sz : Nat} : ∀ (es : List (List Fld)) (j : Nat) (d : List Fld), (∀ d ∈ es, d.length = sz) → es[j]? = some d → ∀ q v, (d.map Fld.val)[q]? = some v → (flatV es)[j * sz + q]? = some v
 | [], j, d, _, h => by simp at h
 | e :: es, 0, d, _, h => fun q v hq => by
  simp only [List.getElem?_cons_zero, Option.some.injEq] at h;subst h;rw [flatV, Nat.zero_mul, Nat.zero_add, List.getElem?_append_left (List.getElem?_eq_some_iff.1 hq).1];exact hq
 | e :: es, j + 1, d, hs, h => fun q v hq => by
  have hl := hs e (List.mem_cons_self ..);have := flatVx_at es j d (fun x hx => hs x (List.mem_cons_of_mem _ hx)) (by simpa using h) q v hq;rw [flatV, List.getElem?_append_right (by rw [List.length_map, hl, Nat.add_mul]; omega), List.length_map, hl];rw [show (j + 1) * sz + q - sz = j * sz + q by rw [Nat.add_mul]; omega];exact this
theorem putAt_mid : ∀ (B' B A C : List Value), B'.length = B.length → putAt (A ++ B ++ C).toArray A.length B' = (A ++ B' ++ C).toArray
 | [], [], A, C, _ => rfl
 | [], _ :: _, A, C, h => by cases h
 | _ :: _, [], A, C, h => by cases h
 | v :: B', b :: B, A, C, h => by
  have ih := putAt_mid B' B (A ++ [v]) C (by simpa using h)
  have e : (A ++ b :: B ++ C).toArray.setIfInBounds A.length v = (A ++ [v] ++ B ++ C).toArray := by
   rw [List.setIfInBounds_toArray]
   congr 1
   simp
  show putAt ((A ++ b :: B ++ C).toArray.setIfInBounds A.length v) (A.length + 1) B' = _;rw [e, show A.length + 1 = (A ++ [v]).length by simp, ih];simp
theorem flatV_split {es : List (List Fld)} {j : Nat} {d d' : List Fld} (h : es[j]? = some d) : flatV es = flatV (es.take j) ++ d.map Fld.val ++ flatV (es.drop (j + 1)) ∧ flatV (es.set j d') = flatV (es.take j) ++ d'.map Fld.val ++ flatV (es.drop (j + 1)) := by
 obtain ⟨hj, hd⟩ := List.getElem?_eq_some_iff.1 h
 have e1 : es = es.take j ++ d :: es.drop (j + 1) := by
  rw [← hd, ← List.drop_eq_getElem_cons hj, List.take_append_drop]
 have e2 : es.set j d' = es.take j ++ d' :: es.drop (j + 1) := by
  rw [List.set_eq_take_append_cons_drop, if_pos hj]
 refine ⟨?_, ?_⟩
 ·conv => lhs; rw [e1]
  rw [flatV_app, flatV, List.append_assoc]
 ·rw [e2, flatV_app, flatV, List.append_assoc]
theorem flat_put {sz : Nat} {es : List (List Fld)} {zs : List Value} {j : Nat} {d d' : List Fld} (hs : ∀ d ∈ es, d.length = sz) (h : es[j]? = some d) (hd : d'.length = sz) : putAt (flatV es ++ zs).toArray (0 + j * sz) (d'.map Fld.val) = (flatV (es.set j d') ++ zs).toArray := by
 obtain ⟨e1, e2⟩ := flatV_split (d' := d') h;have hj := (List.getElem?_eq_some_iff.1 h).1
 have hl : (flatV (es.take j)).length = 0 + j * sz := by
  rw [flatV_len (sz := sz) fun x hx => hs x (List.mem_of_mem_take hx), List.length_take, Nat.min_eq_left (by omega), Nat.zero_add]
 have := putAt_mid (d'.map Fld.val) (d.map Fld.val) (flatV (es.take j)) (flatV (es.drop (j + 1)) ++ zs) (by rw [List.length_map, List.length_map, hd, hs d (List.mem_of_getElem? h)]);rw [e1, e2, ← hl]
 simpa only [List.append_assoc] using this
theorem RxOk.set {sz c : Nat} {es : List (List Fld)} {zs : List Value} {j : Nat} {d d' : List Fld} (h : RxOk sz c es zs) (hj : es[j]? = some d) (hd : d'.length = sz) : RxOk sz c (es.set j d') zs := by
 have hm : ∀ x ∈ es.set j d', x.length = sz := fun x hx => by
  rcases List.mem_or_eq_of_mem_set hx with q | q
  ·exact h.each x q
  ·rw [q]; exact hd
 refine ⟨?_, hm, h.most⟩;rw [List.length_append, flatV_len hm, List.length_set, ← flatV_len h.each, ← List.length_append];exact h.len
theorem Mem.appX {base : Nat} {L : List Ent} {w : World} {k sz c c2 g : Nat} {t ety : TypeId} {z : Value} {es gss : List (List Fld)} {zs : List Value} {ad : Addr} (M : Mem base L w) (kk : L[k]? = some (.box g (flatV es ++ zs) ety)) (ok : RxOk sz c es zs) (hu : Tryz.prog.underlying t = some (.slice ety)) (hi : (Tryz.prog.info? ety).map (fun i => (i.zero, i.size, decide (i.bytes ≤ 1000))) = some (some z, sz, true)) (hzs : z.cells.size = sz) (h0 : 0 < sz)
  (src : ∀ j u, (flatV gss)[j]? = some u → w.cell? (ad.add j) = some u) (hl : ∀ d ∈ gss, d.length = sz) (hn : es.length + gss.length ≤ 100000000000) :
  ∃ g' c' zs' w', (Builtin.append_ #[t, t] t #[.slice (some ⟨g, 0, none⟩) es.length c, .slice (some ad) gss.length c2]).run Tryz.prog w = .ok (.slice (some ⟨g', 0, none⟩) (es ++ gss).length c') w' ∧ RxOk sz c' (es ++ gss) zs' ∧ Mem base (L.set k (.box g' (flatV (es ++ gss) ++ zs') ety)) w' ∧ Below base w w' := by
 obtain ⟨ii, ii1, ii2, ii3, ii4⟩ := info_parts3 hi;obtain ⟨kb, hb⟩ := M.box kk;have hfl := flatV_len ok.each
 have own : w.ownsRow base ety sz (.slice (some ⟨g, 0, none⟩) es.length c) es.length (flatV es) := by
  refine ⟨hfl, .inr ⟨g, c, (flatV es ++ zs).toArray, rfl, hb, kb, ok.fits h0, ok.most, by simpa using ok.len, ?_⟩⟩;rw [← hfl];simp
 have hby : (es.length + gss.length) * ii.bytes ≤ 140737488355328 := Nat.le_trans (Nat.mul_le_mul hn (of_decide_eq_true ii4)) (by omega);obtain ⟨v', w', h2, h3, h4, hnil, h5⟩ := run_append_own_at (P := Tryz.prog) w base t t ety ii z sz ii.bytes hu ii1 ii2 ii3 rfl hzs h0 _ es.length (flatV es) own ad gss.length c2 (flatV gss) (flatV_len hl) src flatV_one (by unfold maxLen; omega) hby M.le;rcases h3.2 with ⟨q, _⟩ | ⟨g', c', cur, e1, e2, e3, e4, e5, e6, e7⟩
 ·have := (hnil.1 q).1;cases this
 ·subst e1
  have hcur : flatV (es ++ gss) ++ cur.toList.drop ((es.length + gss.length) * sz) = cur.toList := by
   rw [flatV_app, ← e7, List.take_append_drop]
  have hgg : g' = g ∨ g' = w.heap.size := by
   rcases h5 with q | q
   ·exact .inl (Option.some.inj (show some g' = some g from q))
   ·exact .inr (Option.some.inj (show some g' = some w.heap.size from q))
  refine ⟨g', c', cur.toList.drop ((es.length + gss.length) * sz), w', ?_, ⟨?_, ?_, e5⟩, M.upd kk h4.size ⟨e2, ?_⟩ (fun j hj hm => h4.block j hj fun q => hm (by
   exact (Option.some.inj (show some j = some g from q)).symm)) (fun b hb => ?_) fun i f b hik hf hm => ?_, ⟨h4.os, h4.tape, h4.output, h4.size, fun j hj => h4.block j (by have := M.le; omega) fun q => ?_⟩⟩
  ·rw [List.length_append];exact h2
  ·rw [hcur]
   simpa using e6
  ·intro d hd;rcases List.mem_append.1 hd with hd | hd
   ·exact ok.each d hd
   ·exact hl d hd
  ·rw [hcur];exact e3
  ·have hb : g' = b := hb;rcases hgg with q | q
   ·exact .inl (q.symm.trans hb)
   ·exact .inr (by omega)
  ·show g' ≠ b;rcases hgg with q | q
   ·rw [q];exact M.sep i k f _ b hik hf kk hm
   ·have := (Ent.mut_lt (M.at_ i f hf) hm).2;omega
  ·have q : j = g := Option.some.inj (show some j = some g from q);omega
theorem rx_range {base : Nat} {L : List Ent} {w : World} {k sz c g j : Nat} {ety : TypeId} {es : List (List Fld)} {zs : List Value} {d : List Fld} (M : Mem base L w) (kk : L[k]? = some (.box g (flatV es ++ zs) ety)) (ok : RxOk sz c es zs) (hd : es[j]? = some d) : w.rangeAt g (0 + j * sz) (d.map Fld.val) := fun q v hv => by
 obtain ⟨kb, _⟩ := M.box kk;have h1 := flatVx_at es j d ok.each hd q v hv;rw [Nat.zero_add, kb.cell (j * sz + q)];rw [List.getElem?_toArray, List.getElem?_append_left (List.getElem?_eq_some_iff.1 h1).1];exact h1
theorem rx_lies {base : Nat} {L : List Ent} {w : World} {k sz c g : Nat} {ety : TypeId} {es : List (List Fld)} {zs : List Value} (M : Mem base L w) (kk : L[k]? = some (.box g (flatV es ++ zs) ety)) (ok : RxOk sz c es zs) (h0 : 0 < sz) (hl : ∀ d ∈ es, lieAll 0 w d) : (Fld.l (some ⟨g, 0, none⟩) c es).lies 0 w := by
 obtain ⟨kb, _⟩ := M.box kk;refine ⟨ok.fits h0, ok.most, .inr ⟨g, 0, rfl, Nat.zero_le _, kb.lt, rowsLie_of es 0 hl fun j v hv => ?_⟩⟩;rw [Nat.zero_add, kb.cell j, List.getElem?_toArray, List.getElem?_append_left (List.getElem?_eq_some_iff.1 hv).1];exact hv
theorem run_build0 {P : Program} (w : World) {t e : TypeId} {ie : TypeInfo} (hu : P.underlying t = some (.slice e)) (hie : P.info? e = some ie) : (Instr.buildSlice t 0 #[]).run P w = .ok (.slice (some ⟨w.heap.size, 0, none⟩) 0 0) (w.alloc (.cells #[] e)) := by
 have e0 : ∀ f : Nat → Value, (Array.range 0).map f = #[] := fun f => Array.eq_empty_of_size_eq_zero (by simp);simp [Instr.buildSlice, run_underlying hu, sizeOf, typeInfo, hie, Instr.fill, newRow];rw [e0]
section
variable {ops : Array Oper} {Q : Exit → Act → World → Prop} {a : Act} {w w' w0 : World} {rest : List Oper} {o : Oper} {N : Nat} {L : List (Nat × Value)}
variable {σ : Type} {X : σ → World → Prop} {T : Nat → Prop} {E : List Ent} {s : σ}
theorem sw_new0 (F : Fm N L a) (M : Mm X T w0 E s w) {i : Nat} {ty ety : TypeId} (h : Is o (some i) (.buildSlice ty 0 #[])) (hu : Tryz.prog.underlying ty = some (.slice ety)) (hi : (Tryz.prog.info? ety).isSome = true) (hb : Nat.blt i N = true) (K : ∀ x a' w', Fm N ((i, .slice (some ⟨x, 0, none⟩) 0 0) :: L) a' → Mm X T w0 (.box x [] ety :: E) s w' → wpList Tryz.prog ops Q rest a' w') : wpList Tryz.prog ops Q (o :: rest) a w := by
 obtain ⟨ie, hie⟩ := Option.isSome_iff_exists.1 hi;refine wpList_plain h.2.2 fun KK hK => ?_;unfold Oper.wp execOp;rw [h.2.1];simp only [Array.map_empty, List.map_toArray, List.map_nil, Sem.run_bind, run_build0 w hu hie, Result.andThen_ok, Sem.run_pure];refine hK _ _ ?_;rw [h.1];exact K w.heap.size _ _ (F.put hb) (M.own ((Below.refl _ _).alloc M.mem.le _) (M.mem.new [] ety))
theorem sw_appX (F : Fm N L a) (M : Mm X T w0 E s w) (k : Nat) {i sz c c2 g n m : Nat} {ty ety : TypeId} {x xs : Operand} {z : Value} {es gss : List (List Fld)} {zs : List Value} {ad : Addr} (h2 : Is o (some i) (.call { callee := .builtin .append, args := #[xs, x], argTypes := #[ty, ty] })) (ht : o.type = ty) (kk : E[k]? = some (.box g (flatV es ++ zs) ety)) (ok : RxOk sz c es zs)
  (hx : opv L x = some (.slice (some ad) m c2)) (hs : opv L xs = some (.slice (some ⟨g, 0, none⟩) n c)) (hn : n = es.length) (hm : m = gss.length) (hu : Tryz.prog.underlying ty = some (.slice ety)) (hi : (Tryz.prog.info? ety).map (fun i => (i.zero, i.size, decide (i.bytes ≤ 1000))) = some (some z, sz, true)) (hzs : z.cells.size = sz) (h0 : Nat.blt 0 sz = true)
  (src : ∀ j u, (flatV gss)[j]? = some u → w.cell? (ad.add j) = some u) (hl : ∀ d ∈ gss, d.length = sz) (hb9 : es.length + gss.length ≤ 100000000000) (hb : Nat.blt i N = true)
  (K : ∀ g' c' zs' a' w', RxOk sz c' (es ++ gss) zs' → Fm N ((i, .slice (some ⟨g', 0, none⟩) (es ++ gss).length c') :: L) a' → Mm X T w0 (E.set k (.box g' (flatV (es ++ gss) ++ zs') ety)) s w' → wpList Tryz.prog ops Q rest a' w') : wpList Tryz.prog ops Q (o :: rest) a w := by
 subst hn hm;obtain ⟨g', c', zs', w', hrun, ok', M2, hbel⟩ := M.mem.appX (gss := gss) (ad := ad) (c2 := c2) kk ok hu hi hzs (by simpa [Nat.blt_eq] using h0) src hl hb9;refine wpList_append_run h2.2.2 xs x ty h2.2.1 _ _ _ w' (F.ev hs) (F.ev hx) (by rw [ht]; exact hrun) ?_;rw [h2.1];exact K g' c' zs' _ _ ok' (F.put hb) (M.own hbel M2)
theorem sw_copyX (F : Fm N L a) (M : Mm X T w0 E s w) (k : Nat) {i sz lc g n : Nat} {ty ety : TypeId} {x xs : Operand} {z : Value} {la : Option Addr} {gss : List (List Fld)} (h2 : Is o (some i) (.call { callee := .builtin .append, args := #[xs, x], argTypes := #[ty, ty] })) (ht : o.type = ty) (kk : E[k]? = some (.box g [] ety))
  (hx : opv L x = some (.slice la n lc)) (hs : opv L xs = some (.slice (some ⟨g, 0, none⟩) 0 0)) (hn : n = gss.length) (hu : Tryz.prog.underlying ty = some (.slice ety)) (hi : (Tryz.prog.info? ety).map (fun i => (i.zero, i.size, decide (i.bytes ≤ 1000))) = some (some z, sz, true)) (hzs : z.cells.size = sz) (h0 : Nat.blt 0 sz = true)
  (hA : (Fld.l la lc gss).lies 0 w) (hl : ∀ d ∈ gss, d.length = sz) (hb9 : gss.length ≤ 100000000000) (hb : Nat.blt i N = true)
  (K : ∀ g' c' zs' a' w', RxOk sz c' gss zs' → Fm N ((i, .slice (some ⟨g', 0, none⟩) gss.length c') :: L) a' → Mm X T w0 (E.set k (.box g' (flatV gss ++ zs') ety)) s w' → wpList Tryz.prog ops Q rest a' w') : wpList Tryz.prog ops Q (o :: rest) a w := by
 subst hn;rcases hA.2.2 with q | ⟨rb, ro, rfl, _, _, q⟩
 ·subst q;obtain ⟨ii, ii1, ii2, ii3, ii4⟩ := info_parts3 hi;refine wpList_append_run h2.2.2 xs x ty h2.2.1 (.slice (some ⟨g, 0, none⟩) 0 0) (.slice la 0 lc) (.slice (some ⟨g, 0, none⟩) 0 0) w (F.ev hs) (F.ev hx) (by rw [ht]; exact run_app0 hu (by rw [ii1]; rfl) (Nat.le_refl _)) ?_;rw [h2.1];refine K g 0 [] _ _ (RxOk.zero sz) (F.put hb) ?_
  have e : E.set k (.box g (flatV [] ++ []) ety) = E := by
   obtain ⟨hkl, hke⟩ := List.getElem?_eq_some_iff.1 kk;show E.set k (.box g [] ety) = E;rw [← hke];exact List.set_getElem_self hkl
  rw [e];exact M
 ·obtain ⟨s1, _⟩ := rowsLie_src q;refine sw_appX F M k (es := []) (zs := []) (gss := gss) h2 ht kk (RxOk.zero sz) hx hs rfl rfl hu hi hzs h0 (fun q u hq => ?_) hl (by simpa using hb9) hb fun g' c' zs' a' w' ok F' M' => K g' c' zs' a' w' ok F' M';have e0 : (⟨rb, ro, none⟩ : Addr).add q = ⟨rb, ro + q, none⟩ := by simp [Addr.add]
  rw [e0];exact s1 q u hq
theorem sw_mkX (F : Fm N L a) (M : Mm X T w0 E s w) (d : List Fld) {i sz : Nat} {ty ety : TypeId} {y : Operand} {z : Value} (h : Is o (some i) (.buildSlice ty 1 #[(0, y)])) (hv : opv L y = some (.agg (d.map Fld.val).toArray)) (hu : Tryz.prog.underlying ty = some (.slice ety)) (hi : (Tryz.prog.info? ety).map (fun i => (i.zero, i.size, decide (i.bytes ≤ 1000))) = some (some z, sz, true)) (h0 : (Nat.blt 0 sz && Nat.ble sz 1000) = true)
  (hf : Instr.fill (fun i => some (i * sz, sz)) ((Array.range (1 * sz)).map (z.cells[· % z.cells.size]!)) [(0, .agg (d.map Fld.val).toArray)] = some (d.map Fld.val).toArray) (hd : d.length = sz) (hb : Nat.blt i N = true)
  (K : ∀ x a' w', RxOk sz 1 [d] [] → Fm N ((i, .slice (some ⟨x, 0, none⟩) 1 1) :: L) a' → Mm X T w0 (.box x (flatV [d] ++ []) ety :: E) s w' → wpList Tryz.prog ops Q rest a' w') : wpList Tryz.prog ops Q (o :: rest) a w := by
 obtain ⟨ii, ii1, ii2, ii3, ii4⟩ := info_parts3 hi;rw [Bool.and_eq_true] at h0;have g1 : 0 < sz := by simpa [Nat.blt_eq] using h0.1
 have g2 : sz ≤ 1000 := by simpa [Nat.ble_eq] using h0.2
 refine wpList_buildSlice h.2.2 ty ety 1 _ h.2.1 (d.map Fld.val).toArray ii z hu ii1 ii2 (by rw [ii3]; omega) (by rw [ii3]; omega) ?_ ?_
 ·have e : ((#[(0, y)] : Array (Nat × Operand)).map fun (i, x) => (i, a.eval x)).toList = [(0, .agg (d.map Fld.val).toArray)] := by
   simp [F.ev hv]
  rw [e, ii3];exact hf
 ·rw [h.1];have e : flatV [d] ++ [] = d.map Fld.val := by simp [flatV]
  refine K w.heap.size _ _ ⟨by rw [e, List.length_map, hd, Nat.one_mul], (fun x hx => by rw [List.mem_singleton.1 hx]; exact hd), by unfold maxLen; omega⟩ (F.put hb) ?_;rw [e];exact M.own ((Below.refl _ _).alloc M.mem.le _) (M.mem.new _ ety)
theorem sw_putX (F : Fm N L a) (M : Mm X T w0 E s w) (k : Nat) {t : TypeId} {x y : Operand} {sz c g n j : Nat} {ety : TypeId} {es : List (List Fld)} {zs : List Value} {d d' : List Fld} (h : Is o none (.store t x y)) (kk : E[k]? = some (.box g (flatV es ++ zs) ety)) (ok : RxOk sz c es zs) (hx : opv L x = some (.pointer (some ⟨g, n, none⟩))) (hy : opv L y = some (.agg (d'.map Fld.val).toArray)) (hj : es[j]? = some d) (hn : n = 0 + j * sz) (hd : d'.length = sz) (hi : (Tryz.prog.info? t).map (·.size) = some sz) (K : ∀ w', Mm X T w0 (E.set k (.box g (flatV (es.set j d') ++ zs) ety)) s w' → wpList Tryz.prog ops Q rest a w') : wpList Tryz.prog ops Q (o :: rest) a w := by
 subst hn;obtain ⟨kb, hb⟩ := M.mem.box kk;have e : (Value.agg (d'.map Fld.val).toArray).cells.toList = d'.map Fld.val := by simp [Value.cells]
 have hjl := (List.getElem?_eq_some_iff.1 hj).1;have hsz : (Value.agg (d'.map Fld.val).toArray).cells.size = sz := by simp [Value.cells, hd]
 have hp := flat_put (zs := zs) ok.each hj hd;refine ol_store h.2.2 h.1 h.2.1 (F.ev hx) (F.ev hy) (v := .agg (d'.map Fld.val).toArray) ?_ ?_ ?_ ?_
 ·rw [hsz];refine kb.thereAt _ _ ?_;have := flatV_len ok.each;have h1 : (j + 1) * sz ≤ es.length * sz := Nat.mul_le_mul_right sz hjl;rw [Nat.add_mul] at h1;simp only [List.size_toArray, List.length_append];omega
 ·rw [hi, hsz]
 ·intro u hu;rw [e] at hu;exact List.all_eq_true.1 (fldv_one d') u hu
 ·rw [e];have hbc := but_cells g (d'.map Fld.val) (0 + j * sz) w;refine K _ (M.own (hbc.below M.mem.le fun k q => by rw [q]; exact hb) (M.mem.upd kk hbc.size ⟨hb, ?_⟩ (fun i hi hm => hbc.block i hi fun q => hm q.symm) (fun b q => .inl q) fun i f b hi hf hm => M.mem.sep i k f (.box g (flatV es ++ zs) ety) b hi hf kk hm));have := kb.putCells (d'.map Fld.val) (0 + j * sz) w _;rw [← hp];exact this
end
end Go.Proofs.YthhpkjmhcolgfaaGreatDoor
