import Derived.Test.YthhpkjmhcolgfaaGreatDoorSRpar
namespace Go.Proofs.YthhpkjmhcolgfaaGreatDoor
open Go.RowKit
set_option linter.unusedVariables false
set_option linter.unusedSimpArgs false
set_option maxRecDepth 20000
set_option maxHeartbeats 8000000
def Bx (w0 : World) : Unit → World → Prop := fun _ u => Below w0.heap.size w0 u
theorem bx_begin {w0 w : World} (h : Bx w0 () w) : Mm (Bx w0) (fun _ => False) w [] () w :=
 Mm.begin h (fun _ q => q.elim) fun s u u' hb x => x.trans (hb.mono (by have := h.size; omega))
theorem pv_i {f : Fld} {n : Int} (h : f.pv = .i n) : f = .i n := by
 cases f with
 | i m => injection h with h; rw [h]
 | d m => cases h
 | b m => cases h
 | s m => cases h
 | l a c e => cases h
theorem pv_s {f : Fld} {n : Key} (h : f.pv = .s n) : f = .s n := by
 cases f with
 | s m => injection h with h; rw [h]
 | d m => cases h
 | b m => cases h
 | i m => cases h
 | l a c e => cases h
theorem pv_b {f : Fld} {n : Bool} (h : f.pv = .b n) : f = .b n := by
 cases f with
 | b m => injection h with h; rw [h]
 | d m => cases h
 | s m => cases h
 | i m => cases h
 | l a c e => cases h
theorem pv_l {f : Fld} {n : List EV} (h : f.pv = .l n) : ∃ la lc es, f = .l la lc es ∧ pvRows es = n := by
 cases f with
 | l a c e => injection h with h; exact ⟨a, c, e, rfl, h⟩
 | d m => cases h
 | s m => cases h
 | i m => cases h
 | b m => cases h
theorem pv_nil {fs : List Fld} (h : pvAll fs = []) : fs = [] := by
 cases fs with
 | nil => rfl
 | cons f r => cases h
theorem pv_cons {fs : List Fld} {x : Pv} {r : EV} (h : pvAll fs = x :: r) : ∃ f gs, fs = f :: gs ∧ f.pv = x ∧ pvAll gs = r := by
 cases fs with
 | nil => cases h
 | cons f gs => injection h with h1 h2; exact ⟨f, gs, rfl, h1, h2⟩
theorem inv_P {fs : List Fld} {s : Key} {k : Int} (h : pvAll fs = [.s s, .i k]) : fs = [.s s, .i k] := by
 obtain ⟨f1, g1, rfl, h1, h⟩ := pv_cons h;obtain ⟨f2, g2, rfl, h2, h⟩ := pv_cons h;rw [pv_s h1, pv_i h2, pv_nil h]
theorem inv_T {fs : List Fld} {s : Key} {k j : Int} (h : pvAll fs = [.s s, .i k, .i j]) : fs = [.s s, .i k, .i j] := by
 obtain ⟨f1, g1, rfl, h1, h⟩ := pv_cons h;obtain ⟨f2, g2, rfl, h2, h⟩ := pv_cons h;obtain ⟨f3, g3, rfl, h3, h⟩ := pv_cons h;rw [pv_s h1, pv_i h2, pv_i h3, pv_nil h]
theorem inv_E {fs : List Fld} {op n : Int} {s : Key} {es : List EV} (h : pvAll fs = exP op n s es) : ∃ la lc gs, fs = [.i op, .i n, .s s, .l la lc gs] ∧ pvRows gs = es := by
 obtain ⟨f1, g1, rfl, h1, h⟩ := pv_cons h;obtain ⟨f2, g2, rfl, h2, h⟩ := pv_cons h;obtain ⟨f3, g3, rfl, h3, h⟩ := pv_cons h;obtain ⟨f4, g4, rfl, h4, h⟩ := pv_cons h;obtain ⟨la, lc, gs, q1, q2⟩ := pv_l h4;exact ⟨la, lc, gs, by rw [pv_i h1, pv_i h2, pv_s h3, q1, pv_nil h], q2⟩
theorem inv_S {fs : List Fld} {k ty : Int} {nm al ca : Key} {es bs ls : List EV} (h : pvAll fs = stP k nm al ca ty es bs ls) : ∃ ea ec e ba bc b la lc l, fs = [.i k, .s nm, .s al, .s ca, .i ty, .l ea ec e, .l ba bc b, .l la lc l] ∧ pvRows e = es ∧ pvRows b = bs ∧ pvRows l = ls := by
 obtain ⟨f1, g1, rfl, h1, h⟩ := pv_cons h;obtain ⟨f2, g2, rfl, h2, h⟩ := pv_cons h;obtain ⟨f3, g3, rfl, h3, h⟩ := pv_cons h;obtain ⟨f4, g4, rfl, h4, h⟩ := pv_cons h;obtain ⟨f5, g5, rfl, h5, h⟩ := pv_cons h;obtain ⟨f6, g6, rfl, h6, h⟩ := pv_cons h;obtain ⟨f7, g7, rfl, h7, h⟩ := pv_cons h;obtain ⟨f8, g8, rfl, h8, h⟩ := pv_cons h;obtain ⟨ea, ec, e, q1, q2⟩ := pv_l h6;obtain ⟨ba, bc, b, q3, q4⟩ := pv_l h7;obtain ⟨la, lc, l, q5, q6⟩ := pv_l h8;exact ⟨ea, ec, e, ba, bc, b, la, lc, l, by rw [pv_i h1, pv_s h2, pv_s h3, pv_s h4, pv_i h5, q1, q3, q5, pv_nil h], q2, q4, q6⟩
theorem inv_F {fs : List Fld} {s : Key} {o : Bool} {ps : List EV} {k : Int} {b : List EV} (h : pvAll fs = fnP s o ps k b) : ∃ pa pc p ba bc l, fs = [.s s, .b o, .l pa pc p, .i k, .l ba bc l] ∧ pvRows p = ps ∧ pvRows l = b := by
 obtain ⟨f1, g1, rfl, h1, h⟩ := pv_cons h;obtain ⟨f2, g2, rfl, h2, h⟩ := pv_cons h;obtain ⟨f3, g3, rfl, h3, h⟩ := pv_cons h;obtain ⟨f4, g4, rfl, h4, h⟩ := pv_cons h;obtain ⟨f5, g5, rfl, h5, h⟩ := pv_cons h;obtain ⟨pa, pc, p, q1, q2⟩ := pv_l h3;obtain ⟨ba, bc, l, q3, q4⟩ := pv_l h5;exact ⟨pa, pc, p, ba, bc, l, by rw [pv_s h1, pv_b h2, q1, pv_i h4, q3, pv_nil h], q2, q4⟩
theorem lie_max {lo : Nat} {w : World} {la : Option Addr} {lc : Nat} {es : List (List Fld)} (h : (Fld.l la lc es).lies lo w) : (es.length : Int) ≤ 9223372036854775807 := by
 have h1 := h.1;have h2 := h.2.1;unfold maxLen at h2;omega
theorem el_at {lo sz : Nat} {w0 : World} {la : Option Addr} {lc : Nat} {es : List (List Fld)} (h : (Fld.l la lc es).lies lo w0) (hl : ∀ d ∈ es, d.length = sz) {k : Nat} (hk : k < es.length) : ∃ b o d, la = some ⟨b, o, none⟩ ∧ es[k]? = some d ∧ (∀ w, Bx w0 () w → w.rangeAt b (o + k * sz) (d.map Fld.val)) ∧ lieAll lo w0 d ∧ pvAll d ∈ pvRows es := by
 have hd : es[k]? = some es[k] := List.getElem?_eq_getElem hk
 have hla : ∃ b o, la = some ⟨b, o, none⟩ ∧ rowsLie lo w0 b o es := by
  rcases h.2.2 with q | ⟨rb, ro, e, _, _, q⟩
  ·rw [q] at hk; cases hk
  ·exact ⟨rb, ro, e, q⟩
 obtain ⟨b, o, rfl, hr⟩ := hla;refine ⟨b, o, _, rfl, hd, fun w hw => ?_, (rowsLie_src hr).2 _ (List.getElem_mem hk), ?_⟩
 ·exact lie_range sz (lo := lo) (w := w) (lc := lc) (es := es) (Fld.lies_hi (Hi.of_below hw) _ h) hl hd
 ·rw [pvRows_map];exact List.mem_map.2 ⟨_, List.getElem_mem hk, rfl⟩
theorem sz_of {es : List (List Fld)} {n : Nat} (h : ∀ x ∈ pvRows es, x.length = n) : ∀ d ∈ es, d.length = n := fun d hd => by
 rw [← pvAll_len];exact h _ (by rw [pvRows_map]; exact List.mem_map.2 ⟨d, hd, rfl⟩)
section
variable {ops : Array Oper} {Q : Exit → Act → World → Prop} {a : Act} {w w' : World} {rest : List Oper} {o : Oper} {N : Nat} {L : List (Nat × Value)} {i t u : Nat} {x y : Operand}
end
section
variable {P : Program} {md : Region.Mode} {ops : Array Oper} {Q : Exit → Act → World → Prop} {S : World → Prop} {a : Act} {w w0 : World} {o : Oper} {N : Nat} {L : List (Nat × Value)} {fuel : Nat} {listed : Array Bool} {rest : List Oper} {i t u : Nat} {x y : Operand}
theorem sd_rng (F : Fm N L a) (i : Nat) {d : Nat} {t : TypeId} {x : Operand} {b n : Nat} {cs : List Value} (hi : ops[i]? = some o) (h : Is o (some d) (.load t x)) (hv : opv L x = some (.pointer (some ⟨b, n, none⟩))) (ht : rowT P t = true) (hz : (P.info? t).map (·.size) = some cs.length) (hc : ∀ w, S w → w.rangeAt b n cs) (hs : Region.noSelect ops = true) (hf : Region.free md ops listed i = true) (hr : (Region.ready md ops listed).contains i = true) (hQ : ∀ c a w, Q (.panic c) (a.put (some d) (.agg cs.toArray)) w → Q (.panic c) a w)
  (hb : Nat.blt d N = true) (hS : S w) (K : ∀ a', Fm N ((d, .agg cs.toArray) :: L) a' → wpAnyH P md ops Q S fuel (listed.setIfInBounds i true) a' w) : wpAnyH P md ops Q S (fuel + 1) listed a w := by
 obtain ⟨ds, hu, hd⟩ := rowT_out ht
 exact sd_val F i hi hs hf hr hQ h.1 h.2.2 hb (fun w hw => by
  unfold execOp;rw [h.2.1];have hld := run_loadVar_mid (P := P) w b n t cs ds (hc w hw) hu hd hz
  simp [F.ev hv, Instr.loadAt, Instr.sureAddr, hld]) hS K
end
def prC (p : PS) : List Value := [.string (str p.tx), .int .i64 p.lv, .int .i64 p.mx, .bool p.od, .bool p.fr]
def PrX (b : Nat) (w0 : World) (p : PS) (w : World) : Prop := Blk w b (prC p).toArray 61 ∧ Bx w0 () w ∧ w0.heap.size ≤ b
theorem pr_begin {b : Nat} {w0 w : World} {p : PS} (R : PrX b w0 p w) : Mm (PrX b w0) (fun k => k = b) w [] p w :=
 Mm.begin R (fun k q => by subst q; exact R.1.lt) fun s u u' hb x => ⟨by
  have hl := R.1.lt;have q := x.1
  unfold Blk at *
  rw [hb.block b hl]
  exact q, x.2.1.trans (hb.mono R.2.1.size), x.2.2⟩
theorem PrX.set {b : Nat} {w0 w w' : World} {p p' : PS} (R : PrX b w0 p w) (B : But (fun k => k = b) w w') (kb : Blk w' b (prC p').toArray 61) : PrX b w0 p' w' :=
 ⟨kb, R.2.1.trans (B.below R.2.1.size fun k q => by rw [q]; exact R.2.2), R.2.2⟩
def PrM (b : Nat) (w0 : World) (f : FuncId) (vs : List Value) (l : List PEv) : Prop := ∀ p, Fit p l → Meth Tryz.prog (PrX b w0) (fun k => k = b) f vs p (fun _ _ p' => p' = p.run l)
theorem str_app (s t : Key) : str s ++ str t = str (s ++ t) := by
 apply ByteArray.ext;rw [ByteArray.data_append];simp [str]
section
variable {P : Program} {ops : Array Oper} {Q : Exit → Act → World → Prop} {a : Act} {w : World} {rest : List Oper} {o : Oper} {N : Nat} {L : List (Nat × Value)} {i t u : Nat} {x y : Operand}
theorem sw_sadd {s r : Key} (F : Fm N L a) (h : Is o (some i) (.binOp .add t x y u)) (h1 : opv L x = some (.string (str s))) (h2 : opv L y = some (.string (str r))) (hb : s.length + r.length ≤ 4611686018427387904) (hi : Nat.blt i N = true) (K : ∀ a', Fm N ((i, .string (str (s ++ r))) :: L) a' → wpList P ops Q rest a' w) : wpList P ops Q (o :: rest) a w :=
 sw_val F h.1 h.2.2 hi (by
  have z1 := str_size s;have z2 := str_size r;have hm : IntKind.i64.max = 9223372036854775807 := rfl;have hle : ¬ ((((str s).size + (str r).size : Nat) : Int) > IntKind.i64.max) := by rw [z1, z2, hm]; omega
  unfold execOp; rw [h.2.1];simp [F.ev h1, F.ev h2, eqGuard, binOp, Op.stringOp, str_app]
  simpa using hle) K
theorem sw_sne {s r : Key} (F : Fm N L a) (h : Is o (some i) (.binOp .neq t x y u)) (h1 : opv L x = some (.string (str s))) (h2 : opv L y = some (.string (str r))) (hi : Nat.blt i N = true) (K : ∀ a', Fm N ((i, .bool (!(s == r))) :: L) a' → wpList P ops Q rest a' w) : wpList P ops Q (o :: rest) a w :=
 sw_val F h.1 h.2.2 hi (by
  unfold execOp; rw [h.2.1]; simp [F.ev h1, F.ev h2, eqGuard_at_string, binOp, Op.stringOp, str_toList]) K
theorem sw_sub {m n : Int} (F : Fm N L a) (h : Is o (some i) (.binOp .sub t x y u)) (h1 : opv L x = some (.int .i64 m)) (h2 : opv L y = some (.int .i64 n)) (hb : -9223372036854775808 ≤ m - n ∧ m - n ≤ 9223372036854775807) (hi : Nat.blt i N = true) (K : ∀ a', Fm N ((i, .int .i64 (m - n)) :: L) a' → wpList P ops Q rest a' w) : wpList P ops Q (o :: rest) a w :=
 sw_subw F h h1 h2 hi fun a' F' => K a' (by rw [wrapJ _ hb.1 hb.2] at F'; exact F')
theorem sd_gtr {md : Region.Mode} {S : World → Prop} {fuel : Nat} {listed : Array Bool} {k : IntKind} {m n : Int} (F : Fm N L a) (j : Nat) (hj : ops[j]? = some o) (h : Is o (some i) (.binOp .gtr t x y u)) (h1 : opv L x = some (.int k m)) (h2 : opv L y = some (.int k n)) (hs : Region.noSelect ops = true) (hf : Region.free md ops listed j = true) (hr : (Region.ready md ops listed).contains j = true) (hQ : ∀ c a w, Q (.panic c) (a.put (some i) (.bool (decide (n < m)))) w → Q (.panic c) a w)
  (hi : Nat.blt i N = true) (hS : S w) (K : ∀ a', Fm N ((i, .bool (decide (n < m))) :: L) a' → wpAnyH P md ops Q S fuel (listed.setIfInBounds j true) a' w) : wpAnyH P md ops Q S (fuel + 1) listed a w :=
 sd_val F j hj hs hf hr hQ h.1 h.2.2 hi (fun w _ => by
  unfold execOp;rw [h.2.1]
  simp [F.ev h1, F.ev h2, eqGuard_at_int, binOp_gtr]) hS K
end
theorem Fit.swap {p : PS} {a b : List PEv} (h : Fit p (a ++ b)) : Fit p (b ++ a) := by
 unfold Fit at *
 rw [wtV_app] at *
 rw [Nat.add_comm];exact h
theorem up_is (p : PS) : p.run upV = { p with lv := p.lv + 1, mx := max p.mx (p.lv + 1) } := rfl
theorem opt_ne {s : Key} (h : s ≠ []) : optV s = tkn s := if_neg h
theorem opt_nil {s : Key} (h : s = []) : optV s = [] := if_pos h
theorem PrX.drew {b : Nat} {w0 w : World} {p : PS} (R : PrX b w0 p w) : PrX b w0 p w.drew := ⟨R.1.drew, R.2.1.trans ((Below.refl _ _).drew), R.2.2⟩
theorem rput_m (s : Key) (b : Nat) (w0 : World) : PrM b w0 23 [ptr b, .string (str s)] (tkn s) := by
 intro p ft;refine ⟨by kernel_rfl, fun wO R _ => ?_⟩;have M := pr_begin R;refine sw_fn Tryz.func23 rfl 26 Tryz.ntmps23 rfl fun A F => ?_;refine sq (sq (rg ?_));refine mv F fun A F=>?_;refine ni F fun A F=>?_;refine fl F 0 fun A F=>?_;refine sw_ext F ((M.st.1.cell 0).trans rfl) ⟨rfl, rfl, rfl⟩ rfl (by kernel_rfl) rfl fun A F => ?_;refine sw_sne F ⟨rfl, rfl, rfl⟩ rfl rfl rfl fun A F => ?_;refine en (cd F (fun hc1=>?_) fun hc1=>?_)
 ·have ht : p.tx ≠ [] := by simpa using hc1
  refine rg ?_;refine mv F fun A F=>?_;refine mv F fun A F=>?_;refine ni F fun A F=>?_;refine fl F 0 fun A F=>?_;refine sw_ext F ((M.st.1.cell 0).trans rfl) ⟨rfl, rfl, rfl⟩ rfl (by kernel_rfl) rfl fun A F => ?_;refine sw_sadd F ⟨rfl, rfl, rfl⟩ rfl rfl (by have h1 := ft.1; have h2 : wtV (tkn s) = s.length + 1 := (by simp [wtV, wtE, tkn]); (try simp only [List.length_append, List.length_cons, List.length_nil]); omega) rfl fun A F => ?_;refine ni F fun A F=>?_;refine fl F 0 fun A F=>?_;refine sw_setX1 F ⟨rfl, rfl, rfl⟩ rfl rfl M.st.1 (by kernel_rfl) rfl rfl rfl fun w B kb => ?_;replace M := M.unit (s' := (⟨(p.tx ++ [32]), p.lv, p.mx, p.fr, p.od⟩ : PS)) B (M.st.set B kb);refine en (rg ?_);refine mv F fun A F=>?_;refine mv F fun A F=>?_;refine ni F fun A F=>?_;refine fl F 0 fun A F=>?_;refine sw_ext F ((M.st.1.cell 0).trans rfl) ⟨rfl, rfl, rfl⟩ rfl (by kernel_rfl) rfl fun A F => ?_;refine mv F fun A F=>?_;refine sw_sadd F ⟨rfl, rfl, rfl⟩ rfl rfl (by have h1 := ft.1; have h2 : wtV (tkn s) = s.length + 1 := (by simp [wtV, wtE, tkn]); (try simp only [List.length_append, List.length_cons, List.length_nil]); omega) rfl fun A F => ?_;refine ni F fun A F=>?_;refine fl F 0 fun A F=>?_;refine sw_setX1 F ⟨rfl, rfl, rfl⟩ rfl rfl M.st.1 (by kernel_rfl) rfl rfl rfl fun w B kb => ?_;replace M := M.unit (s' := (⟨((p.tx ++ [32]) ++ s), p.lv, p.mx, p.fr, p.od⟩ : PS)) B (M.st.set B kb);refine sw_end ?_;repeat first|refine tn ?_|refine bn ?_
  exact sw_endnone F Tryz.results23 (ze M (by show (⟨_, _, _, _, _⟩ : PS) = { p with tx := sayK p.tx s }; rw [sayK, if_neg ht]))
 have ht : p.tx = [] := by simpa using hc1
 refine wp_skip (rg ?_);refine mv F fun A F=>?_;refine mv F fun A F=>?_;refine ni F fun A F=>?_;refine fl F 0 fun A F=>?_;refine sw_ext F ((M.st.1.cell 0).trans rfl) ⟨rfl, rfl, rfl⟩ rfl (by kernel_rfl) rfl fun A F => ?_;refine mv F fun A F=>?_;refine sw_sadd F ⟨rfl, rfl, rfl⟩ rfl rfl (by have h1 := ft.1; have h2 : wtV (tkn s) = s.length + 1 := (by simp [wtV, wtE, tkn]); (try simp only [List.length_append, List.length_cons, List.length_nil]); omega) rfl fun A F => ?_;refine ni F fun A F=>?_;refine fl F 0 fun A F=>?_;refine sw_setX1 F ⟨rfl, rfl, rfl⟩ rfl rfl M.st.1 (by kernel_rfl) rfl rfl rfl fun w B kb => ?_;replace M := M.unit (s' := (⟨(p.tx ++ s), p.lv, p.mx, p.fr, p.od⟩ : PS)) B (M.st.set B kb);refine sw_end ?_;repeat first|refine tn ?_|refine bn ?_
 exact sw_endnone F Tryz.results23 (ze M (by show (⟨_, _, _, _, _⟩ : PS) = { p with tx := sayK p.tx s }; rw [sayK, if_pos ht, ht]))
theorem ropn_m (s : Key) (b : Nat) (w0 : World) : PrM b w0 91 [ptr b, .string (str s)] (upV ++ optV s) := by
 intro p ft;have hb0 : Rm p 0 := Rm.less ft (Nat.zero_le _);obtain ⟨_, hb1, hb2, hb3, hb4⟩ := hb0;refine ⟨by kernel_rfl, fun wO R _ => ?_⟩;have M := pr_begin R;refine sw_fn Tryz.func91 rfl 32 Tryz.ntmps91 rfl fun A F => ?_;refine sq (rg ?_);refine mv F fun A F=>?_;refine ni F fun A F=>?_;refine fl F 1 fun A F=>?_;refine sw_ext F ((M.st.1.cell 1).trans rfl) ⟨rfl, rfl, rfl⟩ rfl (by kernel_rfl) rfl fun A F => ?_;refine sw_add F ⟨rfl, rfl, rfl⟩ rfl rfl (by omega) rfl fun A F => ?_;refine ni F fun A F=>?_;refine fl F 1 fun A F=>?_;refine sw_setX1 F ⟨rfl, rfl, rfl⟩ rfl rfl M.st.1 (by kernel_rfl) rfl rfl rfl fun w B kb => ?_;replace M := M.unit (s' := (⟨p.tx, (p.lv + 1), p.mx, p.fr, p.od⟩ : PS)) B (M.st.set B kb);refine en (sq (sq ?_));refine wp_region_held (S := fun w' => w'.cell? ⟨b, 1, none⟩ = some (.int .i64 (p.lv + 1)) ∧ w'.cell? ⟨b, 2, none⟩ = some (.int .i64 p.mx)) (by kernel_rfl) ?_;show wpAnyH _ _ _ _ _ _ _ _ w.drew;replace M := M.drew;have hS : w.drew.cell? ⟨b, 1, none⟩ = some (.int .i64 (p.lv + 1)) ∧ w.drew.cell? ⟨b, 2, none⟩ = some (.int .i64 p.mx) := ⟨(M.st.1.cell 1).trans rfl, (M.st.1.cell 2).trans rfl⟩;refine dm F 0 hS fun A F=>?_;refine sd_nil F 1 rfl ⟨rfl, rfl, rfl⟩ rfl (by kernel_rfl) (by kernel_rfl) (by kernel_rfl) (fun _ _ _ h => h) rfl hS fun A F => ?_;refine df F 2 1 hS fun A F=>?_;refine dc F 3 (fun _ h => h.1) hS fun A F=>?_;refine dm F 4 hS fun A F=>?_;refine sd_nil F 5 rfl ⟨rfl, rfl, rfl⟩ rfl (by kernel_rfl) (by kernel_rfl) (by kernel_rfl) (fun _ _ _ h => h) rfl hS fun A F => ?_;refine df F 6 2 hS fun A F=>?_;refine dc F 7 (fun _ h => h.2) hS fun A F=>?_;refine sd_gtr F 8 rfl ⟨rfl, rfl, rfl⟩ rfl rfl (by kernel_rfl) (by kernel_rfl) (by kernel_rfl) (fun _ _ _ h => h) rfl hS fun A F => ?_;clear hS;refine wpAnyH_done (by kernel_rfl) ?_ _;show Code.wp _ _ _ _ _;refine cd F (fun hc1=>?_) fun hc1=>?_
 ·replace hc1 := of_decide_eq_true hc1;refine rg ?_;refine mv F fun A F=>?_;refine mv F fun A F=>?_;refine ni F fun A F=>?_;refine fl F 1 fun A F=>?_;refine sw_ext F ((M.st.1.cell 1).trans rfl) ⟨rfl, rfl, rfl⟩ rfl (by kernel_rfl) rfl fun A F => ?_;refine ni F fun A F=>?_;refine fl F 2 fun A F=>?_;refine sw_setX1 F ⟨rfl, rfl, rfl⟩ rfl rfl M.st.1 (by kernel_rfl) rfl rfl rfl fun w B kb => ?_;replace M := M.unit (s' := (⟨p.tx, (p.lv + 1), (p.lv + 1), p.fr, p.od⟩ : PS)) B (M.st.set B kb);refine en (sq (rg ?_));refine mv F fun A F=>?_;refine sw_sne F ⟨rfl, rfl, rfl⟩ rfl rfl rfl fun A F => ?_;refine en (cd F (fun hc2=>?_) fun hc2=>?_)
  ·have hs : s ≠ [] := by simpa using hc2
   rw [show (⟨p.tx, p.lv + 1, p.lv + 1, p.fr, p.od⟩ : PS) = p.run upV by rw [up_is, show max p.mx (p.lv + 1) = (p.lv + 1) by omega]] at M;rw [opt_ne hs] at ft;have ft0 := ft;replace ft := ft.r;rw [show tkn s = tkn s ++ [] from (List.append_nil _).symm] at ft;refine rg ?_;refine mv F fun A F=>?_;refine mv F fun A F=>?_;refine sw_call0 (rput_m s b w0 (p.run upV) ft.l) F M ⟨rfl, rfl, rfl⟩ rfl rfl ?_;rintro _ _ A w ⟨_, rfl⟩ F M;replace ft := ft.r;refine sw_end ?_;repeat first|refine tn ?_|refine bn ?_
   exact sw_endnone F Tryz.results91 (ze M (by rw [opt_ne hs, PS.run_app]))
  have hs : s = [] := by simpa using hc2
  rw [show (⟨p.tx, p.lv + 1, p.lv + 1, p.fr, p.od⟩ : PS) = p.run upV by rw [up_is, show max p.mx (p.lv + 1) = (p.lv + 1) by omega]] at M;rw [opt_nil hs] at ft;have ft0 := ft;replace ft := ft.r;refine wp_skip ?_;repeat first|refine tn ?_|refine bn ?_
  exact sw_endnone F Tryz.results91 (ze M (by rw [opt_nil hs, PS.run_app]; rfl))
 replace hc1 := of_decide_eq_false hc1;refine wp_skip (sq (rg ?_));refine mv F fun A F=>?_;refine sw_sne F ⟨rfl, rfl, rfl⟩ rfl rfl rfl fun A F => ?_;refine en (cd F (fun hc3=>?_) fun hc3=>?_)
 ·have hs : s ≠ [] := by simpa using hc3
  rw [show (⟨p.tx, p.lv + 1, p.mx, p.fr, p.od⟩ : PS) = p.run upV by rw [up_is, show max p.mx (p.lv + 1) = p.mx by omega]] at M;rw [opt_ne hs] at ft;have ft0 := ft;replace ft := ft.r;rw [show tkn s = tkn s ++ [] from (List.append_nil _).symm] at ft;refine rg ?_;refine mv F fun A F=>?_;refine mv F fun A F=>?_;refine sw_call0 (rput_m s b w0 (p.run upV) ft.l) F M ⟨rfl, rfl, rfl⟩ rfl rfl ?_;rintro _ _ A w ⟨_, rfl⟩ F M;replace ft := ft.r;refine sw_end ?_;repeat first|refine tn ?_|refine bn ?_
  exact sw_endnone F Tryz.results91 (ze M (by rw [opt_ne hs, PS.run_app]))
 have hs : s = [] := by simpa using hc3
 rw [show (⟨p.tx, p.lv + 1, p.mx, p.fr, p.od⟩ : PS) = p.run upV by rw [up_is, show max p.mx (p.lv + 1) = p.mx by omega]] at M;rw [opt_nil hs] at ft;have ft0 := ft;replace ft := ft.r;refine wp_skip ?_;repeat first|refine tn ?_|refine bn ?_
 exact sw_endnone F Tryz.results91 (ze M (by rw [opt_nil hs, PS.run_app]; rfl))
theorem rsht_m (s : Key) (b : Nat) (w0 : World) : PrM b w0 93 [ptr b, .string (str s)] (optV s ++ downV) := by
 intro p ft;have hb0 : Rm p 0 := Rm.less ft (Nat.zero_le _);obtain ⟨_, hb1, hb2, hb3, hb4⟩ := hb0;refine ⟨by kernel_rfl, fun wO R _ => ?_⟩;have M := pr_begin R;refine sw_fn Tryz.func93 rfl 16 Tryz.ntmps93 rfl fun A F => ?_;refine sq (rg ?_);refine mv F fun A F=>?_;refine ni F fun A F=>?_;refine fl F 1 fun A F=>?_;refine sw_ext F ((M.st.1.cell 1).trans rfl) ⟨rfl, rfl, rfl⟩ rfl (by kernel_rfl) rfl fun A F => ?_;refine sw_sub F ⟨rfl, rfl, rfl⟩ rfl rfl (by omega) rfl fun A F => ?_;refine ni F fun A F=>?_;refine fl F 1 fun A F=>?_;refine sw_setX1 F ⟨rfl, rfl, rfl⟩ rfl rfl M.st.1 (by kernel_rfl) rfl rfl rfl fun w B kb => ?_;replace M := M.unit (s' := (⟨p.tx, (p.lv - 1), p.mx, p.fr, p.od⟩ : PS)) B (M.st.set B kb);refine en (sq (rg ?_));refine mv F fun A F=>?_;refine sw_sne F ⟨rfl, rfl, rfl⟩ rfl rfl rfl fun A F => ?_;refine en (cd F (fun hc1=>?_) fun hc1=>?_)
 ·have hs : s ≠ [] := by simpa using hc1
  rw [show (⟨p.tx, p.lv - 1, p.mx, p.fr, p.od⟩ : PS) = p.run downV from rfl] at M;rw [opt_ne hs] at ft;have ft0 := ft;replace ft := ft.swap.r;rw [show tkn s = tkn s ++ [] from (List.append_nil _).symm] at ft;refine rg ?_;refine mv F fun A F=>?_;refine mv F fun A F=>?_;refine sw_call0 (rput_m s b w0 (p.run downV) ft.l) F M ⟨rfl, rfl, rfl⟩ rfl rfl ?_;rintro _ _ A w ⟨_, rfl⟩ F M;replace ft := ft.r;refine sw_end ?_;repeat first|refine tn ?_|refine bn ?_
  exact sw_endnone F Tryz.results93 (ze M (by rw [opt_ne hs]; rfl))
 have hs : s = [] := by simpa using hc1
 rw [show (⟨p.tx, p.lv - 1, p.mx, p.fr, p.od⟩ : PS) = p.run downV from rfl] at M;rw [opt_nil hs] at ft;have ft0 := ft;replace ft := ft.swap.r;refine wp_skip ?_;repeat first|refine tn ?_|refine bn ?_
 exact sw_endnone F Tryz.results93 (ze M (by rw [opt_nil hs]; rfl))
theorem nm_empty {s : Key} (h : (s == []) = true) : nmB s = false := by
 have : s = [] := eq_of_beq h;subst this;rfl
theorem nm_long {s : Key} (h : 16 < s.length) : nmB s = false := by
 unfold nmB;rw [decide_eq_false (by omega : ¬ s.length ≤ 16)];simp
theorem nm_head {s : Key} {c : UInt8} (h : s[0]? = some c) (hl : isL c = false) : nmB s = false := by
 unfold nmB;rw [List.head?_eq_getElem?, h];simp [hl]
theorem nm_bad {s : Key} {c : UInt8} {k : Nat} (h : s[k]? = some c) (hg : goes c = false) : nmB s = false := by
 have : s.all goes = false := by
  rw [List.all_eq_false];exact ⟨c, List.mem_of_getElem? h, by rw [hg]; simp⟩
 unfold nmB;rw [this];simp
theorem nm_word {s : Key} {c : UInt8} (h0 : (s == []) = false) (h16 : ¬ (16 : Int) < s.length) (h : s[0]? = some c) (hl : isL c = true) (ha : s.all goes = true) : nmB s = !wordL.contains s := by
 unfold nmB;rw [List.head?_eq_getElem?, h, ha, decide_eq_true (by omega : s.length ≤ 16)]
 have : s.isEmpty = false := by
  cases s with
  | nil => simp at h0
  | cons a r => rfl
 rw [this];simp [hl]
theorem all_take {s : Key} {c : UInt8} {k : Nat} (h : s[k]? = some c) (hg : goes c = true) (ha : (s.take k).all goes = true) : (s.take (k + 1)).all goes = true := by
 rw [List.take_add_one, h, List.all_append, ha];simp [hg]
theorem Mm.after2 {σ : Type} {X : σ → World → Prop} {T : Nat → Prop} {w0 w w' : World} {E : List Ent} {s : σ} (M : Mm X T w0 E s w) (hb : Below w.heap.size w w') : Mm X T w0 E s w' := M.own (hb.mono M.mem.le) (M.mem.hi (Hi.of_below hb))
theorem rin_any (s : Key) (hlen : s.length ≤ 4611686018427387904) (wO : World) : Calls Tryz.prog 63 ([.string (str s)] : List Value).toArray wO fun e w' => e = .returned (.bool (nmB s)) ∧ Below wO.heap.size wO w' := by
 refine sw_fn Tryz.func63 rfl 34 Tryz.ntmps63 rfl fun A F => ?_;refine sq (rg ?_);refine as1 F fun A F=>?_;refine en (sq (sq (rg ?_)));refine mv F fun A F=>?_;refine sw_seq2 F ⟨rfl, rfl, rfl⟩ rfl rfl rfl fun A F => ?_;refine mv F fun A F=>?_
 cases c1 : (s == []) with
 | true =>
  rw [c1] at F;refine off3 F 2 2 2 fun A F=>?_;refine pkT F fun A F=>?_;refine mv F fun A F=>?_;refine off4 F 7 7 7 7 fun A F=>?_;refine pkT F fun A F=>?_;refine en (sw_true F rfl ?_);refine sq (rg ?_);refine as1 F fun A F=>?_;refine en (wp_ret ?_);repeat first|refine tr ?_|refine br ?_
  exact sw_rettmp F Tryz.results63 rfl ⟨by rw [nm_empty c1], Below.refl _ _⟩
 | false =>
  rw [c1] at F
  obtain ⟨c0, hc0⟩ : ∃ c, s[0]? = some c := by
   cases s with
   | nil => simp at c1
   | cons a r => exact ⟨a, rfl⟩
  refine on' F 2 ?_;refine mv F fun A F=>?_;refine on' F 2 ?_;refine sw_slen F ⟨rfl, rfl, rfl⟩ rfl Tryz.underlying9 rfl fun A F => ?_;refine on' F 2 ?_;refine gti F fun A F=>?_;refine pkF F fun A F=>?_;refine mv F fun A F=>?_
  cases c2 : (decide (16 < (s.length : Int))) with
  | true =>
   rw [c2] at F;replace c2 := of_decide_eq_true c2;refine off4 F 7 7 7 7 fun A F=>?_;refine pkT F fun A F=>?_;refine en (sw_true F rfl ?_);refine sq (rg ?_);refine as1 F fun A F=>?_;refine en (wp_ret ?_);repeat first|refine tr ?_|refine br ?_
   exact sw_rettmp F Tryz.results63 rfl ⟨by rw [nm_long (by omega)], Below.refl _ _⟩
  | false =>
   rw [c2] at F;replace c2 := of_decide_eq_false c2;refine on' F 7 ?_;refine mv F fun A F=>?_;refine on' F 7 ?_;refine sw_index (j := 0) F ⟨rfl, rfl, rfl⟩ rfl rfl hc0 Tryz.underlying9 rfl fun A F => ?_;refine on' F 7 ?_;refine sw_callR (by kernel_rfl) (rsmall_any c0 _) F ⟨rfl, rfl, rfl⟩ rfl rfl ?_;rintro e _ ⟨rfl, rfl⟩;refine ⟨_, rfl, fun A F => ?_⟩;refine on' F 7 ?_;refine sw_not F ⟨rfl, rfl, rfl⟩ rfl rfl fun A F => ?_;refine pkF F fun A F=>?_;refine en (cd F (fun hc3=>?_) fun hc3=>?_)
   ·have hl0 : isL c0 = false := by simpa using hc3
    refine sq (rg ?_);refine as1 F fun A F=>?_;refine en (wp_ret ?_);repeat first|refine tr ?_|refine br ?_
    exact sw_rettmp F Tryz.results63 rfl ⟨by rw [nm_head hc0 hl0], Below.refl _ _⟩
   have hl0 : isL c0 = true := by simpa using hc3
   refine wp_skip (sq (sq (rg ?_)));refine as1 F fun A F=>?_;refine en (wp_block ?_);refine wp_loop (fun A wv => wv = wO ∧ ∃ k : Nat, k ≤ s.length ∧ Fm 34 [(3, .int .i64 (k : Int)), (0, .string (str s))] A ∧ (s.take k).all goes = true) (fun A _ => s.length - (intOf (A.eval (.tmp 3))).toNat) ?_ ?_
   ·exact ⟨rfl, 0, Nat.zero_le _, F.keep [3, 0] rfl, rfl⟩
   rintro A wO ⟨rfl, k, hk, F, hall⟩;have hA3 : A.eval (.tmp 3) = .int .i64 (k : Int) := F.2.2 3 _ rfl;refine sq (sq (rg ?_));refine mv F fun A F=>?_;refine mv F fun A F=>?_;refine sw_slen F ⟨rfl, rfl, rfl⟩ rfl Tryz.underlying9 rfl fun A F => ?_;refine lsi F fun A F=>?_;refine en (cd F (fun hc4=>?_) fun hc4=>?_)
   ·replace hc4 := of_decide_eq_true hc4;have hlt : k < s.length := by omega
    obtain ⟨c, hget⟩ : ∃ c, s[k]? = some c := ⟨_, List.getElem?_eq_getElem hlt⟩;refine wp_skip (sq ?_);refine wp_block ?_;refine sq (rg ?_);refine mv F fun A F=>?_;refine mv F fun A F=>?_;refine sw_index F ⟨rfl, rfl, rfl⟩ rfl rfl hget Tryz.underlying9 rfl fun A F => ?_;refine sw_callR (by kernel_rfl) (rgoes_any c _) F ⟨rfl, rfl, rfl⟩ rfl rfl ?_;rintro e _ ⟨rfl, rfl⟩;refine ⟨_, rfl, fun A F => ?_⟩;refine sw_not F ⟨rfl, rfl, rfl⟩ rfl rfl fun A F => ?_;refine en (cd F (fun hc5=>?_) fun hc5=>?_)
    ·have hg : goes c = false := by simpa using hc5
     refine sq (rg ?_);refine as1 F fun A F=>?_;refine en (wp_ret ?_);repeat first|refine tr ?_|refine br ?_
     exact sw_rettmp F Tryz.results63 rfl ⟨by rw [nm_bad hget hg], Below.refl _ _⟩
    have hg : goes c = true := by simpa using hc5
    refine wp_skip (rg ?_);refine mv F fun A F=>?_;refine sw_add F ⟨rfl, rfl, rfl⟩ rfl rfl (by omega) rfl fun A F => ?_;refine as1 F fun A F=>?_;refine sw_end ?_;show _ ∧ _;refine ⟨⟨rfl, k + 1, by omega, F.keep [3, 0] rfl, all_take hget hg hall⟩, ?_⟩;rw [(F.keep (N := 34) (L' := [(3, .int .i64 ((k + 1 : Nat) : Int))]) [3] rfl).2.2 3 (.int .i64 ((k + 1 : Nat) : Int)) rfl, hA3];simp only [intOf];omega
   replace hc4 := of_decide_eq_false hc4;have hall2 : s.all goes = true := by rw [List.take_of_length_le (by omega)] at hall; exact hall
   refine wp_exit ?_;repeat (first | refine then_exit ?_ | refine exit_block ?_ | refine exit_pass rfl ?_)
   show Code.wp _ _ _ _ _;refine sq (rg ?_);refine sw_callR (by kernel_rfl) (rpWords_any _) F ⟨rfl, rfl, rfl⟩ rfl rfl ?_;rintro e w1 ⟨xw, rfl, hb1, _, hw1⟩;refine ⟨_, rfl, fun A F => ?_⟩;refine mv F fun A F=>?_;refine sw_callR (by kernel_rfl) (has_any xw 28 28 wordL s _ rfl (by omega) hw1) F ⟨rfl, rfl, rfl⟩ rfl rfl ?_;rintro e _ ⟨rfl, rfl⟩;refine ⟨_, rfl, fun A F => ?_⟩;refine as1 F fun A F=>?_;refine en (sq (rg ?_));refine mv F fun A F=>?_;refine sw_not F ⟨rfl, rfl, rfl⟩ rfl rfl fun A F => ?_;refine as1 F fun A F=>?_;refine en (wp_ret ?_);repeat first|refine tr ?_|refine br ?_
   exact sw_rettmp F Tryz.results63 rfl ⟨by rw [nm_word c1 c2 hc0 hl0 hall2], hb1⟩
theorem rnm_m (s : Key) (b : Nat) (w0 : World) : PrM b w0 24 [ptr b, .string (str s)] (nameV s) := by
 intro p ft
 have hlen : s.length ≤ 4611686018427387904 := by
  have h1 := ft.1;have h2 : s.length ≤ wtV (nameV s) := by unfold nameV; split <;> simp [wtV, wtE, tkn, oddV] <;> omega
  omega
 refine ⟨by kernel_rfl, fun wO R _ => ?_⟩;have M := pr_begin R;refine sw_fn Tryz.func24 rfl 15 Tryz.ntmps24 rfl fun A F => ?_;refine sq (rg ?_);refine mv F fun A F=>?_;refine sw_callR (by kernel_rfl) (rin_any s hlen _) F ⟨rfl, rfl, rfl⟩ rfl rfl ?_;rintro e w1 ⟨rfl, hb1⟩;refine ⟨_, rfl, fun A F => ?_⟩;replace M := M.after2 hb1;refine as1 F fun A F=>?_;refine en (sq (sq (rg ?_)));refine mv F fun A F=>?_;refine sw_not F ⟨rfl, rfl, rfl⟩ rfl rfl fun A F => ?_;refine en (cd F (fun hc1=>?_) fun hc1=>?_)
 ·have hn : nmB s = false := by simpa using hc1
  have hE : nameV s = oddV ++ tkn s := by first | (simp only [nameV, hn]; done) | (simp only [nameV, hn]; rfl)
  rw [hE] at ft;replace ft := ft.r;rw [show tkn s = tkn s ++ [] from (List.append_nil _).symm] at ft;refine rg ?_;refine mv F fun A F=>?_;refine ni F fun A F=>?_;refine fl F 3 fun A F=>?_;refine sw_setX1 F ⟨rfl, rfl, rfl⟩ rfl rfl M.st.1 (by kernel_rfl) rfl rfl rfl fun w B kb => ?_;replace M := M.unit (s' := p.run oddV) B (M.st.set B kb);refine en (rg ?_);refine mv F fun A F=>?_;refine mv F fun A F=>?_;refine sw_call0 (rput_m s b w0 (p.run oddV) ft.l) F M ⟨rfl, rfl, rfl⟩ rfl rfl ?_;rintro _ _ A w ⟨_, rfl⟩ F M;replace ft := ft.r;refine sw_end ?_;repeat first|refine tn ?_|refine bn ?_
  exact sw_endnone F Tryz.results24 (ze M (by first | (rw [hE]; done) | (rw [hE]; rfl)))
 have hn : nmB s = true := by simpa using hc1
 have hE : nameV s = tkn s := by first | (simp only [nameV, hn]; done) | (simp only [nameV, hn]; rfl)
 rw [hE] at ft;rw [show tkn s = tkn s ++ [] from (List.append_nil _).symm] at ft;refine wp_skip (rg ?_);refine mv F fun A F=>?_;refine mv F fun A F=>?_;refine sw_call0 (rput_m s b w0 p ft.l) F M ⟨rfl, rfl, rfl⟩ rfl rfl ?_;rintro _ _ A w ⟨_, rfl⟩ F M;replace ft := ft.r;refine sw_end ?_;repeat first|refine tn ?_|refine bn ?_
 exact sw_endnone F Tryz.results24 (ze M (by first | (rw [hE]; done) | (rw [hE]; rfl)))
theorem rkd_m (k : Int) (hkb : -9223372036854775808 ≤ k ∧ k ≤ 9223372036854775807) (b : Nat) (w0 : World) : PrM b w0 25 [ptr b, .int .i64 k] (kindV k) := by
 intro p ft;refine ⟨by kernel_rfl, fun wO R _ => ?_⟩;have M := pr_begin R;refine sw_fn Tryz.func25 rfl 22 Tryz.ntmps25 rfl fun A F => ?_;refine sq (rg ?_);refine sw_mkrow (ety := 9) (sz := 1) (z := .string ⟨#[]⟩) F M _ (kind3.map fun s => [Fld.s s]) ⟨rfl, rfl, rfl⟩ rfl (by kernel_rfl) (by kernel_rfl) rfl (by kernel_rfl) rfl ?_ ?_ rfl fun x A w F M => ?_
 ·intro g hg;obtain ⟨s, _, rfl⟩ := List.mem_map.1 hg;exact ⟨rfl, lie_cons trivial (lie_nil _ _)⟩
 ·intro i f b hf hm g hg;obtain ⟨s, _, rfl⟩ := List.mem_map.1 hg;intro y hy;rw [List.mem_singleton.1 hy];trivial
 refine as1 F fun A F=>?_;refine en (sq (sq (rg ?_)));refine mv F fun A F=>?_;refine lsi F fun A F=>?_;refine mv F fun A F=>?_
 cases c1 : (decide (k < 1)) with
 | true =>
  rw [c1] at F;replace c1 := of_decide_eq_true c1;have hE : kindV k = oddV := if_neg (by omega);rw [hE] at ft;refine off2 F 2 2 fun A F=>?_;refine pkT F fun A F=>?_;refine en (sw_true F rfl ?_);refine sq (rg ?_);refine mv F fun A F=>?_;refine ni F fun A F=>?_;refine fl F 3 fun A F=>?_;refine sw_setX1 F ⟨rfl, rfl, rfl⟩ rfl rfl M.st.1 (by kernel_rfl) rfl rfl rfl fun w B kb => ?_;replace M := M.unit (s' := p.run oddV) B (M.st.set B kb);refine en (wp_ret ?_);repeat first|refine tr ?_|refine br ?_
  exact sw_retnone F Tryz.results25 ⟨_, [], _, rfl, M.but, M.st, lie_nil _ _, by first | (rw [hE]; done) | (rw [hE]; rfl)⟩
 | false =>
  rw [c1] at F;replace c1 := of_decide_eq_false c1;refine on' F 2 ?_;refine mv F fun A F=>?_;refine on' F 2 ?_;refine gti F fun A F=>?_;refine pkF F fun A F=>?_;refine en (cd F (fun hc2=>?_) fun hc2=>?_)
  ·replace hc2 := of_decide_eq_true hc2;have hE : kindV k = oddV := if_neg (by omega);rw [hE] at ft;refine sq (rg ?_);refine mv F fun A F=>?_;refine ni F fun A F=>?_;refine fl F 3 fun A F=>?_;refine sw_setX1 F ⟨rfl, rfl, rfl⟩ rfl rfl M.st.1 (by kernel_rfl) rfl rfl rfl fun w B kb => ?_;replace M := M.unit (s' := p.run oddV) B (M.st.set B kb);refine en (wp_ret ?_);repeat first|refine tr ?_|refine br ?_
   exact sw_retnone F Tryz.results25 ⟨_, [], _, rfl, M.but, M.st, lie_nil _ _, by first | (rw [hE]; done) | (rw [hE]; rfl)⟩
  replace hc2 := of_decide_eq_false hc2;have hE : kindV k = tkn (kindK k) := if_pos (by omega);rw [hE, show tkn (kindK k) = tkn (kindK k) ++ [] from (List.append_nil _).symm] at ft;refine wp_skip (rg ?_);refine mv F fun A F=>?_;refine mv F fun A F=>?_;refine mv F fun A F=>?_;refine sw_sub F ⟨rfl, rfl, rfl⟩ rfl rfl (by omega) rfl fun A F => ?_;have hk0 : ((k - 1).toNat : Int) = k - 1 := by omega
  rw [← hk0] at F;refine sw_at F 1 ⟨rfl, rfl, rfl⟩ rfl rfl (by omega) Tryz.underlying38 (by kernel_rfl) rfl fun A F => ?_
  have hcell : w.cell? ⟨x, 0 + (k - 1).toNat * 1, none⟩ = some (.string (str (kindK k))) := by
   obtain ⟨_, _, _, hat⟩ := (M.mem.at_ 0 _ rfl : RowG _ _ _ _ _ _).at_
   have := hat (k - 1).toNat (.string (str (kindK k))) (by
    rcases (show k = 1 ∨ k = 2 ∨ k = 3 by omega) with rfl | rfl | rfl <;> rfl)
   rw [Nat.zero_add, Nat.mul_one]; exact this
  refine sw_ext F hcell ⟨rfl, rfl, rfl⟩ rfl (by kernel_rfl) rfl fun A F => ?_;refine sw_call0 (rput_m (kindK k) b w0 p ft.l) F M ⟨rfl, rfl, rfl⟩ rfl rfl ?_;rintro _ _ A w ⟨_, rfl⟩ F M;replace ft := ft.r;refine sw_end ?_;repeat first|refine tn ?_|refine bn ?_
  exact sw_endnone F Tryz.results25 (ze M (by first | (rw [hE]; done) | (rw [hE]; rfl)))
end Go.Proofs.YthhpkjmhcolgfaaGreatDoor
