import Derived.Test.YtpofgnlkhkednaaGreatDoorSQr
namespace Go.Proofs.YtpofgnlkhkednaaGreatDoor
open Go.RowKit
set_option linter.unusedVariables false
set_option linter.unusedSimpArgs false
set_option maxRecDepth 20000
set_option maxHeartbeats 8000000
def StF (w0 : World) (x : ST) : Prop := ∀ (lo : Nat) (fs : List Fld), pvAll fs = x.pv → lieAll lo w0 fs → Meth Tryz.prog (Bx w0) (fun _ => False) 50 [.agg (fs.map Fld.val).toArray] () (fun v _ _ => v = .bool x.fm)
def FnF (w0 : World) (x : FT) : Prop := ∀ (lo : Nat) (fs : List Fld), pvAll fs = x.pv → lieAll lo w0 fs → Meth Tryz.prog (Bx w0) (fun _ => False) 28 [.agg (fs.map Fld.val).toArray] () (fun v _ _ => v = .bool x.fm)
theorem fmf_of (w0 : World) (f : FT) (H : ∀ x ∈ f.bs, StF w0 x) : FnF w0 f := by
 obtain ⟨nm, op, ps, ty, bs⟩ := f;intro lo fs hp hl;obtain ⟨pa, pc, pe, ba, bc, bb, rfl, he, heb⟩ := inv_F hp;rw [ST.pvs_map] at heb;have hAp : (Fld.l pa pc pe).lies lo w0 := hl _ (by simp);have hAb : (Fld.l ba bc bb).lies lo w0 := hl _ (by simp);refine ⟨by kernel_rfl, fun wO R _ => ?_⟩;have M := bx_begin R;refine sw_fn Tryz.func28 rfl 21 Tryz.ntmps28 rfl fun A F => ?_;refine sq (rg ?_);refine sw_box F M [.string (str nm), .bool op, .slice pa pe.length pc, .int .i64 ty, .slice ba bb.length bc] ⟨rfl, rfl, rfl⟩ rfl rfl rfl fun x1 A w F M => ?_;refine as1 F fun A F=>?_;refine en (sq (rg ?_));refine fl F 0 fun A F=>?_;refine ce F M 0 fun A F=>?_;refine sw_callR (by kernel_rfl) ((isname_m _ nm).2 _ (Below.refl _ _) (fun _ q => q.elim)) F ⟨rfl, rfl, rfl⟩ rfl rfl ?_;rintro e w1 ⟨v, fs, s', rfl, _, hb1, _, rfl⟩;refine ⟨_, rfl, fun A F => ?_⟩;replace M := M.after2 hb1;refine mv F fun A F=>?_
 cases c2 : (nmB nm) with
 | true =>
  rw [c2] at F;refine on' F 3 ?_;refine fl F 2 fun A F=>?_;refine on' F 3 ?_;refine ce F M 0 fun A F=>?_;refine on' F 3 ?_;refine sw_call0 (allP_m w0 ps (fun x _ lo fs hp hl => by have e := inv_P hp; subst e; exact fmp_m w0 x) lo pa pc pe he hAp) F M ⟨rfl, rfl, rfl⟩ rfl rfl ?_;rintro _ _ A w ⟨_, rfl⟩ F M;refine pkT F fun A F=>?_;refine mv F fun A F=>?_
  cases c3 : (ps.all paF) with
  | true =>
   rw [c3] at F;refine on' F 8 ?_;refine fl F 3 fun A F=>?_;refine on' F 8 ?_;refine ce F M 0 fun A F=>?_;refine on' F 8 ?_;refine sw_callR (by kernel_rfl) ((iskind_m _ ty).2 _ (Below.refl _ _) (fun _ q => q.elim)) F ⟨rfl, rfl, rfl⟩ rfl rfl ?_;rintro e w1 ⟨v, fs, s', rfl, _, hb1, _, rfl⟩;refine ⟨_, rfl, fun A F => ?_⟩;replace M := M.after2 hb1;refine pkT F fun A F=>?_;refine mv F fun A F=>?_
   cases c4 : (decide (1 ≤ ty ∧ ty ≤ 3)) with
   | true =>
    rw [c4] at F;refine on' F 13 ?_;refine fl F 4 fun A F=>?_;refine on' F 13 ?_;refine ce F M 0 fun A F=>?_;refine on' F 13 ?_;refine sw_call0 (allS_m w0 bs H lo ba bc bb heb hAb) F M ⟨rfl, rfl, rfl⟩ rfl rfl ?_;rintro _ _ A w ⟨_, rfl⟩ F M;refine pkT F fun A F=>?_;refine as1 F fun A F=>?_;refine en (wp_ret ?_);repeat first|refine tr ?_|refine br ?_
    exact sw_rettmp F Tryz.results28 rfl (ze M (by show _ = Value.bool (nmB nm && ps.all paF && decide (1 ≤ ty ∧ ty ≤ 3) && ST.fms bs); rw [ST.fms_all, c2, c3, c4]; rfl))
   | false =>
    rw [c4] at F;refine off3 F 13 13 13 fun A F=>?_;refine pkF F fun A F=>?_;refine as1 F fun A F=>?_;refine en (wp_ret ?_);repeat first|refine tr ?_|refine br ?_
    exact sw_rettmp F Tryz.results28 rfl (ze M (by show _ = Value.bool (nmB nm && ps.all paF && decide (1 ≤ ty ∧ ty ≤ 3) && ST.fms bs); rw [ST.fms_all, c2, c3, c4]; rfl))
  | false =>
   rw [c3] at F;refine off3 F 8 8 8 fun A F=>?_;refine pkF F fun A F=>?_;refine mv F fun A F=>?_;refine off3 F 13 13 13 fun A F=>?_;refine pkF F fun A F=>?_;refine as1 F fun A F=>?_;refine en (wp_ret ?_);repeat first|refine tr ?_|refine br ?_
   exact sw_rettmp F Tryz.results28 rfl (ze M (by show _ = Value.bool (nmB nm && ps.all paF && decide (1 ≤ ty ∧ ty ≤ 3) && ST.fms bs); rw [ST.fms_all, c2, c3]; rfl))
 | false =>
  rw [c2] at F;refine off3 F 3 3 3 fun A F=>?_;refine pkF F fun A F=>?_;refine mv F fun A F=>?_;refine off3 F 8 8 8 fun A F=>?_;refine pkF F fun A F=>?_;refine mv F fun A F=>?_;refine off3 F 13 13 13 fun A F=>?_;refine pkF F fun A F=>?_;refine as1 F fun A F=>?_;refine en (wp_ret ?_);repeat first|refine tr ?_|refine br ?_
  exact sw_rettmp F Tryz.results28 rfl (ze M (by show _ = Value.bool (nmB nm && ps.all paF && decide (1 ≤ ty ∧ ty ≤ 3) && ST.fms bs); rw [ST.fms_all, c2]; rfl))
theorem formed_of (w0 : World) (c : CTr) (H : ∀ x ∈ c.fn, FnF w0 x) (lo : Nat) (fs : List Fld) (hp : pvAll fs = c.pv) (hl : lieAll lo w0 fs) : Meth Tryz.prog (Bx w0) (fun _ => False) 10 [.agg (fs.map Fld.val).toArray] () (fun v _ _ => v = .bool c.fm) := by
 obtain ⟨nm, sL, tL, fL⟩ := c;obtain ⟨sa, sc, se, ta, tc, te, fa, fc, fe, rfl, he0, he2, he4⟩ := inv_ct hp;have hAs : (Fld.l sa sc se).lies lo w0 := hl _ (by simp);have hAt : (Fld.l ta tc te).lies lo w0 := hl _ (by simp);have hAf : (Fld.l fa fc fe).lies lo w0 := hl _ (by simp);refine ⟨by kernel_rfl, fun wO R _ => ?_⟩;have M := bx_begin R;refine sw_fn Tryz.func10 rfl 21 Tryz.ntmps10 rfl fun A F => ?_;refine sq (rg ?_);refine sw_box F M [.string (str nm), .slice sa se.length sc, .slice ta te.length tc, .slice fa fe.length fc] ⟨rfl, rfl, rfl⟩ rfl rfl rfl fun x1 A w F M => ?_;refine as1 F fun A F=>?_;refine en (sq (rg ?_));refine fl F 0 fun A F=>?_;refine ce F M 0 fun A F=>?_;refine sw_callR (by kernel_rfl) ((isname_m _ nm).2 _ (Below.refl _ _) (fun _ q => q.elim)) F ⟨rfl, rfl, rfl⟩ rfl rfl ?_;rintro e w1 ⟨v, fs, s', rfl, _, hb1, _, rfl⟩;refine ⟨_, rfl, fun A F => ?_⟩;replace M := M.after2 hb1;refine mv F fun A F=>?_
 cases c2 : (nmB nm) with
 | true =>
  rw [c2] at F;refine on' F 3 ?_;refine fl F 1 fun A F=>?_;refine on' F 3 ?_;refine ce F M 0 fun A F=>?_;refine on' F 3 ?_;refine sw_call0 (allP_m w0 sL (fun x _ lo fs hp hl => by have e := inv_P hp; subst e; exact fmp_m w0 x) lo sa sc se he0 hAs) F M ⟨rfl, rfl, rfl⟩ rfl rfl ?_;rintro _ _ A w ⟨_, rfl⟩ F M;refine pkT F fun A F=>?_;refine mv F fun A F=>?_
  cases c3 : (sL.all paF) with
  | true =>
   rw [c3] at F;refine on' F 8 ?_;refine fl F 2 fun A F=>?_;refine on' F 8 ?_;refine ce F M 0 fun A F=>?_;refine on' F 8 ?_;refine sw_call0 (allT_m w0 tL (fun x _ lo fs hp hl => by have e := inv_T hp; subst e; exact fmt_m w0 x) lo ta tc te he2 hAt) F M ⟨rfl, rfl, rfl⟩ rfl rfl ?_;rintro _ _ A w ⟨_, rfl⟩ F M;refine pkT F fun A F=>?_;refine mv F fun A F=>?_
   cases c4 : (tL.all taF) with
   | true =>
    rw [c4] at F;refine on' F 13 ?_;refine fl F 3 fun A F=>?_;refine on' F 13 ?_;refine ce F M 0 fun A F=>?_;refine on' F 13 ?_;refine sw_call0 (allF_m w0 fL H lo fa fc fe he4 hAf) F M ⟨rfl, rfl, rfl⟩ rfl rfl ?_;rintro _ _ A w ⟨_, rfl⟩ F M;refine pkT F fun A F=>?_;refine as1 F fun A F=>?_;refine en (wp_ret ?_);repeat first|refine tr ?_|refine br ?_
    exact sw_rettmp F Tryz.results10 rfl (ze M (by show _ = Value.bool (nmB nm && sL.all paF && tL.all taF && fL.all FT.fm); rw [c2, c3, c4]; rfl))
   | false =>
    rw [c4] at F;refine off3 F 13 13 13 fun A F=>?_;refine pkF F fun A F=>?_;refine as1 F fun A F=>?_;refine en (wp_ret ?_);repeat first|refine tr ?_|refine br ?_
    exact sw_rettmp F Tryz.results10 rfl (ze M (by show _ = Value.bool (nmB nm && sL.all paF && tL.all taF && fL.all FT.fm); rw [c2, c3, c4]; rfl))
  | false =>
   rw [c3] at F;refine off3 F 8 8 8 fun A F=>?_;refine pkF F fun A F=>?_;refine mv F fun A F=>?_;refine off3 F 13 13 13 fun A F=>?_;refine pkF F fun A F=>?_;refine as1 F fun A F=>?_;refine en (wp_ret ?_);repeat first|refine tr ?_|refine br ?_
   exact sw_rettmp F Tryz.results10 rfl (ze M (by show _ = Value.bool (nmB nm && sL.all paF && tL.all taF && fL.all FT.fm); rw [c2, c3]; rfl))
 | false =>
  rw [c2] at F;refine off3 F 3 3 3 fun A F=>?_;refine pkF F fun A F=>?_;refine mv F fun A F=>?_;refine off3 F 8 8 8 fun A F=>?_;refine pkF F fun A F=>?_;refine mv F fun A F=>?_;refine off3 F 13 13 13 fun A F=>?_;refine pkF F fun A F=>?_;refine as1 F fun A F=>?_;refine en (wp_ret ?_);repeat first|refine tr ?_|refine br ?_
  exact sw_rettmp F Tryz.results10 rfl (ze M (by show _ = Value.bool (nmB nm && sL.all paF && tL.all taF && fL.all FT.fm); rw [c2]; rfl))
section
variable {P : Program} {ops : Array Oper} {Q : Exit → Act → World → Prop} {a : Act} {w : World} {rest : List Oper} {o : Oper} {N : Nat} {L : List (Nat × Value)}
theorem sw_garr (F : Fm N L a) (sz : Nat) {i g n k e t : Nat} {y : Operand} (h : Is o (some i) (.indexAddr t (.global g) y)) (hy : opv L y = some (.int .i64 (k : Int))) (hk : k < n) (hu : P.underlying t = some (.array n e)) (hs : (P.info? e).map (·.size) = some sz) (hi : Nat.blt i N = true) (K : ∀ a', Fm N ((i, .pointer (some ⟨g, 0 + k * sz, none⟩)) :: L) a' → wpList P ops Q rest a' w) : wpList P ops Q (o :: rest) a w :=
 sw_val F h.1 h.2.2 hi (by
  have hx : a.eval (.global g) = .pointer (some ⟨g, 0, none⟩) := F.ev (x := .global g) rfl;unfold execOp;rw [h.2.1];simp only [hx, F.ev hy]
  cases hq : P.info? e with
  | none => rw [hq] at hs; cases hs
  | some ii =>
   have hz : ii.size = sz := by rw [hq] at hs; simpa using hs
   simp [Instr.indexAt, run_underlying hu, asIntOf, sizeOf, typeInfo, hq, hz, hk, Addr.add, asAddr, Instr.sureAddr];intro q
   first | omega | (rw [q]) | simp [q]) K
theorem wanted_of (F : Fm N L a) {gi : Nat} {gb : Bool} {og : Oper} {t : Nat} {c : Bool} (hg : o.guard = some (gi, gb)) (ho : ops[gi]? = some og) (hd : og.dst = some t) (hv : lk t L = some (.bool c)) : Region.wanted o (yielded ops a.tmps) = (c == gb) := by
 have e := F.2.2 t _ hv;unfold Region.wanted;rw [hg];simp only [yielded, ho, hd, Option.bind_some]
 have : a.tmps[t]? = some (.bool c) := by
  have e : a.tmps.getD t undef = .bool c := e;rw [Array.getD_eq_getD_getElem?] at e
  cases hq : a.tmps[t]? with
  | none => rw [hq] at e; cases e
  | some u => rw [hq] at e; have e : u = .bool c := e; rw [e]
 rw [this];cases c <;> cases gb <;> rfl
theorem sd_valg {md : Region.Mode} {S : World → Prop} {fuel : Nat} {listed : Array Bool} (F : Fm N L a) (i gi : Nat) {d t : Nat} {v : Value} {gb c : Bool} {og : Oper} (hi : ops[i]? = some o) (hg : o.guard = some (gi, gb)) (ho : ops[gi]? = some og) (hgd : og.dst = some t) (hv : lk t L = some (.bool c)) (hc : (c == gb) = true) (hs : Region.noSelect ops = true) (hf : Region.free md ops listed i = true) (hr : (Region.ready md ops listed).contains i = true) (hQ : ∀ c a w, Q (.panic c) (a.put (some d) v) w → Q (.panic c) a w)
  (hd : o.dst = some d) (hb : Nat.blt d N = true) (hy : ∀ w, S w → (execOp a.eval o).run P w = .ok (.value v) w) (hS : S w) (K : ∀ a', Fm N ((d, v) :: L) a' → wpAnyH P md ops Q S fuel (listed.setIfInBounds i true) a' w) : wpAnyH P md ops Q S (fuel + 1) listed a w :=
 wpAnyH_take hi hs hf hr (fun c a w => by rw [hd]; exact hQ c a w) (.inl ⟨by rw [wanted_of F hg ho hgd hv, hc], hy⟩) hS (by rw [hd]; exact K _ (F.put hb))
theorem sd_offg {md : Region.Mode} {S : World → Prop} {fuel : Nat} {listed : Array Bool} (F : Fm N L a) (i gi : Nat) {d t : Nat} {gb c : Bool} {og : Oper} (hi : ops[i]? = some o) (hg : o.guard = some (gi, gb)) (ho : ops[gi]? = some og) (hgd : og.dst = some t) (hv : lk t L = some (.bool c)) (hc : (c == gb) = false) (hs : Region.noSelect ops = true) (hf : Region.free md ops listed i = true) (hr : (Region.ready md ops listed).contains i = true) (hQ : ∀ c a w, Q (.panic c) (a.put (some d) undef) w → Q (.panic c) a w)
  (hd : o.dst = some d) (hb : Nat.blt d N = true) (hS : S w) (K : ∀ a', Fm N ((d, undef) :: L) a' → wpAnyH P md ops Q S fuel (listed.setIfInBounds i true) a' w) : wpAnyH P md ops Q S (fuel + 1) listed a w :=
 wpAnyH_take hi hs hf hr (fun c a w => by rw [hd]; exact hQ c a w) (.inr ⟨by rw [wanted_of F hg ho hgd hv, hc], rfl⟩) hS (by rw [hd]; exact K _ (F.put hb))
theorem sd_oneg {md : Region.Mode} {S : World → Prop} {fuel : Nat} {listed : Array Bool} (F : Fm N L a) (i gi : Nat) {t : Nat} {gb c : Bool} {og : Oper} (hi : ops[i]? = some o) (hr : Region.ready md ops listed = [i]) (hg : o.guard = some (gi, gb)) (ho : ops[gi]? = some og) (hgd : og.dst = some t) (hv : lk t L = some (.bool c)) (hc : (c == gb) = true) (h : wpList P ops (Exit.then (fun a w => S w ∧ wpAnyH P md ops Q S fuel (listed.setIfInBounds i true) a w) Q) [{ o with guard := none }] a w) : wpAnyH P md ops Q S (fuel + 1) listed a w :=
 wpAnyH_all hr (by simp) fun j hj => by
  have hj : j = i := by simpa using hj
  subst hj;have hw : Region.wanted o (yielded ops a.tmps) = true := by rw [wanted_of F hg ho hgd hv, hc]
  have hw2 : ∀ x, Region.wanted { o with guard := none } x = true := fun x => by simp [Region.wanted]
  unfold wpList at h;rw [if_pos (hw2 _)] at h;unfold wpOp;simp only [hi];rw [if_pos hw];rcases h with h | ⟨h1, h2⟩
  ·exact .inl (oper_then h)
  ·exact .inr ⟨h1, h2⟩
theorem sd_not {md : Region.Mode} {S : World → Prop} {fuel : Nat} {listed : Array Bool} (F : Fm N L a) (i : Nat) {d : Nat} {t : Nat} {x : Operand} {b : Bool} (hi : ops[i]? = some o) (h : Is o (some d) (.unOp .not t x)) (hv : opv L x = some (.bool b)) (hs : Region.noSelect ops = true) (hf : Region.free md ops listed i = true) (hr : (Region.ready md ops listed).contains i = true) (hQ : ∀ c a w, Q (.panic c) (a.put (some d) (.bool (!b))) w → Q (.panic c) a w)
  (hb : Nat.blt d N = true) (hS : S w) (K : ∀ a', Fm N ((d, .bool (!b)) :: L) a' → wpAnyH P md ops Q S fuel (listed.setIfInBounds i true) a' w) : wpAnyH P md ops Q S (fuel + 1) listed a w :=
 sd_val F i hi hs hf hr hQ h.1 h.2.2 hb (fun w _ => by unfold execOp; rw [h.2.1]; simp [F.ev hv, Op.unary]) hS K
theorem sd_pickT {md : Region.Mode} {S : World → Prop} {fuel : Nat} {listed : Array Bool} (F : Fm N L a) (i : Nat) {d : Nat} {c x y : Operand} {v : Value} (hi : ops[i]? = some o) (h : Is o (some d) (.pick c x y)) (hc : opv L c = some (.bool true)) (hv : opv L x = some v) (hs : Region.noSelect ops = true) (hf : Region.free md ops listed i = true) (hr : (Region.ready md ops listed).contains i = true) (hQ : ∀ c a w, Q (.panic c) (a.put (some d) (v)) w → Q (.panic c) a w)
  (hb : Nat.blt d N = true) (hS : S w) (K : ∀ a', Fm N ((d, v) :: L) a' → wpAnyH P md ops Q S fuel (listed.setIfInBounds i true) a' w) : wpAnyH P md ops Q S (fuel + 1) listed a w :=
 sd_val F i hi hs hf hr hQ h.1 h.2.2 hb (fun w _ => by unfold execOp; rw [h.2.1]; simp [F.ev hc, F.ev hv, asBool]) hS K
theorem sd_pickF {md : Region.Mode} {S : World → Prop} {fuel : Nat} {listed : Array Bool} (F : Fm N L a) (i : Nat) {d : Nat} {c x y : Operand} {v : Value} (hi : ops[i]? = some o) (h : Is o (some d) (.pick c x y)) (hc : opv L c = some (.bool false)) (hv : opv L y = some v) (hs : Region.noSelect ops = true) (hf : Region.free md ops listed i = true) (hr : (Region.ready md ops listed).contains i = true) (hQ : ∀ c a w, Q (.panic c) (a.put (some d) (v)) w → Q (.panic c) a w)
  (hb : Nat.blt d N = true) (hS : S w) (K : ∀ a', Fm N ((d, v) :: L) a' → wpAnyH P md ops Q S fuel (listed.setIfInBounds i true) a' w) : wpAnyH P md ops Q S (fuel + 1) listed a w :=
 sd_val F i hi hs hf hr hQ h.1 h.2.2 hb (fun w _ => by unfold execOp; rw [h.2.1]; simp [F.ev hc, F.ev hv, asBool]) hS K
end
end Go.Proofs.YtpofgnlkhkednaaGreatDoor
