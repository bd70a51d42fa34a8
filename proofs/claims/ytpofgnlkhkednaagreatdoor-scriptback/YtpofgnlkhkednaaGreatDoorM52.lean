import Derived.Test.YtpofgnlkhkednaaGreatDoorSQw
namespace Go.Proofs.YtpofgnlkhkednaaGreatDoor
open Go.RowKit
set_option linter.unusedVariables false
set_option linter.unusedSimpArgs false
set_option maxRecDepth 20000
set_option maxHeartbeats 8000000
theorem fme_all {w0 : World} (H4 : w0.rangeAt 3 0 (flatF formL)) (h4 : 3 < w0.heap.size) : ∀ x : XT, ExF w0 x
 | .mk op n s ar => fme_of w0 H4 h4 op n s ar fun y hy => fme_all H4 h4 y
termination_by x => SizeOf.sizeOf x
decreasing_by
 have := List.sizeOf_lt_of_mem hy;simp only [XT.mk.sizeOf_spec];omega
theorem fms_all {w0 : World} (H4 : w0.rangeAt 3 0 (flatF formL)) (H1 : w0.rangeAt 2 0 stepV) (h4 : 3 < w0.heap.size) : ∀ x : ST, StF w0 x
 | .mk k nm al ca ty es bs ls => fms_of w0 H1 (by omega) k nm al ca ty es bs ls (fun y _ => fme_all H4 h4 y) (fun y hy => fms_all H4 H1 h4 y) (fun y hy => fms_all H4 H1 h4 y)
termination_by x => SizeOf.sizeOf x
decreasing_by
 all_goals
  have := List.sizeOf_lt_of_mem hy;simp only [ST.mk.sizeOf_spec];omega
theorem formed_m {w0 : World} (H4 : w0.rangeAt 3 0 (flatF formL)) (H1 : w0.rangeAt 2 0 stepV) (h4 : 3 < w0.heap.size) (c : CTr) (lo : Nat) (fs : List Fld) (hp : pvAll fs = c.pv) (hl : lieAll lo w0 fs) : Meth Tryz.prog (Bx w0) (fun _ => False) 10 [.agg (fs.map Fld.val).toArray] () (fun v _ _ => v = .bool c.fm) :=
 formed_of w0 c (fun f _ => fmf_of w0 f fun x _ => fms_all H4 H1 h4 x) lo fs hp hl
theorem txl {t p : Key} (h : TxOk t p) : decide ((2048 : Int) < (t.length : Int)) = decide ((2048 : Int) < (p.length : Int)) := by
 have := h.fits.1;rw [decide_eq_decide] at this ⊢;omega
theorem print_p {w0 : World} (HT : Tabs w0) (HP : PowT w0) (H4 : w0.rangeAt 3 0 (flatF formL)) (H1 : w0.rangeAt 2 0 stepV) (c : CTr) (wA : World) (lo : Nat) (fs : List Fld) (hp : pvAll fs = c.pv) (hl : lieAll lo w0 fs) (hB : Bx w0 () wA) (hmax : c.sl.length + c.tb.length ≤ 1000000000) (hroom : Rm PS.zero (wtV c.evs + 2)) : Calls Tryz.prog 5 ([.agg (fs.map Fld.val).toArray] : List Value).toArray wA fun e w' => e = .returned (.tuple #[.string (str (endP (PS.zero.run c.evs)).1), .int .i64 (endP (PS.zero.run c.evs)).2]) ∧ Below wA.heap.size wA w' := by
 have hsz : 3 < w0.heap.size := by have := HT.size; omega
 have h4 : fs.length = 4 := by rw [← pvAll_len, hp]; rfl
 have M := bx_begin hB;refine sw_fn Tryz.func5 rfl 32 Tryz.ntmps5 rfl fun A F => ?_;refine sq (rg ?_);refine sw_box F M (fs.map Fld.val) ⟨rfl, rfl, rfl⟩ rfl rfl rfl fun x1 A w F M => ?_;refine as1 F fun A F=>?_;refine as1 F fun A F=>?_;refine en (sq (sq (rg ?_)));refine sw_all F M 0 ⟨rfl, rfl, rfl⟩ rfl rfl (by kernel_rfl) (by rw [List.length_map, h4]; kernel_rfl) rfl fun A F => ?_;refine sw_call0 (formed_m H4 H1 hsz c lo fs hp hl) F M ⟨rfl, rfl, rfl⟩ rfl rfl ?_;rintro _ _ A w ⟨_, rfl⟩ F M;refine sw_not F ⟨rfl, rfl, rfl⟩ rfl rfl fun A F => ?_;refine en (cd F (fun hc1=>?_) fun hc1=>?_)
 ·have hcf : c.fm = false := by simpa using hc1
  have hod : (PS.zero.run c.evs).od = true := by rw [od_run, od_ct, hcf]; rfl
  refine sq (rg ?_);refine as1 F fun A F=>?_;refine as1 F fun A F=>?_;refine en (wp_ret ?_);repeat first|refine tr ?_|refine br ?_
  exact sw_retT2 F Tryz.results5 rfl rfl ⟨by exact ret_end (end_odd hod), M.but.below (Nat.le_refl _) fun k q => q.elim⟩
 have hcf : c.fm = true := by simpa using hc1
 have hod : (PS.zero.run c.evs).od = false := by rw [od_run, od_ct, hcf]; rfl
 refine wp_skip (sq (rg ?_));refine sw_build F _ [.slice none 0 0, .int .i64 0, .bool false, .bool false] ⟨rfl, rfl, rfl⟩ rfl (by kernel_rfl) rfl fun A F => ?_;refine sw_box F M [.slice none 0 0, .int .i64 0, .bool false, .bool false] ⟨rfl, rfl, rfl⟩ rfl rfl rfl fun b A w F M => ?_;refine as1 F fun A F=>?_;refine en (sq (rg ?_));refine mv F fun A F=>?_;refine sw_all F M 1 ⟨rfl, rfl, rfl⟩ rfl rfl (by kernel_rfl) (by rw [List.length_map, h4]; kernel_rfl) rfl fun A F => ?_;have HC := contractw_m HT HP b c hcf hmax lo fs hp hl;have R := WrS.new M;refine sw_callR HC.1 (HC.2 _ _ _ _ R hroom) F ⟨rfl, rfl, rfl⟩ rfl rfl ?_;rintro e1 w ⟨rfl, R1⟩;refine ⟨_, rfl, fun A F => ?_⟩;clear R M HC;obtain ⟨wa, wc, wt, M, ht⟩ := R1;unfold WrI wrC at M;generalize hpz : PS.zero.run c.evs = pz at M ht hod;refine en (sq ?_);refine wp_block ?_;refine sq (rg ?_);refine mv F fun A F=>?_;refine ni F fun A F=>?_;refine fl F 2 fun A F=>?_;refine ce F M 0 fun A F=>?_;refine mv F fun A F=>?_
 cases c2 : (pz.fr) with
 | true =>
  rw [c2] at F;refine off2 F 4 4 fun A F=>?_;refine pkT F fun A F=>?_;refine as1 F fun A F=>?_;refine en (sw_true F rfl ?_);refine sq (rg ?_);refine as1 F fun A F=>?_;refine as1 F fun A F=>?_;refine en (wp_ret ?_);repeat first|refine tr ?_|refine br ?_
  exact sw_retT2 F Tryz.results5 rfl rfl ⟨by (try rw [hpz]); exact ret_end (end_fr hod c2), M.but.below (Nat.le_refl _) fun k q => q.elim⟩
 | false =>
  rw [c2] at F;refine on' F 4 ?_;refine mv F fun A F=>?_;refine on' F 4 ?_;refine sw_callR (long_m b w0).1 ((long_m b w0).2 _ _ pz wa wc wt w M) F ⟨rfl, rfl, rfl⟩ rfl rfl ?_;rintro e2 w ⟨rfl, M⟩;refine ⟨_, rfl, fun A F => ?_⟩;unfold WrI wrC at M;rw [txl ht] at F;refine pkF F fun A F=>?_;refine as1 F fun A F=>?_;refine en (cd F (fun hc3=>?_) fun hc3=>?_)
  ·refine sq (rg ?_);refine as1 F fun A F=>?_;refine as1 F fun A F=>?_;refine en (wp_ret ?_);repeat first|refine tr ?_|refine br ?_
   exact sw_retT2 F Tryz.results5 rfl rfl ⟨by (try rw [hpz]); exact ret_end (end_len hod c2 hc3), M.but.below (Nat.le_refl _) fun k q => q.elim⟩
  refine sq (rg ?_);refine mv F fun A F=>?_;refine ni F fun A F=>?_;refine fl F 3 fun A F=>?_;refine ce F M 0 fun A F=>?_;refine as1 F fun A F=>?_;refine en (cd F (fun hc4=>?_) fun hc4=>?_)
  ·refine sq (rg ?_);refine as1 F fun A F=>?_;refine as1 F fun A F=>?_;refine en (wp_ret ?_);repeat first|refine tr ?_|refine br ?_
   exact sw_retT2 F Tryz.results5 rfl rfl ⟨by (try rw [hpz]); exact ret_end (end_mx hod c2 hc3 hc4), M.but.below (Nat.le_refl _) fun k q => q.elim⟩
  refine wp_skip (sq (rg ?_));refine mv F fun A F=>?_;refine ni F fun A F=>?_;refine fl F 0 fun A F=>?_;refine ce F M 0 fun A F=>?_;refine sw_txt F M 1 ⟨rfl, rfl, rfl⟩ rfl rfl rfl Tryz.underlying43 Tryz.underlying5 Tryz.underlying9 rfl fun A F => ?_;refine as1 F fun A F=>?_;refine as1 F fun A F=>?_;refine en (wp_ret ?_);repeat first|refine tr ?_|refine br ?_
  exact sw_retT2 F Tryz.results5 rfl rfl ⟨by (try rw [hpz]); rw [(TxOk.fits ht).2 (by have := of_decide_eq_false hc3; omega)]; exact ret_end (endk_ok hod c2 hc3 hc4), M.but.below (Nat.le_refl _) fun k q => q.elim⟩
structure RxOk (sz c : Nat) (es : List (List Fld)) (zs : List Value) : Prop where
 len : (flatV es ++ zs).length = c * sz
 each : ∀ d ∈ es, d.length = sz
 most : c ≤ maxLen
theorem RxOk.fits {sz c : Nat} {es : List (List Fld)} {zs : List Value} (h : RxOk sz c es zs) (h0 : 0 < sz) : es.length ≤ c := by
 have h1 := flatV_len h.each;have h2 := h.len;rw [List.length_append, h1] at h2;exact Nat.le_of_mul_le_mul_right (show es.length * sz ≤ c * sz by omega) h0
theorem RxOk.zero (sz : Nat) : RxOk sz 0 [] [] := ⟨by simp [flatV], (fun d h => by cases h), by unfold maxLen; omega⟩
theorem RxOk.set {sz c : Nat} {es : List (List Fld)} {zs : List Value} {j : Nat} {d d' : List Fld} (h : RxOk sz c es zs) (hj : es[j]? = some d) (hd : d'.length = sz) : RxOk sz c (es.set j d') zs := by
 have hm : ∀ x ∈ es.set j d', x.length = sz := fun x hx => by
  rcases List.mem_or_eq_of_mem_set hx with q | q
  ·exact h.each x q
  ·rw [q]; exact hd
 refine ⟨?_, hm, h.most⟩;rw [List.length_append, flatV_len hm, List.length_set, ← flatV_len h.each, ← List.length_append];exact h.len
def Ent.isBox : Ent → Bool
 | .box _ _ _ => true
 | _ => false
def HB (E : List Ent) (u : World) : Prop := ∀ (i : Nat) (e : Ent), E[i]? = some e → e.holds 0 u
theorem Mem.hb {base : Nat} {L : List Ent} {w : World} (M : Mem base L w) (h : L.all Ent.isBox = true) : HB L w := fun i e he => by
 have h1 := List.all_eq_true.1 h e (List.mem_of_getElem? he);have h2 := M.at_ i e he
 cases e with
 | box x cs t => exact ⟨Nat.zero_le _, h2.2⟩
 | row v e sz es => cases h1
 | val fs => cases h1
 | raw v e cs => cases h1
def YOk (name : Key) (d0 : List Fld) (yo yn : Int) (ys : Key) (gs : List (List Fld)) : Prop := (-9223372036854775808 ≤ yo ∧ yo ≤ 9223372036854775807) ∧ (-9223372036854775808 ≤ yn ∧ yn ≤ 9223372036854775807) ∧ ys.length ≤ name.length ∧ gs.length ≤ 2 ∧ ∀ d ∈ gs, d = d0
theorem YOk.one {name : Key} {d0 : List Fld} {yo yn : Int} (h1 : -9223372036854775808 ≤ yo ∧ yo ≤ 9223372036854775807) (h2 : -9223372036854775808 ≤ yn ∧ yn ≤ 9223372036854775807) : YOk name d0 yo yn name [d0] := ⟨h1, h2, Nat.le_refl _, by simp, fun d hd => List.mem_singleton.1 hd⟩
theorem Mm.all {σ : Type} {X : σ → World → Prop} {T : Nat → Prop} {w0 w : World} {E : List Ent} {s : σ} (M : Mm X T w0 E s w) (k : Nat) {x : Nat} {cs : List Value} {t : TypeId} (hk : E[k]? = some (.box x cs t)) : w.rangeAt x 0 cs := by simpa using (M.mem.box hk).1.range
theorem ShE.len {v : EV} (h : ShE v) : v.length = 4 ∧ 1 ≤ wE v := by
 cases h with
 | mk op n s es _ => exact ⟨rfl, by rw [we_X]; omega⟩
theorem ShS.len {v : EV} (h : ShS v) : v.length = 8 ∧ 1 ≤ wE v := by
 cases h with
 | mk k nm al ca ty es bs ls _ _ _ => exact ⟨rfl, by rw [we_S]; omega⟩
theorem ShF.len {v : EV} (h : ShF v) : v.length = 5 ∧ 1 ≤ wE v := by
 obtain ⟨s, o, ps, k, b, rfl, _, _⟩ := h;exact ⟨rfl, by rw [we_F]; omega⟩
theorem ShP.len {v : EV} (h : ShP v) : v.length = 2 ∧ 1 ≤ wE v := by
 obtain ⟨s, k, rfl⟩ := h;exact ⟨rfl, by show 1 ≤ wE (paP (s, k)); rw [we_P]; omega⟩
def PaX (text : Key) (v : EV) (er : Int) : Prop :=
 (2048 < text.length ∧ v = ctP [] ([], [], []) ∧ er = 3) ∨
 (text.length ≤ 2048 ∧ ∃ (x : EV) (S' : ES), Rv parseM (st0 text) x S' ∧ ((S' = .error er ∧ er ≠ 0 ∧ v = ctP [] ([], [], [])) ∨ (∃ σ, S' = .ok σ ∧ er = 0 ∧ v = x)))
theorem PaX.weight {text : Key} {v : EV} {er : Int} (h : PaX text v er) (ht : text.length ≤ 65536) : wE v ≤ 2097152 + 4 := by
 have z : wE (ctP [] ([], [], [])) = 4 := rfl;rcases h with ⟨_, rfl, _⟩ | ⟨_, x, S, h2, ⟨_, _, rfl⟩ | ⟨σ, rfl, _, rfl⟩⟩
 ·omega
 ·omega
 ·have h1 := Cs.rv h2 parse_cs;have h3 : bud ⟨text, .none, 0⟩ = 32 * text.length := by unfold bud; rw [if_pos (.inr rfl)]; rfl
  have h4 : bud ⟨text, .none, 0⟩ ≤ 2097152 := by omega
  exact Nat.le_trans h1 (Nat.le_trans h4 (by omega))
theorem wL_map {α : Type} (g : α → EV) (hg : ∀ x, 1 ≤ wE (g x)) : ∀ l : List α, l.length ≤ wL (l.map g)
 | [] => Nat.le_refl _
 | x :: l => by
  have h1 := hg x;have h2 := wL_map g hg l;show l.length + 1 ≤ wE (g x) + wL (l.map g);omega
theorem ct_room {c : CTr} (h : wE c.pv ≤ 1000000000) : c.sl.length + c.tb.length ≤ 1000000000 ∧ Fit PS.zero c.evs ∧ Rm PS.zero (wtV c.evs + 2) := by
 have hw := wt_ct c;refine ⟨?_, fit_ct h, ?_, ?_, ?_, by decide, by decide⟩
 ·rw [CTr.pv, we_C] at h;dsimp only at h;have h1 := wL_map paP (fun p => by rw [we_P]; omega) c.sl;have h2 := wL_map tbV (fun p => by rw [tbV, we_T]; omega) c.tb;omega
 ·show 0 + (wtV c.evs + 2) ≤ _; omega
 ·show _ ≤ 0 - ((wtV c.evs + 2 : Nat) : Int); omega
 ·show 0 + ((wtV c.evs + 2 : Nat) : Int) ≤ _; omega
structure GlP (w : World) : Prop where
 tabs : Tabs w
 pow : PowT w
 form : w.rangeAt 3 0 (flatF formL)
 step : w.rangeAt 2 0 stepV
theorem TabW.bx {W w : World} {g n : Nat} {f : Int → Key} (h : TabW W g n f) (hg : g < W.heap.size) (hb : Bx W () w) : TabW w g n f := fun k hk => (World.cell?_of_block (a := ⟨g, k, none⟩) (hb.block g hg)).trans (h k hk)
theorem GlP.bx {w0 w : World} (h : GlP w0) (hb : Bx w0 () w) : GlP w := by
 have hs := h.tabs.size;have hz := hb.size;exact ⟨⟨h.tabs.kind.bx (by omega) hb, h.tabs.step.bx (by omega) hb, h.tabs.expr.bx (by omega) hb, by omega⟩, pow_bx h.pow hb, bx_range hb (by omega) h.form, bx_range hb (by omega) h.step⟩
def liveK : Key := [99, 111, 110, 116, 114, 97, 99, 116, 32, 99, 32, 123, 32, 125]
theorem live_pv : PaV liveK (ctP [99] ([], [], [])) 0 := by
 refine .inr ⟨by decide, ctP [99] ([], [], []), .ok (stOf [] 0), ?_, .inr ⟨_, rfl, rfl, rfl⟩⟩;obtain ⟨r, h1, h2⟩ := back_rd (c := ⟨[99], [], [], []⟩) (by decide) (by simp [CTr.evs, lvl, tkn, nameV, show nmB [99] = true by decide])
 have e : r = [[99], [123], [125]] := by
  have : etk (CTr.evs ⟨[99], [], [], []⟩) = kContract :: [[99], [123], [125]] := by decide
  rw [this] at h1;injection h1 with _ h1
  exact h1.symm
 subst e;exact h2
theorem pav_ok {text : Key} {v : EV} (h : PaV text v 0) : ∃ c : CTr, c.pv = v ∧ c.fm = true ∧ ∀ s f, endP (PS.zero.run c.evs) = (s, f) → f = 3 ∨ (f = 0 ∧ PaV s v 0) := by
 rcases h with ⟨_, _, q⟩ | ⟨_, x, S, h2, ⟨_, q, _⟩ | ⟨σ, rfl, _, rfl⟩⟩
 ·cases q
 ·exact absurd rfl q
 ·obtain ⟨c, e, f, g⟩ := back h2;refine ⟨c, e, f, fun s w q => ?_⟩;rcases g s w q with g | ⟨g1, g2, g3⟩
  ·exact .inl g
  ·exact .inr ⟨g1, .inr ⟨g2, _, _, g3, .inr ⟨_, rfl, rfl, rfl⟩⟩⟩
theorem backs_any (text : Key) (w0 : World) (g : Gl w0) (g0 : GlP w0) : Calls Tryz.prog 3 ([.string (str text)] : List Value).toArray w0 fun e w' => e = .returned (.bool true) ∧ Below w0.heap.size w0 w' := by
 have M := bx_begin (w0 := w0) (w := w0) (Below.refl _ _);refine sw_fn Tryz.func3 rfl 70 Tryz.ntmps3 rfl fun A F => ?_;refine sw_seq (sw_reg ?_);refine as1 F fun A F=>?_;refine en ?_;show Code.wp _ _ _ _ _;refine sw_seq (sw_seq (sw_reg ?_));refine mv F fun A F=>?_;refine sw_slen F ⟨rfl, rfl, rfl⟩ rfl Tryz.underlying9 rfl fun A F => ?_;refine gti F fun A F=>?_;refine en (cd F (fun hc=>?_) fun hc=>?_)
 ·refine sw_seq (sw_reg ?_);refine as1 F fun A F=>?_;refine en (wp_ret ?_);repeat first|refine tr ?_|refine br ?_
  exact sw_rettmp F Tryz.results3 rfl ⟨rfl, M.st⟩
 have htext : text.length ≤ 65536 := by have := of_decide_eq_false hc; omega
 refine wp_skip ?_;show Code.wp _ _ _ _ _;refine sw_seq (sw_reg ?_);refine sw_callR (by kernel_rfl) (parse_p liveK _ (g.below M.st)) F ⟨rfl, rfl, rfl⟩ rfl rfl ?_;intro e1 w1 h1;obtain ⟨hb1, nm, a1, c1, l1, a2, c2, l2, a3, c3, l3, er, rfl, hl1, hv1⟩ := h1.out;obtain ⟨hq, rfl⟩ := hv1.one live_pv
 obtain ⟨rfl, _, _, _⟩ : nm = [99] ∧ pvRows l1 = [] ∧ pvRows l2 = [] ∧ pvRows l3 = [] := by
  have h : ([.s nm, .l (pvRows l1), .l (pvRows l2), .l (pvRows l3)] : EV) = [.s [99], .l [], .l [], .l []] := hq;injection h with h1 h
  injection h with h2 h
  injection h with h3 h
  injection h with h4 h
  injection h1 with h1
  injection h2 with h2
  injection h3 with h3
  injection h4 with h4
  exact ⟨h1, h2, h3, h4⟩
 clear h1 hv1 hq;refine ⟨_, rfl, fun A F => ?_⟩;replace M := M.ret (s' := ()) (But.of_below hb1) (M.st.trans (hb1.mono M.mem.le)) hl1;refine mv F fun A F=>?_;refine sw_extr F ⟨rfl, rfl, rfl⟩ rfl rfl rfl fun A F => ?_;refine sw_extr F ⟨rfl, rfl, rfl⟩ rfl rfl rfl fun A F => ?_;refine alo F M [.string ⟨#[]⟩, .slice none 0 0, .slice none 0 0, .slice none 0 0] fun x1 A w F M=>?_;refine sw_setAll F M 0 (us := (ctF [99] a1 c1 l1 a2 c2 l2 a3 c3 l3).map Fld.val) ⟨rfl, rfl, rfl⟩ rfl rfl rfl (by kernel_rfl) rfl rfl fun w M => ?_;dsimp only [List.set] at M;refine as1 F fun A F=>?_;refine en ?_;show Code.wp _ _ _ _ _;refine sw_seq (sw_seq (sw_reg ?_));refine mv F fun A F=>?_;refine sw_ni F ⟨rfl, rfl, rfl⟩ rfl rfl rfl fun A F => ?_;refine mv F fun A F=>?_;refine on' F 2 ?_;refine fl F 0 fun A F=>?_;refine on' F 2 ?_;refine ce F M 0 fun A F=>?_;refine on' F 2 ?_;refine sw_ns (s := [99]) F ⟨rfl, rfl, rfl⟩ rfl rfl rfl fun A F => ?_;refine pkF F fun A F=>?_;refine en ?_;show Code.wp _ _ _ _ _;refine sw_cond F rfl (fun q => by cases q) (fun _ => ?_);refine wp_skip ?_;show Code.wp _ _ _ _ _;refine sw_seq (sw_reg ?_);refine mv F fun A F=>?_;refine sw_callR (by kernel_rfl) (parse_p text _ (g.below M.st)) F ⟨rfl, rfl, rfl⟩ rfl rfl ?_;intro e2 w2 h2;obtain ⟨hb2, nm, b1, d1, m1, b2, d2, m2, b3, d3, m3, er, rfl, hl2, hv2⟩ := h2.out;clear h2;refine ⟨_, rfl, fun A F => ?_⟩;replace M := M.ret (s' := ()) (But.of_below hb2) (M.st.trans (hb2.mono M.mem.le)) hl2;refine mv F fun A F=>?_;refine sw_extr F ⟨rfl, rfl, rfl⟩ rfl rfl rfl fun A F => ?_;refine sw_extr F ⟨rfl, rfl, rfl⟩ rfl rfl rfl fun A F => ?_;refine alo F M [.string ⟨#[]⟩, .slice none 0 0, .slice none 0 0, .slice none 0 0] fun x2 A w F M=>?_;refine sw_setAll F M 0 (us := (ctF nm b1 d1 m1 b2 d2 m2 b3 d3 m3).map Fld.val) ⟨rfl, rfl, rfl⟩ rfl rfl rfl (by kernel_rfl) rfl rfl fun w M => ?_;dsimp only [List.set] at M;refine as1 F fun A F=>?_;refine en ?_;show Code.wp _ _ _ _ _;refine sw_seq (sw_seq (sw_reg ?_));refine mv F fun A F=>?_;refine sw_neq F ⟨rfl, rfl, rfl⟩ rfl rfl rfl fun A F => ?_;refine en (cd F (fun hc2=>?_) fun hc2=>?_)
 ·refine sw_seq (sw_reg ?_);refine as1 F fun A F=>?_;refine en (wp_ret ?_);repeat first|refine tr ?_|refine br ?_
  exact sw_rettmp F Tryz.results3 rfl ⟨rfl, M.st⟩
 have her : er = 0 := by simpa using hc2
 subst her;obtain ⟨c, hcv, hfm, hback⟩ := pav_ok hv2;have hwc := PaX.weight (show PaX text _ 0 from hv2) htext;obtain ⟨hm1, hf1, hr1⟩ := ct_room (c := c) (by rw [hcv]; omega);have hsh := hv2.shape;obtain ⟨s, f, hsf⟩ : ∃ s f, endP (PS.zero.run c.evs) = (s, f) := ⟨_, _, rfl⟩;have hb := hback s f hsf;refine wp_skip ?_;show Code.wp _ _ _ _ _;refine sw_seq (sw_reg ?_);refine ala F M 0 fun A F=>?_;have hlc := (M.mem.val (k := 1) rfl).mono (Nat.zero_le _);have G1 := g0.bx M.st;have hP := print_p G1.tabs G1.pow G1.form G1.step c _ 0 (ctF nm b1 d1 m1 b2 d2 m2 b3 d3 m3) hcv.symm hlc (Below.refl _ _) hm1 hr1;rw [hsf] at hP;refine sw_callR (by kernel_rfl) hP F ⟨rfl, rfl, rfl⟩ rfl rfl ?_;rintro e3 w3 ⟨rfl, hb3⟩;refine ⟨_, rfl, fun A F => ?_⟩;replace M := M.after2 hb3;clear hb3 hlc hP G1;refine mv F fun A F=>?_;refine sw_extr F ⟨rfl, rfl, rfl⟩ rfl rfl rfl fun A F => ?_;refine sw_extr F ⟨rfl, rfl, rfl⟩ rfl rfl rfl fun A F => ?_;refine as1 F fun A F=>?_;refine as1 F fun A F=>?_;refine en ?_;show Code.wp _ _ _ _ _;refine sw_seq (sw_seq (sw_reg ?_));refine mv F fun A F=>?_;refine sw_neq F ⟨rfl, rfl, rfl⟩ rfl rfl rfl fun A F => ?_;refine en (cd F (fun hc3=>?_) fun hc3=>?_)
 ·have hf3 : f = 3 := by
   rcases hb with h | ⟨h, _⟩
   ·exact h
   ·subst h; exact absurd (show ((0 : Int) != 0) = true from hc3) (by decide)
  subst hf3;refine sw_seq (sw_reg ?_);refine mv F fun A F=>?_;refine eqi F fun A F=>?_;refine as1 F fun A F=>?_;refine en (wp_ret ?_);repeat first|refine tr ?_|refine br ?_
  exact sw_rettmp F Tryz.results3 rfl ⟨rfl, M.st⟩
 have hf0 : f = 0 := by simpa using hc3
 subst hf0
 have hvs : PaV s (pvAll (ctF nm b1 d1 m1 b2 d2 m2 b3 d3 m3)) 0 := by
  rcases hb with h | ⟨_, h⟩
  ·cases h
  ·exact h
 refine wp_skip ?_;show Code.wp _ _ _ _ _;refine sw_seq (sw_reg ?_);refine mv F fun A F=>?_;refine sw_callR (by kernel_rfl) (parse_p s _ (g.below M.st)) F ⟨rfl, rfl, rfl⟩ rfl rfl ?_;intro e4 w4 h4;obtain ⟨hb4, nm', k1, q1, n1, k2, q2, n2, k3, q3, n3, er', rfl, hl4, hv4⟩ := h4.out;obtain ⟨u0, u1⟩ := hvs.one hv4;subst u1;obtain ⟨un, r1, r2, r3⟩ := ct_inj u0;subst un;clear h4;refine ⟨_, rfl, fun A F => ?_⟩;replace M := M.ret (s' := ()) (But.of_below hb4) (M.st.trans (hb4.mono M.mem.le)) hl4;refine mv F fun A F=>?_;refine sw_extr F ⟨rfl, rfl, rfl⟩ rfl rfl rfl fun A F => ?_;refine sw_extr F ⟨rfl, rfl, rfl⟩ rfl rfl rfl fun A F => ?_;refine alo F M [.string ⟨#[]⟩, .slice none 0 0, .slice none 0 0, .slice none 0 0] fun x3 A w F M=>?_;refine sw_setAll F M 0 (us := (ctF nm k1 q1 n1 k2 q2 n2 k3 q3 n3).map Fld.val) ⟨rfl, rfl, rfl⟩ rfl rfl rfl (by kernel_rfl) rfl rfl fun w M => ?_;dsimp only [List.set] at M;refine as1 F fun A F=>?_;refine en ?_;show Code.wp _ _ _ _ _;refine sw_seq (sw_reg ?_);refine ala F M 0 fun A F=>?_;have hlc := (M.mem.val (k := 1) rfl).mono (Nat.zero_le _);have G1 := g0.bx M.st;have hP := print_p G1.tabs G1.pow G1.form G1.step c _ 0 (ctF nm k1 q1 n1 k2 q2 n2 k3 q3 n3) (by rw [hcv]; exact u0.symm) hlc (Below.refl _ _) hm1 hr1;rw [hsf] at hP;refine sw_callR (by kernel_rfl) hP F ⟨rfl, rfl, rfl⟩ rfl rfl ?_;rintro e5 w5 ⟨rfl, hb5⟩;refine ⟨_, rfl, fun A F => ?_⟩;replace M := M.after2 hb5;clear hb5 hlc hP G1;refine mv F fun A F=>?_;refine sw_extr F ⟨rfl, rfl, rfl⟩ rfl rfl rfl fun A F => ?_;refine sw_extr F ⟨rfl, rfl, rfl⟩ rfl rfl rfl fun A F => ?_;refine as1 F fun A F=>?_;refine as1 F fun A F=>?_;refine en ?_;show Code.wp _ _ _ _ _;refine sw_seq (sw_reg ?_);refine ala F M 2 fun A F=>?_;refine ala F M 0 fun A F=>?_;have L1 := M.mem.val (k := 3) rfl;have L2 := M.mem.val (k := 1) rfl;obtain ⟨ss, ll, mm, rr, qs, s1, s2, s3⟩ := hsh
 obtain ⟨_, u1, u2, u3⟩ : nm = ss ∧ pvRows m1 = ll ∧ pvRows m2 = mm ∧ pvRows m3 = rr := by
  have h : ([.s nm, .l (pvRows m1), .l (pvRows m2), .l (pvRows m3)] : EV) = [.s ss, .l ll, .l mm, .l rr] := qs;injection h with h1 h
  injection h with h2 h
  injection h with h3 h
  injection h with h4 h
  injection h1 with h1
  injection h2 with h2
  injection h3 with h3
  injection h4 with h4
  exact ⟨h1, h2, h3, h4⟩
 subst u1 u2 u3;have C := (sameC_m w5 (nm := nm) (L1 (.l b1 d1 m1) (by simp [ctF])) (L1 (.l b2 d2 m2) (by simp [ctF])) (L1 (.l b3 d3 m3) (by simp [ctF])) (L2 (.l k1 q1 n1) (by simp [ctF])) (L2 (.l k2 q2 n2) (by simp [ctF])) (L2 (.l k3 q3 n3) (by simp [ctF])) r1 r2 r3 s1 s2 s3).2 w5 (Below.refl _ _) (fun _ q => q.elim);refine sw_callR (by kernel_rfl) C F ⟨rfl, rfl, rfl⟩ rfl rfl ?_;rintro e6 w6 ⟨v, fs, s', rfl, B6, x6, _, rfl⟩;refine ⟨_, rfl, fun A F => ?_⟩;replace M := M.after2 x6;refine as1 F fun A F=>?_;refine en ?_;show Code.wp _ _ _ _ _;refine sw_seq (sw_reg ?_);refine mv F fun A F=>?_;refine eqi F fun A F=>?_;refine mv F fun A F=>?_;refine on' F 2 ?_;refine mv F fun A F=>?_;refine on' F 2 ?_;refine eqi F fun A F=>?_;refine pkT F fun A F=>?_;refine mv F fun A F=>?_;refine on' F 6 ?_;refine mv F fun A F=>?_;refine on' F 6 ?_;refine mv F fun A F=>?_;refine on' F 6 ?_;refine sw_seq2 F ⟨rfl, rfl, rfl⟩ rfl rfl rfl fun A F => ?_;rw [show (s == s) = true from beq_self_eq_true s] at F;refine pkT F fun A F=>?_;refine mv F fun A F=>?_;refine on' F 11 ?_;refine mv F fun A F=>?_;refine pkT F fun A F=>?_;refine as1 F fun A F=>?_;refine en (wp_ret ?_);repeat first|refine tr ?_|refine br ?_
 exact sw_rettmp F Tryz.results3 rfl ⟨rfl, M.st⟩
end Go.Proofs.YtpofgnlkhkednaaGreatDoor
