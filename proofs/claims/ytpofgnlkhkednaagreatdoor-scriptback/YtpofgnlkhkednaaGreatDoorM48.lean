import Derived.Test.YtpofgnlkhkednaaGreatDoorM47
namespace Go.Proofs.YtpofgnlkhkednaaGreatDoor
open Go.RowKit
set_option linter.unusedVariables false
set_option linter.unusedSimpArgs false
set_option maxRecDepth 20000
set_option maxHeartbeats 8000000
def PG (l : List EV) : Prop := ∃ L : List (Key × Int), L.map paP = l ∧ (∀ p ∈ L, paF p = true) ∧ L.length ≤ 8
theorem paf {s : Key} {k : Int} (h : nmB s = true) (g : 1 ≤ k ∧ k ≤ 3) : paF (s, k) = true := by
 unfold paF;rw [h, decide_eq_true g]; rfl
theorem param_pc {l : Int} : Pc l l (fun p => paF p = true) paramT := Pc.bd Pc.name fun s hs => Pc.bd (Pc.take _) fun _ _ => Pc.bd Pc.kind fun k hk => Pc.pr (paf hs hk)
theorem PG.app {l : List EV} {p : Key × Int} (h : PG l) (g : paF p = true) (hn : (l.length : Int) < 8) : PG (l ++ [paP p]) := by
 obtain ⟨L, e, f, n⟩ := h;refine ⟨L ++ [p], by simp [e], fun q hq => ?_, ?_⟩
 ·rcases List.mem_append.1 hq with w | w
  ·exact f q w
  ·rw [List.mem_singleton.1 w]; exact g
 ·rw [← e] at hn;simp at hn ⊢;omega
theorem PG.one {p : Key × Int} (g : paF p = true) : PG [paP p] := ⟨[p], rfl, fun q hq => by rw [List.mem_singleton.1 hq]; exact g, Nat.succ_le_succ (Nat.zero_le 7)⟩
theorem pars_pc {lv : Int} : ∀ (n : Nat) (l : List EV), PG l → Pc lv lv PG (parsM n l)
 | 0, _, _ => Pc.fl
 | n + 1, l, hl => by
  rw [parsM];exact Pc.bd (Pc.is _) fun c _ => Pc.iT (Pc.bd Pc.room fun _ hn => Pc.bd (Pc.take _) fun _ _ => Pc.bd param_pc fun p hp => pars_pc n _ (hl.app hp hn)) (Pc.pr hl)
theorem params_pc (n : Nat) {lv : Int} : Pc lv lv PG (paramsM n) := Pc.bd (Pc.is _) fun c _ => Pc.iT (Pc.pr ⟨[], rfl, fun _ h => (by cases h), by decide⟩) (Pc.bd param_pc fun p hp => pars_pc n _ (PG.one hp))
def FG (lv : Int) (x : EV) : Prop := ∃ X : FT, X.pv = x ∧ X.fm = true ∧ lvl lv X.evs
theorem f_mk {lv k : Int} {s : Key} {o : Bool} {ps b : List EV} (hs : nmB s = true) (hp : PG ps) (hk : 1 ≤ k ∧ k ≤ 3) (hb : BI lv b) : FG lv (fnP s o ps k b) := by
 obtain ⟨P, rfl, hP, hn⟩ := hp;obtain ⟨⟨L, rfl, hL⟩, h32⟩ := hb
 have hf : (FT.mk s o P k L).fm = true := by
  unfold FT.fm;have e1 : P.all paF = true := List.all_eq_true.2 hP;have e2 : ST.fms L = true := by rw [ST.fms_all]; exact List.all_eq_true.2 fun X hX => (hL X hX).1
  simp only [hs, e1, e2, decide_eq_true hk, Bool.and_self]
 refine ⟨⟨s, o, P, k, L⟩, by rw [FT.pv, ST.pvs_map], hf, ?_⟩;rw [ft_ev hf (by simp; omega)]
 have hb : ∀ b ∈ P.map paramV, nt b = 0 := fun b hb => by
  obtain ⟨z, hz, rfl⟩ := List.mem_map.1 hb;exact (param_ok (hP z hz)).1
 have e0 : lvl lv (if o then tkn kOpen else []) ∧ nt (if o then tkn kOpen else []) = 0 := by cases o <;> exact ⟨trivial, rfl⟩
 have lp : ∀ (P : List (Key × Int)), (∀ p ∈ P, paF p = true) → lvl lv (sepV (P.map paramV)) := by
  intro P
  induction P with
  | nil => exact fun _ => trivial
  | cons p P ih =>
   intro hP
   have one : lvl lv (paramV p) := by
    rw [(param_ev (hP p (by simp))).1]; trivial
   cases P with
   | nil => exact one
   | cons q P =>
    rw [List.map_cons, List.map_cons, sep_cons];simp only [lvl_app, nt_app, (param_ok (hP p (by simp))).1, nt_tkn, lvl_tkn, Int.add_zero, and_true];exact ⟨one, ih fun d hd => hP d (List.mem_cons_of_mem _ hd)⟩
 simp only [lvl_app, lvl_tkn, nt_app, nt_tkn, e0.2, nt_sep _ hb, Int.add_zero, Int.zero_add, true_and];exact ⟨e0.1, lp P hP, lvl_blk hL h32⟩
theorem fn_pc (n : Nat) {lv : Int} (h0 : 0 ≤ lv) : Pc lv lv (FG lv) (fnM n) := Pc.bd (Pc.is _) fun o _ => Pc.bd (Pc.iT (Pc.take _) (Pc.pr trivial)) fun _ _ => Pc.bd (Pc.take _) fun _ _ => Pc.bd Pc.name fun s hs => Pc.bd (Pc.take _) fun _ _ => Pc.bd (params_pc n) fun l hl => Pc.bd (Pc.take _) fun _ _ => Pc.bd (Pc.take _) fun _ _ => Pc.bd Pc.kind fun k hk => Pc.bd (step_pc n lv h0).2.2.2.2.1 fun b hb => Pc.pr (f_mk hs hl hk hb)
def TG (x : EV) : Prop := ∃ t, tbV t = x ∧ taF t = true
theorem table_pc {lv : Int} : Pc lv lv TG tableT := Pc.bd (Pc.take _) fun _ _ => Pc.bd Pc.name fun s hs => Pc.bd (Pc.take _) fun _ _ => Pc.bd Pc.kind fun k hk => Pc.bd (Pc.take _) fun _ _ => Pc.bd Pc.kind fun j hj => Pc.bd (Pc.take _) fun _ _ => Pc.pr ⟨(s, k, j), rfl, by
 unfold taF
 simp only [hs, decide_eq_true hk, decide_eq_true hj, Bool.and_self]⟩
def IG (c : CT) : Prop := ∃ (S : List (Key × Int)) (T : List (Key × Int × Int)) (F : List FT), c = (S.map paP, T.map tbV, F.map FT.pv) ∧ (∀ p ∈ S, paF p = true) ∧ (∀ t ∈ T, taF t = true) ∧ (∀ f ∈ F, f.fm = true ∧ lvl 0 f.evs) ∧ S.length + T.length ≤ 32 ∧ F.length ≤ 32
theorem mem_app1 {α : Type} {P : α → Prop} {l : List α} {x : α} (h : ∀ y ∈ l, P y) (g : P x) : ∀ y ∈ l ++ [x], P y := fun y q => by
 rcases List.mem_append.1 q with w | w
 ·exact h y w
 ·rw [List.mem_singleton.1 w]; exact g
theorem item_pc (n : Nat) (c : CT) (h : IG c) : Pc 0 0 IG (itemM n c) := by
 obtain ⟨S, T, F, rfl, h1, h2, h3, h4, h5⟩ := h
 have fn : ∀ f, FG 0 f → (((F.map FT.pv).length : Nat) : Int) < 32 → IG (S.map paP, T.map tbV, F.map FT.pv ++ [f]) := by
  rintro f ⟨X, rfl, a, b⟩ hn;simp only [List.length_map] at hn;exact ⟨S, T, F ++ [X], by simp, h1, h2, mem_app1 h3 ⟨a, b⟩, h4, by simp; omega⟩
 refine Pc.bd (Pc.is _) fun a _ => Pc.iT (Pc.bd Pc.room fun _ hn => Pc.bd (Pc.take _) fun _ _ => Pc.bd param_pc fun p hp => Pc.bd (Pc.take _) fun _ _ => Pc.pr ?_)
  (Pc.bd (Pc.is _) fun a _ => Pc.iT (Pc.bd Pc.room fun _ hn => Pc.bd table_pc fun t ht => Pc.pr ?_)
   (Pc.bd (Pc.is _) fun a _ => Pc.iT (Pc.bd Pc.room fun _ hn => Pc.bd (fn_pc n (Int.le_refl 0)) fun f hf => Pc.pr (fn f hf hn)) (Pc.bd (Pc.is _) fun a _ => Pc.iT (Pc.bd Pc.room fun _ hn => Pc.bd (fn_pc n (Int.le_refl 0)) fun f hf => Pc.pr (fn f hf hn)) Pc.wr)))
 ·simp only [List.length_map] at hn;exact ⟨S ++ [p], T, F, by simp, mem_app1 h1 hp, h2, h3, by simp; omega, h5⟩
 ·obtain ⟨u, rfl, hu⟩ := ht;simp only [List.length_map] at hn;exact ⟨S, T ++ [u], F, by simp, h1, mem_app1 h2 hu, h3, by simp; omega, h5⟩
theorem items_pc : ∀ (n : Nat) (c : CT), IG c → Pc 0 0 IG (itemsM n c)
 | 0, _, _ => Pc.fl
 | n + 1, c, h => by
  rw [itemsM];exact Pc.bd (Pc.is _) fun e _ => Pc.iT (Pc.pr h) (Pc.bd (item_pc n c h) fun c hc => items_pc n c hc)
def CG (x : EV) : Prop := ∃ c : CTr, c.pv = x ∧ c.fm = true ∧ lvl 0 c.evs
theorem c_mk {s : Key} {c : CT} (hs : nmB s = true) (h : IG c) : CG (ctP s c) := by
 obtain ⟨S, T, F, rfl, h1, h2, h3, h4, h5⟩ := h
 have hf : (CTr.mk s S T F).fm = true := by
  unfold CTr.fm;have e1 : S.all paF = true := List.all_eq_true.2 h1;have e2 : T.all taF = true := List.all_eq_true.2 h2;have e3 : F.all FT.fm = true := List.all_eq_true.2 fun f q => (h3 f q).1;simp only [hs, e1, e2, e3, Bool.and_self]
 refine ⟨⟨s, S, T, F⟩, rfl, hf, ?_⟩;rw [ct_ev hf, if_neg (by simp only; omega)]
 have l1 : ∀ S : List (Key × Int), (∀ p ∈ S, paF p = true) → lvl 0 (S.map slotV).flatten ∧ nt (S.map slotV).flatten = 0 := by
  intro S
  induction S with
  | nil => exact fun _ => ⟨trivial, rfl⟩
  | cons p S ih =>
   intro h;obtain ⟨a, b⟩ := ih fun d hd => h d (List.mem_cons_of_mem _ hd);have q := (slot_ok (h p (by simp))).1
   have w : lvl 0 (slotV p) := by
    unfold slotV;rw [(param_ev (h p (by simp))).1]; trivial
   rw [List.map_cons, List.flatten_cons, lvl_app, nt_app, q, b];exact ⟨⟨w, a⟩, rfl⟩
 have l2 : ∀ T : List (Key × Int × Int), (∀ p ∈ T, taF p = true) → lvl 0 (T.map mapV).flatten ∧ nt (T.map mapV).flatten = 0 := by
  intro T
  induction T with
  | nil => exact fun _ => ⟨trivial, rfl⟩
  | cons p T ih =>
   intro h;obtain ⟨a, b⟩ := ih fun d hd => h d (List.mem_cons_of_mem _ hd);have q := (map_ok (h p (by simp))).1
   have w : lvl 0 (mapV p) := by
    obtain ⟨x, y, z, _⟩ := table_ev (h p (by simp));unfold mapV;rw [x, y, z]; trivial
   rw [List.map_cons, List.flatten_cons, lvl_app, nt_app, q, b];exact ⟨⟨w, a⟩, rfl⟩
 have l3 : ∀ F : List FT, (∀ f ∈ F, f.fm = true ∧ lvl 0 f.evs) → lvl 0 (F.map FT.evs).flatten ∧ nt (F.map FT.evs).flatten = 0 := by
  intro F
  induction F with
  | nil => exact fun _ => ⟨trivial, rfl⟩
  | cons p F ih =>
   intro h;obtain ⟨a, b⟩ := ih fun d hd => h d (List.mem_cons_of_mem _ hd);have q := (ft_ok (h p (by simp)).1).1;rw [List.map_cons, List.flatten_cons, lvl_app, nt_app, q, b];exact ⟨⟨(h p (by simp)).2, a⟩, rfl⟩
 simp only [lvl_app, lvl_tkn, lvl_nil, nt_app, nt_tkn, nt, (l1 S h1).2, (l2 T h2).2, (l3 F h3).2, Int.add_zero, true_and, and_true];exact ⟨(l1 S h1).1, (l2 T h2).1, (l3 F h3).1⟩
theorem parse_pc (n : Nat) : Pc 0 0 CG (parseM n) := Pc.bd Pc.next fun _ _ => Pc.bd (Pc.bd (Q := CG) (Pc.take _) fun _ _ => Pc.bd Pc.name fun s hs => Pc.bd (Pc.take _) fun _ _ => Pc.bd (items_pc n _ ⟨[], [], [], rfl, fun _ h => (by cases h), fun _ h => (by cases h), fun _ h => (by cases h), by decide, by decide⟩) fun c hc => Pc.bd (Pc.take _) fun _ _ => Pc.pr (c_mk hs hc)) fun x hx => Pc.bd (R := An) (l2 := 0) (fun σ y τ sn e1 e => by
  unfold endT at e
  split at e
  ·injection e with e; injection e with _ e; subst e
   exact ⟨sn, e1, trivial⟩
  ·cases e) fun _ _ => Pc.pr hx
theorem back {text : Key} {x : EV} {σ : St} (h : Rv parseM (.ok ⟨text, .none, 0⟩) x (.ok σ)) : ∃ c : CTr, c.pv = x ∧ c.fm = true ∧ ∀ s f, endP (PS.zero.run c.evs) = (s, f) → f = 3 ∨ (f = 0 ∧ s.length ≤ 2048 ∧ Rv parseM (.ok ⟨s, .none, 0⟩) x (.ok (stOf [] 0))) := by
 obtain ⟨n, h⟩ := h;have h := h n (Nat.le_refl _)
 cases hF : parseM n ⟨text, .none, 0⟩ with
 | error e => cases h.get_err hF
 | ok p =>
  obtain ⟨y, τ⟩ := p;have hxy := (h.get_ok hF).1;have sn : Sn ⟨text, .none, 0⟩ := ⟨⟨fun s q => (by cases q), fun s q => (by cases q)⟩, fun n q => (by cases q), Int.le_refl 0, (show (0 : Int) ≤ 32 by decide)⟩;obtain ⟨_, _, c, e, f, g⟩ := parse_pc n _ _ _ sn rfl hF;subst hxy;refine ⟨c, e, f, fun s w q => ?_⟩;obtain ⟨r1, r2⟩ := lvl_run c.evs PS.zero g (by decide)
  have hod : (PS.zero.run c.evs).od = false := by
   rw [od_run, od_ct, f]; rfl
  have q0 := q;unfold endP at q;rw [hod, r2, if_neg (by decide)] at q
  split at q
  ·injection q with _ q; exact .inl q.symm
  ·rw [if_neg (by omega)] at q;injection q with _ q2
   subst q2;obtain ⟨a, b⟩ := back_all f q0;rw [e] at a;exact .inr ⟨rfl, b, a⟩
theorem sameP_m (w0 : World) {lo lo' : Nat} {la lb : Option Addr} {lc ld : Nat} {es gs : List (List Fld)} (hA : (Fld.l la lc es).lies lo w0) (hB : (Fld.l lb ld gs).lies lo' w0) (he : pvRows es = pvRows gs) (sh : ∀ x ∈ pvRows es, ShP x) : Meth Tryz.prog (Bx w0) (fun _ => False) 13 [.slice la es.length lc, .slice lb gs.length ld] () (fun v _ _ => v = .bool true) := by
 refine ⟨by kernel_rfl, fun wO R _ => ?_⟩;have M := bx_begin R;refine sw_fn Tryz.func13 rfl 26 Tryz.ntmps13 rfl fun A F => ?_;refine sq (rg ?_);refine as1 F fun A F=>?_;refine en (sq (sq (rg ?_)));refine mv F fun A F=>?_;refine sw_len F ⟨rfl, rfl, rfl⟩ rfl (Tryz.underlying22) rfl fun A F => ?_;refine mv F fun A F=>?_;refine sw_len F ⟨rfl, rfl, rfl⟩ rfl (Tryz.underlying22) rfl fun A F => ?_;refine sw_nn (by rw [len_of he]) F ⟨rfl, rfl, rfl⟩ rfl rfl rfl fun A F => ?_;refine en (sw_false F rfl ?_);refine wp_skip (sq (sq (rg ?_)));refine as1 F fun A F=>?_;refine en (wp_block ?_);refine wp_loop (fun A w => ∃ k : Nat, k ≤ es.length ∧ Fm 26 [(5, .int .i64 (k : Int)), (0, .slice la es.length lc), (1, .slice lb gs.length ld)] A ∧ Mm (Bx w0) (fun _ => False) wO [] () w) (fun A _ => es.length - (intOf (A.eval (.tmp 5))).toNat) ?_ ?_
 ·exact ⟨0, Nat.zero_le _, F.keep [5, 0, 1] rfl, M⟩
 repeat clear F
 repeat clear M
 rintro A w ⟨k, hlk, F, M⟩;have hAk : A.eval (.tmp 5) = .int .i64 (k : Int) := F.2.2 5 _ rfl;refine sq (sq (rg ?_));refine mv F fun A F=>?_;refine mv F fun A F=>?_;refine sw_len F ⟨rfl, rfl, rfl⟩ rfl (Tryz.underlying22) rfl fun A F => ?_;refine lsi F fun A F=>?_;refine en (cd F (fun hck=>?_) fun hck=>?_)
 ·have hkk : k < es.length := by have := of_decide_eq_true hck; omega
  obtain ⟨bk, ok, dk, rfl, hdk, rak, lik, hmk⟩ := el_at hA (sz_of (n := 2) fun x hx => by obtain ⟨s, n, rfl⟩ := sh x hx; rfl) hkk;obtain ⟨bkq, okq, dkq, rfl, hdkq, rbk, likq, hmkq⟩ := el_at hB (sz_of (n := 2) fun x hx => by obtain ⟨s, n, rfl⟩ := sh x (by rw [he]; exact hx); rfl) (k := k) (by rw [len_of he]; exact hkk);have hqk := el_same he hdk hdkq;obtain ⟨s, n, hs⟩ := sh _ hmk;have e1 := inv_P hs;have e2 := inv_P (hqk.trans hs);subst e1 e2;refine wp_skip (sq ?_);refine wp_block ?_;refine sq ?_;refine wp_region_held (S := fun w' => Bx w0 () w') (by kernel_rfl) ?_;show wpAnyH _ _ _ _ _ _ _ _ w.drew;replace M := M.drew;have hS : Bx w0 () w.drew := M.st;refine dm F 0 hS fun A F=>?_;refine dm F 1 hS fun A F=>?_;refine sd_at F 2 2 rfl ⟨rfl, rfl, rfl⟩ rfl rfl hkk Tryz.underlying22 (by kernel_rfl) (by kernel_rfl) (by kernel_rfl) (by kernel_rfl) (fun _ _ _ h => h) rfl hS fun A F => ?_;refine sd_rng F 3 (cs := [.string (str s), .int .i64 n]) rfl ⟨rfl, rfl, rfl⟩ rfl (by kernel_rfl) (by kernel_rfl) (fun w h => rak w h) (by kernel_rfl) (by kernel_rfl) (by kernel_rfl) (fun _ _ _ h => h) rfl hS fun A F => ?_;refine dm F 4 hS fun A F=>?_;refine dm F 5 hS fun A F=>?_;refine sd_at F 6 2 rfl ⟨rfl, rfl, rfl⟩ rfl rfl (by rw [len_of he]; exact hkk) Tryz.underlying22 (by kernel_rfl) (by kernel_rfl) (by kernel_rfl) (by kernel_rfl) (fun _ _ _ h => h) rfl hS fun A F => ?_;refine sd_rng F 7 (cs := [.string (str s), .int .i64 n]) rfl ⟨rfl, rfl, rfl⟩ rfl (by kernel_rfl) (by kernel_rfl) (fun w h => rbk w h) (by kernel_rfl) (by kernel_rfl) (by kernel_rfl) (fun _ _ _ h => h) rfl hS fun A F => ?_;refine sd_val (v := .bool false) F 8 rfl (by kernel_rfl) (by kernel_rfl) (by kernel_rfl) (fun _ _ _ h => h) rfl rfl rfl (fun _ _ => run_nP rfl (F.ev rfl) (F.ev rfl)) hS fun A F => ?_;clear hS;refine wpAnyH_done (by kernel_rfl) ?_ _;show Code.wp _ _ _ _ _;refine sw_false F rfl ?_;refine wp_skip (rg ?_);refine mv F fun A F=>?_;refine sw_add F ⟨rfl, rfl, rfl⟩ rfl rfl (by have := lie_max hA; omega) rfl fun A F => ?_;refine as1 F fun A F=>?_;refine sw_end ?_;show _ ∧ _;refine ⟨⟨k + 1, by omega, F.keep [5, 0, 1] rfl, M⟩, ?_⟩;rw [(F.keep (N := 26) (L' := [(5, .int .i64 ((k + 1 : Nat) : Int))]) [5] rfl).2.2 5 (.int .i64 ((k + 1 : Nat) : Int)) rfl, hAk];simp only [intOf];omega
 refine wp_exit ?_;repeat (first | refine then_exit ?_ | refine exit_block ?_ | refine exit_pass rfl ?_)
 show Code.wp _ _ _ _ _;refine sq (rg ?_);refine as1 F fun A F=>?_;refine en (wp_ret ?_);repeat first|refine tr ?_|refine br ?_
 exact sw_rettmp F Tryz.results13 rfl (ze M rfl)
theorem ShE.out {x : EV} (h : ShE x) : ∃ op n s es, x = exP op n s es ∧ ShL es := by
 cases h with
 | mk op n s es h => exact ⟨op, n, s, es, rfl, h⟩
theorem ShL.four {es : List (List Fld)} (h : ShL (pvRows es)) : ∀ d ∈ es, d.length = 4 := sz_of (n := 4) fun x hx => by
 obtain ⟨op, n, s, es, rfl, _⟩ := (h x hx).out;rfl
theorem sameE_m : ∀ (v : EV), ShE v → ∀ (w0 : World) (lo lo' : Nat) (d d' : List Fld), pvAll d = v → pvAll d' = v → lieAll lo w0 d → lieAll lo' w0 d' → Meth Tryz.prog (Bx w0) (fun _ => False) 33 [.agg (d.map Fld.val).toArray, .agg (d'.map Fld.val).toArray] () (fun v _ _ => v = .bool true) := by
 intro v hv
 induction hv with
 | mk op n s es hes ih =>
  intro w0 lo lo' d d' hd hd' hl hl';obtain ⟨la, lc, e, rfl, h1⟩ := inv_E hd;obtain ⟨lb, ld, f, rfl, h2⟩ := inv_E hd';have hA : (Fld.l la lc e).lies lo w0 := hl _ (by simp);have hB : (Fld.l lb ld f).lies lo' w0 := hl' _ (by simp);have he : pvRows e = pvRows f := h1.trans h2.symm;have hsA : ∀ d ∈ e, d.length = 4 := ShL.four (by rw [h1]; exact hes);have hsB : ∀ d ∈ f, d.length = 4 := ShL.four (by rw [h2]; exact hes);clear hd hd' hl hl';refine ⟨by kernel_rfl, fun wO R _ => ?_⟩;have M := bx_begin R;refine sw_fn Tryz.func33 rfl 53 Tryz.ntmps33 rfl fun A F => ?_;refine sq (rg ?_);refine sw_box F M [.int .i64 op, .int .i64 n, .string (str s), .slice la e.length lc] ⟨rfl, rfl, rfl⟩ rfl rfl rfl fun x1 A w F M => ?_;refine sw_box F M [.int .i64 op, .int .i64 n, .string (str s), .slice lb f.length ld] ⟨rfl, rfl, rfl⟩ rfl rfl rfl fun x2 A w F M => ?_;refine as1 F fun A F=>?_;refine en (sq (sq (rg ?_)));refine fl F 0 fun A F=>?_;refine ce F M 1 fun A F=>?_;refine fl F 0 fun A F=>?_;refine ce F M 0 fun A F=>?_;refine sw_ni F ⟨rfl, rfl, rfl⟩ rfl rfl rfl fun A F => ?_;refine mv F fun A F=>?_;refine on' F 5 ?_;refine fl F 1 fun A F=>?_;refine on' F 5 ?_;refine ce F M 1 fun A F=>?_;refine on' F 5 ?_;refine fl F 1 fun A F=>?_;refine on' F 5 ?_;refine ce F M 0 fun A F=>?_;refine on' F 5 ?_;refine sw_ni F ⟨rfl, rfl, rfl⟩ rfl rfl rfl fun A F => ?_;refine pkF F fun A F=>?_;refine mv F fun A F=>?_;refine on' F 12 ?_;refine fl F 2 fun A F=>?_;refine on' F 12 ?_;refine ce F M 1 fun A F=>?_;refine on' F 12 ?_;refine fl F 2 fun A F=>?_;refine on' F 12 ?_;refine ce F M 0 fun A F=>?_;refine on' F 12 ?_;refine sw_ns F ⟨rfl, rfl, rfl⟩ rfl rfl rfl fun A F => ?_;refine pkF F fun A F=>?_;refine mv F fun A F=>?_;refine on' F 19 ?_;refine fl F 3 fun A F=>?_;refine on' F 19 ?_;refine ce F M 1 fun A F=>?_;refine on' F 19 ?_;refine sw_len F ⟨rfl, rfl, rfl⟩ rfl (Tryz.underlying75) rfl fun A F => ?_;refine on' F 19 ?_;refine fl F 3 fun A F=>?_;refine on' F 19 ?_;refine ce F M 0 fun A F=>?_;refine on' F 19 ?_;refine sw_len F ⟨rfl, rfl, rfl⟩ rfl (Tryz.underlying75) rfl fun A F => ?_;refine on' F 19 ?_;refine sw_nn (by rw [len_of he]) F ⟨rfl, rfl, rfl⟩ rfl rfl rfl fun A F => ?_;refine pkF F fun A F=>?_;refine en (sw_false F rfl ?_);refine wp_skip (sq (sq (rg ?_)));refine as1 F fun A F=>?_;refine en (wp_block ?_);refine wp_loop (fun A w => ∃ k : Nat, k ≤ e.length ∧ Fm 53 [(5, .int .i64 (k : Int)), (2, .pointer (some ⟨x1, 0, none⟩)), (3, .pointer (some ⟨x2, 0, none⟩))] A ∧ Mm (Bx w0) (fun _ => False) wO [.box x2 [.int .i64 op, .int .i64 n, .string (str s), .slice lb f.length ld] 80, .box x1 [.int .i64 op, .int .i64 n, .string (str s), .slice la e.length lc] 80] () w) (fun A _ => e.length - (intOf (A.eval (.tmp 5))).toNat) ?_ ?_
  ·exact ⟨0, Nat.zero_le _, F.keep [5, 2, 3] rfl, M⟩
  repeat clear F
  repeat clear M
  rintro A w ⟨k, hlk, F, M⟩;have hAk : A.eval (.tmp 5) = .int .i64 (k : Int) := F.2.2 5 _ rfl;refine sq (sq (rg ?_));refine mv F fun A F=>?_;refine fl F 3 fun A F=>?_;refine ce F M 1 fun A F=>?_;refine sw_len F ⟨rfl, rfl, rfl⟩ rfl (Tryz.underlying75) rfl fun A F => ?_;refine lsi F fun A F=>?_;refine en (cd F (fun hck=>?_) fun hck=>?_)
  ·have hkk : k < e.length := by have := of_decide_eq_true hck; omega
   obtain ⟨bk, ok, dk, rfl, hdk, rak, lik, hmk⟩ := el_at hA hsA hkk;obtain ⟨bkq, okq, dkq, rfl, hdkq, rbk, likq, hmkq⟩ := el_at hB hsB (k := k) (by rw [len_of he]; exact hkk);have hqk := el_same he hdk hdkq;have hm2 : pvAll dk ∈ es := by rw [← h1]; exact hmk
   obtain ⟨opk, nk, sk, esk, hek, _⟩ := (hes _ hm2).out;obtain ⟨lak, lck, ek, e1, _⟩ := inv_E hek;obtain ⟨lbk, ldk, fk, e2, _⟩ := inv_E (hqk.trans hek);subst e1 e2;refine wp_skip (sq ?_);refine wp_block ?_;refine sq ?_;refine wp_region_held (S := fun w' => w'.cell? ⟨x1, 3, none⟩ = some (.slice (some ⟨bk, ok, none⟩) e.length lc) ∧ w'.cell? ⟨x2, 3, none⟩ = some (.slice (some ⟨bkq, okq, none⟩) f.length ld) ∧ Bx w0 () w') (by kernel_rfl) ?_;show wpAnyH _ _ _ _ _ _ _ _ w.drew;replace M := M.drew;have hS : w.drew.cell? ⟨x1, 3, none⟩ = some (.slice (some ⟨bk, ok, none⟩) e.length lc) ∧ w.drew.cell? ⟨x2, 3, none⟩ = some (.slice (some ⟨bkq, okq, none⟩) f.length ld) ∧ Bx w0 () w.drew := ⟨M.cell 1 rfl rfl, M.cell 0 rfl rfl, M.st⟩;refine df F 0 3 hS fun A F=>?_;refine dc F 1 (fun _ h => h.1) hS fun A F=>?_;refine dm F 2 hS fun A F=>?_;refine sd_at F 3 4 rfl ⟨rfl, rfl, rfl⟩ rfl rfl hkk Tryz.underlying75 (by kernel_rfl) (by kernel_rfl) (by kernel_rfl) (by kernel_rfl) (fun _ _ _ h => h) rfl hS fun A F => ?_;refine sd_rng F 4 (cs := [.int .i64 opk, .int .i64 nk, .string (str sk), .slice lak ek.length lck]) rfl ⟨rfl, rfl, rfl⟩ rfl (by kernel_rfl) (by kernel_rfl) (fun w h => rak w h.2.2) (by kernel_rfl) (by kernel_rfl) (by kernel_rfl) (fun _ _ _ h => h) rfl hS fun A F => ?_;refine df F 5 3 hS fun A F=>?_;refine dc F 6 (fun _ h => h.2.1) hS fun A F=>?_;refine dm F 7 hS fun A F=>?_;refine sd_at F 8 4 rfl ⟨rfl, rfl, rfl⟩ rfl rfl (by rw [len_of he]; exact hkk) Tryz.underlying75 (by kernel_rfl) (by kernel_rfl) (by kernel_rfl) (by kernel_rfl) (fun _ _ _ h => h) rfl hS fun A F => ?_;refine sd_rng F 9 (cs := [.int .i64 opk, .int .i64 nk, .string (str sk), .slice lbk fk.length ldk]) rfl ⟨rfl, rfl, rfl⟩ rfl (by kernel_rfl) (by kernel_rfl) (fun w h => rbk w h.2.2) (by kernel_rfl) (by kernel_rfl) (by kernel_rfl) (fun _ _ _ h => h) rfl hS fun A F => ?_;clear hS;refine sd_one 10 rfl (by kernel_rfl) rfl ?_;refine sw_call0 (ih _ hm2 w0 lo lo' _ _ (Eq.refl _) hqk lik likq) F M ⟨rfl, rfl, rfl⟩ rfl rfl ?_;rintro _ _ A w ⟨_, rfl⟩ F M;have hS : w.cell? ⟨x1, 3, none⟩ = some (.slice (some ⟨bk, ok, none⟩) e.length lc) ∧ w.cell? ⟨x2, 3, none⟩ = some (.slice (some ⟨bkq, okq, none⟩) f.length ld) ∧ Bx w0 () w := ⟨M.cell 1 rfl rfl, M.cell 0 rfl rfl, M.st⟩;refine sw_end ⟨hS, ?_⟩;refine sd_one 11 rfl (by kernel_rfl) rfl ?_;refine sw_not F ⟨rfl, rfl, rfl⟩ rfl rfl fun A F => ?_;refine sw_end ⟨hS, ?_⟩;clear hS;refine wpAnyH_done (by kernel_rfl) ?_ _;show Code.wp _ _ _ _ _;refine sw_false F rfl ?_;refine wp_skip (rg ?_);refine mv F fun A F=>?_;refine sw_add F ⟨rfl, rfl, rfl⟩ rfl rfl (by have := lie_max hA; omega) rfl fun A F => ?_;refine as1 F fun A F=>?_;refine sw_end ?_;show _ ∧ _;refine ⟨⟨k + 1, by omega, F.keep [5, 2, 3] rfl, M⟩, ?_⟩;rw [(F.keep (N := 53) (L' := [(5, .int .i64 ((k + 1 : Nat) : Int))]) [5] rfl).2.2 5 (.int .i64 ((k + 1 : Nat) : Int)) rfl, hAk];simp only [intOf];omega
  refine wp_exit ?_;repeat (first | refine then_exit ?_ | refine exit_block ?_ | refine exit_pass rfl ?_)
  show Code.wp _ _ _ _ _;refine sq (rg ?_);refine as1 F fun A F=>?_;refine en (wp_ret ?_);repeat first|refine tr ?_|refine br ?_
  exact sw_rettmp F Tryz.results33 rfl (ze M rfl)
end Go.Proofs.YtpofgnlkhkednaaGreatDoor
