import Derived.Test.YtpofgnlkhkednaaGreatDoorM15
import Derived.Test.YtpofgnlkhkednaaGreatDoorSB2
namespace Go.Proofs.YtpofgnlkhkednaaGreatDoor
open Go.RowKit
set_option linter.unusedVariables false
set_option linter.unusedSimpArgs false
set_option maxRecDepth 20000
set_option maxHeartbeats 8000000
mutual
def XT.pv : XT → EV
 | .mk op n s ar => exP op n s (XT.pvs ar)
def XT.pvs : List XT → List EV
 | [] => []
 | x :: r => x.pv :: XT.pvs r
end
theorem XT.pvs_map : ∀ l : List XT, XT.pvs l = l.map XT.pv
 | [] => rfl
 | x :: r => by rw [XT.pvs, XT.pvs_map r]; rfl
mutual
def ST.pv : ST → EV
 | .mk k nm al ca ty es bs ls => stP k nm al ca ty (es.map XT.pv) (ST.pvs bs) (ST.pvs ls)
def ST.pvs : List ST → List EV
 | [] => []
 | x :: r => x.pv :: ST.pvs r
end
theorem ST.pvs_map : ∀ l : List ST, ST.pvs l = l.map ST.pv
 | [] => rfl
 | x :: r => by rw [ST.pvs, ST.pvs_map r]; rfl
def tbV (t : Key × Int × Int) : EV := tbP t.1 t.2.1 t.2.2
def FT.pv (f : FT) : EV := fnP f.nm f.op (f.ps.map paP) f.ty (ST.pvs f.bs)
def CTr.pv (c : CTr) : EV := ctP c.nm (c.sl.map paP, c.tb.map tbV, c.fn.map FT.pv)
def wtE : PEv → Nat
 | .tok s => s.length + 1
 | _ => 1
def wtV : List PEv → Nat
 | [] => 0
 | e :: r => wtE e + wtV r
theorem wtV_app : ∀ (l m : List PEv), wtV (l ++ m) = wtV l + wtV m
 | [], m => by simp [wtV]
 | e :: l, m => by
  show wtE e + wtV (l ++ m) = wtE e + wtV l + wtV m;rw [wtV_app l m]; omega
def Rm (p : PS) (n : Nat) : Prop := p.tx.length + n ≤ 1099511627776 ∧ -1099511627776 ≤ p.lv - n ∧ p.lv + n ≤ 1099511627776 ∧ -1099511627776 ≤ p.mx ∧ p.mx ≤ 1099511627776
def Fit (p : PS) (l : List PEv) : Prop := Rm p (wtV l)
theorem sayK_len (t s : Key) : (sayK t s).length ≤ t.length + (s.length + 1) := by
 unfold sayK
 split
 ·simp; omega
 ·simp only [List.length_append, List.length_cons, List.length_nil]; omega
theorem Rm.step {p : PS} {e : PEv} {n : Nat} (h : Rm p (wtE e + n)) : Rm (p.step e) n := by
 obtain ⟨h1, h2, h3, h4, h5⟩ := h
 cases e with
 | tok s =>
  have := sayK_len p.tx s;have hw : wtE (.tok s) = s.length + 1 := rfl;rw [hw] at h1 h2 h3;refine ⟨?_, ?_, ?_, h4, h5⟩
  ·show (sayK p.tx s).length + n ≤ _; omega
  ·show _ ≤ p.lv - n; omega
  ·show p.lv + n ≤ _; omega
 | up =>
  have hw : wtE .up = 1 := rfl;rw [hw] at h1 h2 h3;refine ⟨?_, ?_, ?_, ?_, ?_⟩
  ·show p.tx.length + n ≤ _; omega
  ·show _ ≤ p.lv + 1 - n; omega
  ·show p.lv + 1 + n ≤ _; omega
  ·show _ ≤ max p.mx (p.lv + 1); omega
  ·show max p.mx (p.lv + 1) ≤ _; omega
 | down =>
  have hw : wtE .down = 1 := rfl;rw [hw] at h1 h2 h3;refine ⟨?_, ?_, ?_, h4, h5⟩
  ·show p.tx.length + n ≤ _; omega
  ·show _ ≤ p.lv - 1 - n; omega
  ·show p.lv - 1 + n ≤ _; omega
 | far =>
  have hw : wtE .far = 1 := rfl;rw [hw] at h1 h2 h3;refine ⟨?_, ?_, ?_, h4, h5⟩
  ·show p.tx.length + n ≤ _; omega
  ·show _ ≤ p.lv - n; omega
  ·show p.lv + n ≤ _; omega
 | odd =>
  have hw : wtE .odd = 1 := rfl;rw [hw] at h1 h2 h3;refine ⟨?_, ?_, ?_, h4, h5⟩
  ·show p.tx.length + n ≤ _; omega
  ·show _ ≤ p.lv - n; omega
  ·show p.lv + n ≤ _; omega
theorem Rm.run : ∀ (l : List PEv) {p : PS} {n : Nat}, Rm p (wtV l + n) → Rm (p.run l) n
 | [], p, n, h => by
  have e : wtV ([] : List PEv) + n = n := Nat.zero_add n;rw [e] at h;exact h
 | e :: l, p, n, h => Rm.run l (p := p.step e) (Rm.step (by
  have : wtV (e :: l) + n = wtE e + (wtV l + n) := by show wtE e + wtV l + n = _; omega
  rw [← this]; exact h))
theorem Rm.less {p : PS} {m n : Nat} (h : Rm p n) (k : m ≤ n) : Rm p m := by
 obtain ⟨h1, h2, h3, h4, h5⟩ := h;exact ⟨by omega, by omega, by omega, h4, h5⟩
theorem Fit.l {p : PS} {a b : List PEv} (h : Fit p (a ++ b)) : Fit p a := Rm.less h (by rw [wtV_app]; omega)
theorem Fit.r {p : PS} {a b : List PEv} (h : Fit p (a ++ b)) : Fit (p.run a) b := Rm.run a (by unfold Fit at h; rw [wtV_app] at h; exact h)
theorem fixed_inj {s t : Key} (h : tkOf s = .fixed t) : s = t := by
 unfold tkOf at h
 split at h
 ·injection h
 ·split at h <;> cases h
theorem now_ne {s t : Key} {k : List Key} {lv : Int} (h : s ≠ t) : (stOf (s :: k) lv).now ≠ .fixed t := fun q => h (fixed_inj q)
theorem rv_at {α : Type} {F F' : Nat → PM α} {σ : St} {S' : ES} {x : α} (e : ∀ n, F n σ = F' n σ) (h : Rv F' (.ok σ) x S') : Rv F (.ok σ) x S' := by
 obtain ⟨n0, h⟩ := h;refine ⟨n0, fun n hn => ?_⟩;have := h n hn;unfold Rel at this ⊢;simp only [e n];exact this
theorem good_fix {s : Key} (h : s ∈ wordL ∨ s ∈ signL) : Good s := by
 rcases h with h | h
 ·exact .inl h
 ·exact .inr (.inl h)
theorem g40 : Good [40] := good_fix (.inr (by decide))
theorem g41 : Good [41] := good_fix (.inr (by decide))
theorem g44 : Good [44] := good_fix (.inr (by decide))
theorem g91 : Good [91] := good_fix (.inr (by decide))
theorem g93 : Good [93] := good_fix (.inr (by decide))
theorem XtF.n0 {op n : Int} {s : Key} {ar : List XT} (h : XtF op n s ar) (h1 : op ≠ 1) (h2 : op ≠ 2) : n = 0 := by
 have := h.num;unfold mostI at this;rw [if_neg h1, if_neg h2] at this;omega
theorem XtF.s0 {op n : Int} {s : Key} {ar : List XT} (h : XtF op n s ar) (h1 : namedI op = false) : s = [] := by
 have := h.nm;rw [nmIf, if_neg (by rw [h1]; decide)] at this
 simpa using this
theorem XtF.none {op n : Int} {s : Key} {ar : List XT} (h : XtF op n s ar) (q : ∀ k, takesI op k = 0) : ar = [] := by
 have := h.len;rw [q] at this;exact List.eq_nil_of_length_eq_zero this
theorem XtF.mem {op n : Int} {s : Key} {ar : List XT} (h : XtF op n s ar) : ∀ y ∈ ar, y.fm = true := by
 have := h.all;rw [XT.fms_all] at this;exact fun y hy => List.all_eq_true.1 this y hy
theorem not_named {op : Int} (h : op ≠ 3 ∧ op ≠ 4 ∧ op ≠ 5) : namedI op = false := by
 unfold namedI; rw [decide_eq_false_iff_not]; omega
structure Ev (x : XT) : Prop where
 nt : nt x.evs = 0
 gs : Gs (etk x.evs)
 hd : ∃ s r, etk x.evs = s :: r ∧ s ≠ [41] ∧ (4 ≤ holdI x.op → s ≠ kNot)
theorem sep_cons (b c : List PEv) (r : List (List PEv)) : sepV (b :: c :: r) = b ++ tkn [44] ++ sepV (c :: r) := by rw [sepV]; simp
theorem nt_sep : ∀ l : List (List PEv), (∀ b ∈ l, nt b = 0) → nt (sepV l) = 0
 | [], _ => rfl
 | [b], h => h b (by simp)
 | b :: c :: r, h => by
  rw [sep_cons, nt_app, nt_app, nt_tkn, h b (by simp), nt_sep (c :: r) fun d hd => h d (List.mem_cons_of_mem _ hd)];rfl
def tailV (l : List (List PEv)) : List PEv := (l.map fun b => tkn [44] ++ b).flatten
theorem sep_tail : ∀ (b : List PEv) (r : List (List PEv)), sepV (b :: r) = b ++ tailV r
 | b, [] => by simp [sepV, tailV]
 | b, c :: r => by
  rw [sep_cons, sep_tail c r];simp [tailV]
theorem gs_sep : ∀ l : List (List PEv), (∀ b ∈ l, Gs (etk b)) → Gs (etk (sepV l))
 | [], _ => Gs.nil
 | [b], h => h b (by simp)
 | b :: c :: r, h => by
  rw [sep_cons, etk_app, etk_app];exact ((h b (by simp)).app (Gs.cons g44 Gs.nil)).app (gs_sep (c :: r) fun d hd => h d (List.mem_cons_of_mem _ hd))
theorem gs_inn {o c : Key} {b : List PEv} (h1 : Good o) (h2 : Good c) (h : Gs (etk b)) : Gs (etk (innV o b c)) := by
 rw [etk_inn];exact Gs.cons h1 (h.app (Gs.cons h2 Gs.nil))
theorem args_inn {l : List (List PEv)} (h : ¬ 8 < l.length) : argsV l = innV [40] (sepV l) [41] := by
 unfold argsV innV;rw [if_neg h];simp [List.append_assoc]
theorem args_tk (l : List (List PEv)) : etk (argsV l) = etk (innV [40] (sepV l) [41]) := by
 unfold argsV innV
 split <;> simp [etk_app, farV, etk, etk_up, etk_tkn, etk_down]
theorem args_nt (l : List (List PEv)) (h : ∀ b ∈ l, nt b = 0) : nt (argsV l) = 0 := by
 have hs := nt_sep l h;unfold argsV
 split <;> simp [nt_app, farV, nt, nt_up, nt_tkn, nt_down, hs]
theorem gs_brk {r op : Int} {b : List PEv} (h : Gs (etk b)) : Gs (etk (brkV r op b)) := by
 rw [brk_inn]
 split
 ·exact gs_inn g40 g41 h
 ·exact h
theorem word_op : ∀ op ∈ [(20 : Int), 21, 22, 23, 24, 25, 26], opWord op ∈ wordL ∧ opWord op ≠ [41] ∧ opWord op ≠ kNot ∧ opWord op ≠ [40] ∧ opWord op ≠ kTrue ∧ opWord op ≠ kFalse ∧ pickI (operW 7) (.ok ⟨[], tkOf (opWord op), 0⟩) = op ∧ (formI op = 1 ↔ 24 ≤ op) ∧ holdI op = 7 := by decide
theorem word_in {op : Int} (h : 20 ≤ op ∧ op ≤ 26) : op ∈ [(20 : Int), 21, 22, 23, 24, 25, 26] := by
 rcases (show op = 20 ∨ op = 21 ∨ op = 22 ∨ op = 23 ∨ op = 24 ∨ op = 25 ∨ op = 26 by omega) with rfl | rfl | rfl | rfl | rfl | rfl | rfl <;> simp
theorem nm_ne {s t : Key} (h : nmB s = true) (ht : t ∈ wordL ∨ t ∈ signL) : s ≠ t := by
 rintro rfl;have h1 := name_of h;rw [fixed_of ht] at h1;cases h1
theorem dig_ne (n : Nat) {t : Key} (ht : t ∈ wordL ∨ t ∈ signL) : digK n ≠ t := by
 intro q;have h1 := num_of n;rw [q, fixed_of ht] at h1;cases h1
theorem XtF.cases {op n : Int} {s : Key} {ar : List XT} (h : XtF op n s ar) {P : Prop}
  (c1 : op = 1 → s = [] → ar = [] → P) (c2 : op = 2 → s = [] → ar = [] → P) (c3 : op = 3 → ar = [] → nmB s = true → P) (c4 : ∀ y, op = 4 → ar = [y] → nmB s = true → P) (c5 : op = 5 → nmB s = true → P)
  (c8 : ∀ y, op = 8 → s = [] → ar = [y] → P) (ct : ∀ y z, isTwo op = true → s = [] → ar = [y, z] → P) (cb : 20 ≤ op ∧ op ≤ 23 → s = [] → ar = [] → P) (co : ∀ y, 24 ≤ op ∧ op ≤ 26 → s = [] → ar = [y] → P) : P := by
 have hr := h.rng
 cases ht : isTwo op with
 | true =>
  obtain ⟨y, z, q, _⟩ := h.two ht;have := twos_of ht;exact ct y z ht (h.s0 (not_named (by simp at this; omega))) q
 | false =>
  have hn : ∀ {k}, isTwo k = false → ¬ isTwo k = true := fun q => by rw [q]; decide
  rcases (show op = 1 ∨ op = 2 ∨ op = 3 ∨ op = 4 ∨ op = 5 ∨ op = 8 ∨ (20 ≤ op ∧ op ≤ 23) ∨ (24 ≤ op ∧ op ≤ 26) by
   have q : ¬ (op = 6 ∨ op = 7 ∨ 9 ≤ op ∧ op ≤ 19) := fun q => by
    have : isTwo op = true := by unfold isTwo; exact decide_eq_true q
    rw [ht] at this; cases this
   omega) with q | q | q | q | q | q | q | q
  ·subst q; exact c1 rfl (h.s0 rfl) (h.none fun k => rfl)
  ·subst q; exact c2 rfl (h.s0 rfl) (h.none fun k => rfl)
  ·subst q; exact c3 rfl (h.none fun k => rfl) (h.named rfl)
  ·subst q;obtain ⟨y, q, _⟩ := h.one fun k => rfl;exact c4 y rfl q (h.named rfl)
  ·subst q; exact c5 rfl (h.named rfl)
  ·subst q;obtain ⟨y, q, _⟩ := h.one fun k => rfl;exact c8 y rfl (h.s0 rfl) q
  ·exact cb q (h.s0 (not_named (by omega))) (no_args h q)
  ·obtain ⟨y, e, _⟩ := h.one fun k => by rw [takesI, if_neg (hn ht), if_pos (by omega)]
   exact co y q (h.s0 (not_named (by omega))) e
theorem ev_of (op n : Int) (s : Key) (ar : List XT) (hf : (XT.mk op n s ar).fm = true) (H : ∀ y ∈ ar, y.fm = true → Ev y) : Ev (.mk op n s ar) := by
 have h := XT.parts hf;have hm := h.mem;refine h.cases ?_ ?_ ?_ ?_ ?_ ?_ ?_ ?_ ?_
 ·rintro rfl rfl rfl;have hn := h.num;have e := ev_1 h;exact ⟨by rw [e]; rfl, by rw [e]; exact Gs.cons (.inr (.inr (.inr ⟨n.toNat, by have := hn.2; have : mostI 1 = 1099511627775 := rfl; omega, rfl⟩))) Gs.nil, ⟨_, _, by rw [e]; rfl, dig_ne _ (.inr (by decide)), fun _ => dig_ne _ (.inl (by decide))⟩⟩
 ·rintro rfl rfl rfl;have e := ev_2 h;refine ⟨by rw [e]; rfl, by rw [e]; split <;> exact Gs.cons (.inl (by decide)) Gs.nil, ⟨_, _, by rw [e]; rfl, ?_, fun _ => ?_⟩⟩
  ·split <;> decide
  ·split <;> decide
 ·rintro rfl rfl hs;have e := ev_3 h;exact ⟨by rw [e]; rfl, by rw [e]; exact Gs.cons (.inr (.inr (.inl hs))) Gs.nil, ⟨_, _, by rw [e]; rfl, nm_ne hs (.inr (by decide)), fun _ => nm_ne hs (.inl (by decide))⟩⟩
 ·rintro y rfl rfl hs;have e := ev_4 h;have hy := H y (by simp) (hm y (by simp));exact ⟨by rw [e, nt_app, nt_tkn, nt_inn hy.nt]; rfl, by rw [e, etk_app]; exact Gs.cons (.inr (.inr (.inl hs))) (gs_inn g91 g93 hy.gs), ⟨_, _, by rw [e, etk_app]; rfl, nm_ne hs (.inr (by decide)), fun _ => nm_ne hs (.inl (by decide))⟩⟩
 ·rintro rfl hs;have e := ev_5 h
  have hb : ∀ b ∈ ar.map XT.evs, nt b = 0 ∧ Gs (etk b) := by
   intro b hb;obtain ⟨y, hy, rfl⟩ := List.mem_map.1 hb;exact ⟨(H y hy (hm y hy)).nt, (H y hy (hm y hy)).gs⟩
  exact ⟨by rw [e, nt_app, nt_tkn, args_nt _ fun b q => (hb b q).1]; rfl, by rw [e, etk_app, args_tk]; exact Gs.cons (.inr (.inr (.inl hs))) (gs_inn g40 g41 (gs_sep _ fun b q => (hb b q).2)), ⟨_, _, by rw [e, etk_app]; rfl, nm_ne hs (.inr (by decide)), fun _ => nm_ne hs (.inl (by decide))⟩⟩
 ·rintro y rfl rfl rfl;have e := ev_8 h;have hy := H y (by simp) (hm y (by simp));refine ⟨by rw [e, nt_app, nt_app, nt_app, nt_up, nt_tkn, nt_down, nt_brk hy.nt]; rfl, ?_, ⟨kNot, _, by rw [e]; simp only [etk_app, etk_up, etk_tkn, etk_down, List.nil_append, List.append_nil]; rfl, by decide, fun q => absurd (show 4 ≤ holdI 8 from q) (by decide)⟩⟩;rw [e];simp only [etk_app, etk_up, etk_tkn, etk_down, List.nil_append, List.append_nil];exact Gs.cons (.inl (by decide)) (gs_brk hy.gs)
 ·rintro y z ht rfl rfl;have e := ev_two h ht;have hy := H y (by simp) (hm y (by simp));have hz := H z (by simp) (hm z (by simp));refine ⟨by rw [e, nt_app, nt_app, nt_brk hy.nt, nt_tkn, nt_brk hz.nt]; rfl, ?_, ?_⟩
  ·rw [e, etk_app, etk_app];exact ((gs_brk hy.gs).app (Gs.cons (good_fix (two_word ht).1) Gs.nil)).app (gs_brk hz.gs)
  ·rw [e, etk_app, etk_app];have hr0 : 4 ≤ holdI op → 4 ≤ (if holdI op = 4 then 5 else holdI op) := fun q => by split <;> omega
   revert hr0;generalize (if holdI op = 4 then 5 else holdI op) = r0;intro hr0;rw [brk_inn, List.append_assoc]
   split
   ·rw [etk_inn];exact ⟨[40], _, rfl, by decide, fun _ => by decide⟩
   ·rename_i hh
    obtain ⟨s, r, q, q1, q2⟩ := hy.hd;rw [q];refine ⟨s, _, rfl, q1, fun q3 => q2 ?_⟩;have q3 := hr0 q3;omega
 ·rintro q rfl rfl;have e := ev_bare h q;obtain ⟨a, b, c, _⟩ := word_op op (word_in ⟨q.1, by omega⟩);exact ⟨by rw [e]; rfl, by rw [e]; exact Gs.cons (.inl a) Gs.nil, ⟨_, _, by rw [e]; rfl, b, fun _ => c⟩⟩
 ·rintro y q rfl rfl;have e := ev_one h q;have hy := H y (by simp) (hm y (by simp));obtain ⟨a, b, c, _⟩ := word_op op (word_in ⟨by omega, q.2⟩);exact ⟨by rw [e, nt_app, nt_tkn, nt_inn hy.nt]; rfl, by rw [e, etk_app]; exact Gs.cons (.inl a) (gs_inn g40 g41 hy.gs), ⟨_, _, by rw [e, etk_app]; rfl, b, fun _ => c⟩⟩
theorem ev_all : ∀ x : XT, x.fm = true → Ev x
 | .mk op n s ar, hf => ev_of op n s ar hf fun y hy q => ev_all y q
termination_by x => SizeOf.sizeOf x
decreasing_by
 have := List.sizeOf_lt_of_mem hy;simp only [XT.mk.sizeOf_spec];omega
end Go.Proofs.YtpofgnlkhkednaaGreatDoor
