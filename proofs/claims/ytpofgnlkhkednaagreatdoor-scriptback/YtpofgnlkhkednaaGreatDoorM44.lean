import Derived.Test.YtpofgnlkhkednaaGreatDoorSQz1
import Derived.Test.YtpofgnlkhkednaaGreatDoorSQwe
namespace Go.Proofs.YtpofgnlkhkednaaGreatDoor
open Go.RowKit
set_option linter.unusedVariables false
set_option linter.unusedSimpArgs false
set_option maxRecDepth 20000
set_option maxHeartbeats 8000000
theorem digK_len : ∀ (k n : Nat), n < 10 ^ (k + 1) → (digK n).length ≤ k + 1
 | 0, n, h => by
  rw [digK, if_pos (by simpa using h)];exact Nat.le_refl _
 | k + 1, n, h => by
  rw [digK]
  split
  ·simp
  ·have := digK_len k (n / 10) (by rw [Nat.div_lt_iff_lt_mul (by decide)]; rw [Nat.pow_succ] at h; exact h);simp only [List.length_append, List.length_cons, List.length_nil];omega
theorem opWord_len (op : Int) : (opWord op).length ≤ 7 := by
 have key : ∀ k : Nat, k < 27 → (opWord (k : Int)).length ≤ 7 := by decide
 by_cases h : 0 ≤ op ∧ op < 27
 ·have := key op.toNat (by omega)
  rwa [show ((op.toNat : Nat) : Int) = op by omega] at this
 ·unfold opWord;repeat rw [if_neg (by omega)]
  exact Nat.zero_le _
theorem kindK_len (k : Int) : (kindK k).length ≤ 4 := by
 unfold kindK;repeat' split
 all_goals decide
theorem wt_tkn (s : Key) : wtV (tkn s) = s.length + 1 := by simp [wtV, wtE, tkn]
theorem wt_up : wtV upV = 1 := rfl
theorem wt_down : wtV downV = 1 := rfl
theorem wt_odd : wtV oddV = 1 := rfl
theorem wt_nil : wtV [] = 0 := rfl
theorem wt_name (s : Key) : wtV (nameV s) ≤ s.length + 2 := by
 unfold nameV
 split
 ·rw [wt_tkn]; omega
 ·rw [wtV_app, wt_odd, wt_tkn]; omega
theorem wt_kind (k : Int) : wtV (kindV k) ≤ 5 := by
 unfold kindV;have := kindK_len k
 split
 ·rw [wt_tkn]; omega
 ·rw [wt_odd]; omega
theorem wt_brk (r op : Int) (b : List PEv) : wtV (brkV r op b) ≤ wtV b + 6 := by
 unfold brkV
 split
 ·simp only [wtV_app, wt_up, wt_down, wt_tkn, List.length_cons, List.length_nil]; omega
 ·omega
def wtS : List (List PEv) → Nat
 | [] => 0
 | b :: r => wtV b + 9 + wtS r
theorem wt_two (l : List (List PEv)) : wtV (l.getD 0 []) + wtV (l.getD 1 []) ≤ wtS l := by
 match l with
 | [] => exact Nat.le_refl _
 | [a] => show wtV a + 0 ≤ wtV a + 9 + 0; omega
 | a :: b :: r => show wtV a + wtV b ≤ wtV a + 9 + (wtV b + 9 + wtS r); omega
theorem wt_one (l : List (List PEv)) : wtV (l.getD 0 []) ≤ wtS l := by have := wt_two l; omega
theorem wt_three (l : List (List PEv)) : wtV (l.getD 0 []) + wtV (l.getD 1 []) + wtV (l.getD 2 []) + wtS (l.drop 3) ≤ wtS l := by
 match l with
 | [] => exact Nat.le_refl _
 | [a] => show wtV a + 0 + 0 + 0 ≤ wtV a + 9 + 0; omega
 | [a, b] => show wtV a + wtV b + 0 + 0 ≤ wtV a + 9 + (wtV b + 9 + 0); omega
 | a :: b :: c :: r => show wtV a + wtV b + wtV c + wtS r ≤ wtV a + 9 + (wtV b + 9 + (wtV c + 9 + wtS r)); omega
theorem wt_sep : ∀ l : List (List PEv), wtV (sepV l) ≤ wtS l
 | [] => Nat.le_refl _
 | [b] => by show wtV b ≤ wtV b + 9 + 0; omega
 | b :: c :: r => by
  have := wt_sep (c :: r);show wtV (b ++ tkn [44] ++ sepV (c :: r)) ≤ wtV b + 9 + wtS (c :: r);simp only [wtV_app, wt_tkn, List.length_cons, List.length_nil];omega
theorem wt_if (q : Prop) [Decidable q] : wtV (if q then farV else []) ≤ 1 := by
 split
 ·exact Nat.le_refl _
 ·exact Nat.zero_le _
theorem wt_args (l : List (List PEv)) : wtV (argsV l) ≤ wtS l + 7 := by
 have h1 := wt_sep l;have h2 := wt_if (8 < l.length);simp only [argsV, wtV_app, wt_up, wt_down, wt_tkn, List.length_cons, List.length_nil];omega
theorem wt_flat : ∀ l : List (List PEv), wtV l.flatten ≤ wtS l
 | [] => Nat.le_refl _
 | b :: r => by
  have := wt_flat r;rw [List.flatten_cons, wtV_app];show _ ≤ wtV b + 9 + wtS r;omega
theorem wt_block (l : List (List PEv)) : wtV (blockV l) ≤ wtS l + 6 := by
 have := wt_flat l;simp only [blockV, wtV_app, wt_up, wt_down, wt_tkn, List.length_cons, List.length_nil];omega
theorem wt_S {α : Type} {f : α → List PEv} {g : α → EV} : ∀ (l : List α), (∀ x ∈ l, wtV (f x) + 12 ≤ 24 * wE (g x)) → wtS (l.map f) ≤ 24 * wL (l.map g)
 | [], _ => Nat.le_refl _
 | x :: l, h => by
  have h1 := h x (List.mem_cons_self ..);have h2 := wt_S l fun y hy => h y (List.mem_cons_of_mem _ hy);show wtV (f x) + 9 + wtS (l.map f) ≤ 24 * (wE (g x) + wL (l.map g));omega
theorem wt_shX (op n : Int) (s : Key) (ar : List (Int × List PEv)) : wtV (shX op n s ar) ≤ s.length + wtS (ar.map (·.2)) + 32 := by
 have ho := opWord_len op;have hn := wt_name s;have h1 := wt_one (ar.map (·.2));have h2 := wt_two (ar.map (·.2));have ha := wt_args (ar.map (·.2));unfold shX
 split
 ·rw [wt_odd]; omega
 rename_i hok
 split
 ·have b1 := wt_brk (if holdI op = 4 then 5 else holdI op) ((ar.map (·.1)).getD 0 0) ((ar.map (·.2)).getD 0 []);have b2 := wt_brk (holdI op + 1) ((ar.map (·.1)).getD 1 0) ((ar.map (·.2)).getD 1 []);simp only [wtV_app, wt_tkn];omega
 split
 ·rename_i h
  have hr : rightN op n = true := by
   have h9 : okX op n s ar.length = true := by simpa using hok
   unfold okX at h9;simp only [Bool.and_eq_true] at h9;exact h9.2
  have hr := of_decide_eq_true hr
  have := digK_len 12 n.toNat (by
   have : n ≤ 1099511627775 := by omega
   have : n.toNat ≤ 1099511627775 := by omega
   have : (10 : Nat) ^ (12 + 1) = 10000000000000 := by decide
   omega)
  rw [wt_tkn];omega
 split
 ·rw [wt_tkn]
  split <;> simp <;> omega
 split
 ·omega
 split
 ·simp only [wtV_app, wt_up, wt_down, wt_tkn, List.length_cons, List.length_nil];omega
 split
 ·rw [wtV_app]; omega
 split
 ·have b1 := wt_brk 3 ((ar.map (·.1)).getD 0 0) ((ar.map (·.2)).getD 0 []);simp only [wtV_app, wt_up, wt_down, wt_tkn, List.length_cons, List.length_nil];omega
 split
 ·rw [wt_tkn]; omega
 ·rw [wtV_app, wt_tkn]; omega
theorem wt_X : ∀ x : XT, wtV x.evs + 12 ≤ 24 * wE x.pv
 | .mk op n s ar => by
  have h := wt_shX op n s (XT.all ar);have h2 := wt_S (f := XT.evs) (g := XT.pv) ar fun y hy => wt_X y;rw [XT.evs, XT.pv, we_X, XT.pvs_map];rw [XT.all_map, List.map_map] at h;have e : ((fun x : Int × List PEv => x.2) ∘ fun x : XT => (x.op, x.evs)) = XT.evs := rfl;rw [e, ← XT.all_map] at h;omega
termination_by x => SizeOf.sizeOf x
decreasing_by
 have := List.sizeOf_lt_of_mem hy;simp only [XT.mk.sizeOf_spec];omega
theorem wt_shS (k : Int) (nm al ca : Key) (ty : Int) (es bs ls : List (List PEv)) : wtV (shS k nm al ca ty es bs ls) ≤ nm.length + al.length + ca.length + wtS es + wtS bs + wtS ls + 70 := by
 have n1 := wt_name nm;have n2 := wt_name al;have n3 := wt_name ca;have hk := wt_kind ty;have h1 := wt_one es;have h2 := wt_two es;have h3 := wt_three es;have ha := wt_args (es.drop 3);have hb := wt_block bs;have hl := wt_block ls
 have he : wtV (if ls.isEmpty then [] else tkn [101, 108, 115, 101] ++ blockV ls) ≤ wtS ls + 11 := by
  split
  ·exact Nat.zero_le _
  ·simp only [wtV_app, wt_tkn, List.length_cons, List.length_nil]; omega
 generalize hg : (if ls.isEmpty then [] else tkn [101, 108, 115, 101] ++ blockV ls) = ev at he;rw [shS, hg]
 by_cases h0 : okS k nm al ca ty es.length bs.length ls.length = false
 ·rw [if_pos h0, wt_odd]; omega
 rw [if_neg h0]
 by_cases q : k = 1
 ·rw [if_pos q]; simp only [wtV_app, wt_up, wt_down, wt_tkn, List.length_cons, List.length_nil]; omega
 rw [if_neg q];clear q
 by_cases q : k = 2
 ·rw [if_pos q]; simp only [wtV_app, wt_up, wt_down, wt_tkn, List.length_cons, List.length_nil]; omega
 rw [if_neg q];clear q
 by_cases q : k = 3
 ·rw [if_pos q]; simp only [wtV_app, wt_up, wt_down, wt_tkn, List.length_cons, List.length_nil]; omega
 rw [if_neg q];clear q
 by_cases q : k = 4
 ·rw [if_pos q]; simp only [wtV_app, wt_up, wt_down, wt_tkn, List.length_cons, List.length_nil]; omega
 rw [if_neg q];clear q
 by_cases q : k = 5
 ·rw [if_pos q]; simp only [wtV_app, wt_up, wt_down, wt_tkn, List.length_cons, List.length_nil]; omega
 rw [if_neg q];clear q
 by_cases q : k = 6
 ·rw [if_pos q]; simp only [wtV_app, wt_up, wt_down, wt_tkn, List.length_cons, List.length_nil]; omega
 rw [if_neg q];clear q
 by_cases q : k = 7
 ·rw [if_pos q]; simp only [wtV_app, wt_up, wt_down, wt_tkn, List.length_cons, List.length_nil]; omega
 rw [if_neg q];clear q
 by_cases q : k = 8
 ·rw [if_pos q]; simp only [wtV_app, wt_up, wt_down, wt_tkn, List.length_cons, List.length_nil]; omega
 rw [if_neg q];clear q
 by_cases q : k = 9
 ·rw [if_pos q]; simp only [wtV_app, wt_up, wt_down, wt_tkn, List.length_cons, List.length_nil]; omega
 rw [if_neg q];clear q;simp only [wtV_app, wt_tkn, List.length_cons, List.length_nil];omega
theorem wt_St : ∀ x : ST, wtV x.evs + 12 ≤ 24 * wE x.pv
 | .mk k nm al ca ty es bs ls => by
  have h := wt_shS k nm al ca ty (es.map XT.evs) (ST.all bs) (ST.all ls);have h1 := wt_S (f := XT.evs) (g := XT.pv) es fun y _ => wt_X y;have h2 := wt_S (f := ST.evs) (g := ST.pv) bs fun y hy => wt_St y;have h3 := wt_S (f := ST.evs) (g := ST.pv) ls fun y hy => wt_St y;rw [ST.evs, ST.pv, we_S, ST.pvs_map, ST.pvs_map];rw [ST.all_map, ST.all_map] at h ⊢;omega
termination_by x => SizeOf.sizeOf x
decreasing_by
 all_goals
  have := List.sizeOf_lt_of_mem hy;simp only [ST.mk.sizeOf_spec];omega
theorem wt_param (p : Key × Int) : wtV (paramV p) + 12 ≤ 24 * wE (paP p) := by
 have h1 := wt_name p.1;have h2 := wt_kind p.2;rw [we_P];simp only [paramV, wtV_app, wt_tkn, List.length_cons, List.length_nil];omega
theorem wt_fn (f : FT) : wtV f.evs + 12 ≤ 24 * wE f.pv := by
 have h1 := wt_name f.nm;have h2 := wt_kind f.ty;have h3 := wt_sep (f.ps.map paramV);have h4 := wt_S (f := paramV) (g := paP) f.ps fun p _ => wt_param p;have h5 := wt_block (ST.all f.bs);have h6 := wt_S (f := ST.evs) (g := ST.pv) f.bs fun y _ => wt_St y;have h7 := wt_if (8 < f.ps.length)
 have h8 : wtV (if f.op then tkn [111, 112, 101, 110] else []) ≤ 5 := by
  split
  ·exact Nat.le_refl _
  ·exact Nat.zero_le _
 rw [FT.pv, we_F, ST.pvs_map];rw [ST.all_map] at h5;simp only [FT.evs, wtV_app, wt_tkn, ST.all_map, List.length_cons, List.length_nil] at h8 ⊢;omega
theorem wt_ct (c : CTr) : wtV c.evs ≤ 24 * wE c.pv := by
 have h1 := wt_name c.nm;have h2 := wt_if (32 < c.sl.length + c.tb.length ∨ 32 < c.fn.length);have h3 := wt_flat (c.sl.map fun p => tkn [115, 108, 111, 116] ++ paramV p ++ tkn [59])
 have h4 := wt_S (f := fun p => tkn [115, 108, 111, 116] ++ paramV p ++ tkn [59]) (g := paP) c.sl fun p _ => by
  have h1 := wt_name p.1;have h2 := wt_kind p.2;rw [we_P];simp only [paramV, wtV_app, wt_tkn, List.length_cons, List.length_nil];omega
 have h5 := wt_flat (c.tb.map fun t => tkn [109, 97, 112] ++ nameV t.1 ++ tkn [58] ++ kindV t.2.1 ++ tkn [45, 62] ++ kindV t.2.2 ++ tkn [59])
 have h6 := wt_S (f := fun t : Key × Int × Int => tkn [109, 97, 112] ++ nameV t.1 ++ tkn [58] ++ kindV t.2.1 ++ tkn [45, 62] ++ kindV t.2.2 ++ tkn [59]) (g := tbV) c.tb fun t _ => by
  have h1 := wt_name t.1;have h2 := wt_kind t.2.1;have h3 := wt_kind t.2.2;rw [tbV, we_T];simp only [wtV_app, wt_tkn, List.length_cons, List.length_nil];omega
 have h7 := wt_flat (c.fn.map FT.evs);have h8 := wt_S (f := FT.evs) (g := FT.pv) c.fn fun f _ => wt_fn f;rw [CTr.pv, we_C];simp only [CTr.evs, wtV_app, wt_tkn, List.length_cons, List.length_nil];omega
theorem fit_ct {c : CTr} (h : wE c.pv ≤ 1000000000) : Fit PS.zero c.evs := by
 have := wt_ct c;refine ⟨?_, ?_, ?_, by decide, by decide⟩
 ·show 0 + wtV c.evs ≤ _; omega
 ·show _ ≤ 0 - ((wtV c.evs : Nat) : Int); omega
 ·show 0 + ((wtV c.evs : Nat) : Int) ≤ _; omega
theorem far_nat (n m : Nat) (h : n = m) : (if 8 < n then farV else []) = if (8 : Int) < (m : Int) then farV else ([] : List PEv) := by
 subst h
 by_cases h : 8 < n
 ·rw [if_pos h, if_pos (by omega)]
 ·rw [if_neg h, if_neg (by omega)]
theorem FT.fm_parts {f : FT} (h : f.fm = true) : nmB f.nm = true ∧ f.ps.all paF = true ∧ (1 ≤ f.ty ∧ f.ty ≤ 3) ∧ ST.fms f.bs = true := by
 unfold FT.fm at h;simp only [Bool.and_eq_true, decide_eq_true_eq] at h;exact ⟨h.1.1.1, h.1.1.2, h.1.2, h.2⟩
theorem CTr.fm_parts {c : CTr} (h : c.fm = true) : nmB c.nm = true ∧ c.sl.all paF = true ∧ c.tb.all taF = true ∧ c.fn.all FT.fm = true := by
 unfold CTr.fm at h;simp only [Bool.and_eq_true] at h;exact ⟨h.1.1.1, h.1.1.2, h.1.2, h.2⟩
theorem rows_sz {α : Type} {pv : α → EV} {n : Nat} {es : List (List Fld)} {l : List α} (he : pvRows es = l.map pv) (h : ∀ x, (pv x).length = n) : ∀ d ∈ es, d.length = n := sz_of (n := n) fun x hx => by
 rw [he] at hx;obtain ⟨y, _, rfl⟩ := List.mem_map.1 hx;exact h y
theorem rows_len {α : Type} {pv : α → EV} {es : List (List Fld)} {l : List α} (he : pvRows es = l.map pv) : l.length = es.length := by rw [← pvRows_len, he, List.length_map]
theorem fnw_m {W0 : World} (HT : Tabs W0) (HP : PowT W0) (b : Nat) (f : FT) (hf : f.fm = true) (lo : Nat) (fs : List Fld) (hp : pvAll fs = f.pv) (hl : lieAll lo W0 fs) : WrM b W0 32 [ptr b, .agg (fs.map Fld.val).toArray] f.evs := by
 obtain ⟨h1, h2, h3, h4⟩ := FT.fm_parts hf;obtain ⟨pa, pc, pe, ba, bc, bb, rfl, he1, he2⟩ := inv_F hp;obtain ⟨nm, op, ps, ty, bs⟩ := f;rw [ST.pvs_map] at he2;have hAp : (Fld.l pa pc pe).lies lo W0 := hl _ (by simp);have hAb : (Fld.l ba bc bb).lies lo W0 := hl _ (by simp);refine fnw_of HT b nm op ty pa ba pc bc lo pe bb (ps.map paramV) _ _ h3.1 h3.2 hAp (rows_sz he1 fun _ => rfl) (by rw [List.length_map, rows_len he1]) (fun k d bk hd hb => ?_) (blockw_m HT HP b bs h4 lo ba bc bb he2 hAb) ?_
 ·obtain ⟨⟨s, kd⟩, hx, hpv⟩ := row_get he1 hd;have hxd := inv_P hpv;subst hxd;rw [List.getElem?_map, hx] at hb;injection hb with hb
  subst hb;obtain ⟨g1, g2, g3⟩ := paf_in h2 hx;have := wparam_m HT b s kd g2 g3
  have e : paramV (s, kd) = tkn s ++ tkn [58] ++ tkn (kindK kd) := by
   unfold paramV;rw [name_fm g1, kind_fm ⟨g2, g3⟩]
  rw [e];exact this.g _
 ·have h31 : 1 ≤ ty := h3.1;have h1 : nmB nm = true := h1;have h3 : 1 ≤ ty ∧ ty ≤ 3 := h3;have hk : kW ty = kindK ty := if_neg (by omega);have e : (FT.mk nm op ps ty bs).evs = (if op then tkn [111, 112, 101, 110] else []) ++ tkn [102, 110] ++ nameV nm ++ tkn [40] ++ (if 8 < ps.length then farV else []) ++ sepV (ps.map paramV) ++ tkn [41] ++ tkn [45, 62] ++ kindV ty ++ blockV (ST.all bs) := rfl;rw [e, sepF, name_fm h1, kind_fm h3, hk, far_nat ps.length pe.length (rows_len he1), ST.all_map];cases op <;> simp [tkn]
theorem far_two (a c : Prop) [Decidable a] [Decidable c] (p : PS) : (p.run (if a then farV else [])).run (if c then farV else []) = p.run (if a ∨ c then farV else []) := by
 by_cases h : a
 ·by_cases g : c
  ·rw [if_pos h, if_pos g, if_pos (.inl h)]; rfl
  ·rw [if_pos h, if_neg g, if_pos (.inl h)]; rfl
 ·by_cases g : c
  ·rw [if_neg h, if_pos g, if_pos (.inr g)]; rfl
  ·rw [if_neg h, if_neg g, if_neg (by rintro (q | q); exact h q; exact g q)]; rfl
theorem contractw_m {W0 : World} (HT : Tabs W0) (HP : PowT W0) (b : Nat) (c : CTr) (hf : c.fm = true) (hmax : c.sl.length + c.tb.length ≤ 1000000000) (lo : Nat) (fs : List Fld) (hp : pvAll fs = c.pv) (hl : lieAll lo W0 fs) : enters Tryz.prog 11 = true ∧ ∀ w0 E p w, WrS b W0 w0 E p w → Rm p (wtV c.evs + 2) → Calls Tryz.prog 11 ([ptr b, .agg (fs.map Fld.val).toArray] : List Value).toArray w fun e w' => e = .returned (.tuple #[]) ∧ WrS b W0 w0 E (p.run c.evs) w' := by
 obtain ⟨h1, h2, h3, h4⟩ := CTr.fm_parts hf;obtain ⟨nm, sl, tb, fn⟩ := c;obtain ⟨a1, c1, l1, a2, c2, l2, a3, c3, l3, rfl, he1, he2, he3⟩ := inv_ct hp;have n1 : sl.length = l1.length := rows_len he1;have n2 : tb.length = l2.length := rows_len he2;have n3 : fn.length = l3.length := rows_len he3
 have key : ∀ p : PS, p.run (CTr.mk nm sl tb fn).evs = p.run ((if (32 : Int) < (l1.length : Int) + (l2.length : Int) then farV else []) ++ ((if (32 : Int) < (l3.length : Int) then farV else []) ++ ([[99, 111, 110, 116, 114, 97, 99, 116], nm, [123]].map .tok ++ ((sl.map slW).flatten ++ ((tb.map tbW).flatten ++ ((fn.map FT.evs).flatten ++ ([[125]].map .tok ++ []))))))) := fun p => by
  have h1 : nmB nm = true := h1;have e0 : (CTr.mk nm sl tb fn).evs = tkn [99, 111, 110, 116, 114, 97, 99, 116] ++ nameV nm ++ tkn [123] ++ (if 32 < sl.length + tb.length ∨ 32 < fn.length then farV else []) ++ (sl.map slW).flatten ++ (tb.map tbW).flatten ++ (fn.map FT.evs).flatten ++ tkn [125] := rfl
  have e : (if 32 < sl.length + tb.length ∨ 32 < fn.length then farV else []) = if (32 : Int) < (l1.length : Int) + (l2.length : Int) ∨ (32 : Int) < (l3.length : Int) then farV else ([] : List PEv) := by
   by_cases q : 32 < sl.length + tb.length ∨ 32 < fn.length
   ·rw [if_pos q, if_pos (by omega)]
   ·rw [if_neg q, if_neg (by omega)]
  have h := far_if ((32 : Int) < (l1.length : Int) + (l2.length : Int) ∨ (32 : Int) < (l3.length : Int)) p (tkn [99, 111, 110, 116, 114, 97, 99, 116] ++ tkn nm ++ tkn [123]);rw [e0, name_fm h1, e];simp only [PS.run_app, PS.run_nil] at h ⊢;rw [far_two, ← h];rfl
 have H := contractw_of HT b nm a1 a2 a3 c1 c2 c3 lo l1 l2 l3 sl tb fn (hl _ (by simp)) (hl _ (by simp)) (hl _ (by simp)) he1 he2 he3 (rows_sz he1 fun _ => rfl) (rows_sz he2 fun _ => rfl) (rows_sz he3 fun _ => rfl) n1 n2 n3 h2 h3 (by rw [← n1, ← n2]; exact hmax) (fun x k hx lo fs hp hl => fnw_m HT HP b x (List.all_eq_true.1 h4 x (List.mem_of_getElem? hx)) lo fs hp hl) (CTr.mk nm sl tb fn).evs key;refine ⟨H.1, fun w0 E p w R hr => H.2 w0 E p w R (Rm.less hr ?_)⟩;have w1 := wt_if ((32 : Int) < (l1.length : Int) + (l2.length : Int));have w2 := wt_if ((32 : Int) < (l3.length : Int));have e : wtV (CTr.mk nm sl tb fn).evs + 2 = wtV (CTr.mk nm sl tb fn).evs + 2 := rfl;rw [ct_evs, name_fm h1];show _ ≤ wtV (tkn [99, 111, 110, 116, 114, 97, 99, 116] ++ tkn nm ++ tkn [123] ++ (if 32 < sl.length + tb.length ∨ 32 < fn.length then farV else []) ++ (sl.map slW).flatten ++ (tb.map tbW).flatten ++ (fn.map FT.evs).flatten ++ tkn [125]) + 2
 have e3 : wtV ([[99, 111, 110, 116, 114, 97, 99, 116], nm, [123]].map PEv.tok) = wtV (tkn [99, 111, 110, 116, 114, 97, 99, 116]) + wtV (tkn nm) + wtV (tkn [123]) := by
  rw [← wtV_app, ← wtV_app];rfl
 have e4 : wtV ([[125]].map PEv.tok ++ []) = wtV (tkn [125]) := rfl
 simp only [wtV_app, e3] at *
 rw [show wtV ([[125]].map PEv.tok) = wtV (tkn [125]) from rfl, wt_nil];omega
theorem WrS.new {b : Nat} {W0 w0 : World} {E : List Ent} {w : World} (M : Mm (Bx W0) (fun _ => False) w0 (.box b [.slice none 0 0, .int .i64 0, .bool false, .bool false] 45 :: E) () w) : WrS b W0 w0 E PS.zero w :=
 ⟨none, 0, [], ⟨M.lt, M.stb, M.but, (M.mem.push (e := .raw (.slice none 0 0) 5 []) (World.ownsRow_nil w _ _ _) (fun i f b hf hm => by cases hm) fun i f b hf hm => fun q => by cases q).swap, M.st⟩, .inl rfl⟩
section
variable {ops : Array Oper} {Q : Exit → Act → World → Prop} {a : Act} {w w0 : World} {rest : List Oper} {o : Oper} {N : Nat} {L : List (Nat × Value)}
variable {σ : Type} {X : σ → World → Prop} {T : Nat → Prop} {E : List Ent} {s : σ}
theorem sw_txt (F : Fm N L a) (M : Mm X T w0 E s w) (k : Nat) {i ty st ety n : Nat} {x : Operand} {la : Option Addr} {lc : Nat} {t : Key} (h : Is o (some i) (.convert ty st x)) (hx : opv L x = some (.slice la n lc)) (kk : E[k]? = some (.raw (.slice la t.length lc) ety (bysV t))) (hn : n = t.length) (hu : Tryz.prog.underlying ty = some (.slice ety)) (he : Tryz.prog.underlying ety = some (.int .u8)) (hs : Tryz.prog.underlying st = some .string) (hi : Nat.blt i N = true) (K : ∀ a', Fm N ((i, .string (str t)) :: L) a' → wpList Tryz.prog ops Q rest a' w) : wpList Tryz.prog ops Q (o :: rest) a w := by
 subst hn;have own : w.ownsRow w0.heap.size ety 1 (.slice la t.length lc) (bysV t).length (bysV t) := M.mem.at_ k _ kk;rw [bysV_len] at own;refine sw_val F h.1 h.2.2 hi ?_ K;unfold execOp;rw [h.2.1];simp only [F.ev hx, Sem.run_bind]
 cases la with
 | none =>
  have ht : t = [] := by
   rcases own.2 with ⟨_, q0⟩ | ⟨g, cap, cur, q, _⟩
   ·exact List.eq_nil_of_length_eq_zero q0
   ·exact absurd q (by simp)
  rw [run_convert_bytes_nil (P := Tryz.prog) w ty ety hu he _ _ st hs, ht];simp only [Result.andThen_ok, Sem.run_pure];rfl
 | some ad =>
  have hg : ∃ g, ad = ⟨g, 0, none⟩ := by
   rcases own.2 with ⟨q, _⟩ | ⟨g, cap, cur, q, _⟩
   ·exact absurd q (by simp)
   ·simp only [Value.slice.injEq, Option.some.injEq] at q;exact ⟨g, q.1⟩
  obtain ⟨g, hg⟩ := hg
  have hcell : ∀ i, i < t.length → w.cell? ⟨g, 0 + i, none⟩ = some (.int .u8 ((t.map fun c => ((c.toNat : Nat) : Int)).getD i 0)) := fun i hi => by
   rw [hg] at own;have q := own.cells (g := g) rfl i (.int .u8 (t[i]).toNat) (by rw [bysV, List.getElem?_map, List.getElem?_eq_getElem hi]; rfl);have e0 : (⟨g, 0, none⟩ : Addr).add i = ⟨g, 0 + i, none⟩ := by unfold Addr.add; split <;> simp_all
   rw [e0] at q;rw [q, List.getD_eq_getElem?_getD, List.getElem?_map, List.getElem?_eq_getElem hi];rfl
  rw [hg, run_convert_bytes_arg (P := Tryz.prog) w ty ety hu he g 0 t.length lc (t.map fun c => ((c.toNat : Nat) : Int)) (by rw [List.length_map]) hcell st hs]
  have e : strOfNums (t.map fun c => ((c.toNat : Nat) : Int)) = str t := by
   unfold strOfNums str
   have h : (t.map fun c => ((c.toNat : Nat) : Int)).map (fun n => UInt8.ofNat n.toNat) = t := by
    rw [List.map_map]
    have e2 : t.map ((fun n : Int => UInt8.ofNat n.toNat) ∘ fun c : UInt8 => ((c.toNat : Nat) : Int)) = t.map id := List.map_congr_left fun c _ => by
     show UInt8.ofNat ((c.toNat : Nat) : Int).toNat = c;rw [Int.toNat_natCast];exact UInt8.ofNat_toNat
    rw [e2, List.map_id]
   rw [h]
  rw [e];simp only [Result.andThen_ok, Sem.run_pure]
end
end Go.Proofs.YtpofgnlkhkednaaGreatDoor
