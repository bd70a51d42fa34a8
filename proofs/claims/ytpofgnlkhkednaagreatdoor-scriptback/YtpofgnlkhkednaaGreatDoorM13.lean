import Derived.Test.YtpofgnlkhkednaaGreatDoorM05
namespace Go.Proofs.YtpofgnlkhkednaaGreatDoor
open Go.RowKit
set_option linter.unusedVariables false
set_option linter.unusedSimpArgs false
set_option maxRecDepth 20000
set_option maxHeartbeats 8000000
def TxOk (t p : Key) : Prop := t = p ∨ (2048 < t.length ∧ 2048 < p.length)
def sayW (t s : Key) : Key := if 2048 < t.length then t else sayK t s
theorem sayK_ge (t s : Key) : t.length ≤ (sayK t s).length := by
 unfold sayK
 split
 ·rename_i h; subst h; simp
 ·simp only [List.length_append]; omega
theorem TxOk.say {t p : Key} (h : TxOk t p) (s : Key) : TxOk (sayW t s) (sayK p s) := by
 unfold sayW;have g := sayK_ge p s;rcases h with rfl | ⟨h1, h2⟩
 ·by_cases q : 2048 < t.length
  ·rw [if_pos q]; exact .inr ⟨q, by omega⟩
  ·rw [if_neg q]; exact .inl rfl
 ·rw [if_pos h1]; exact .inr ⟨h1, by omega⟩
theorem TxOk.fits {t p : Key} (h : TxOk t p) : decide (2048 < t.length) = decide (2048 < p.length) ∧ (¬ 2048 < p.length → t = p) := by
 rcases h with rfl | ⟨h1, h2⟩
 ·exact ⟨rfl, fun _ => rfl⟩
 ·exact ⟨by rw [decide_eq_true h1, decide_eq_true h2], fun q => absurd h2 q⟩
theorem far_run : ∀ (l : List PEv) (p : PS), ({ p with fr := true } : PS).run l = { p.run l with fr := true }
 | [], p => rfl
 | e :: l, p => by
  rw [PS.run_cons, PS.run_cons];have h := far_run l (p.step e);rw [← h];cases e <;> rfl
theorem far_late (p : PS) (l : List PEv) : p.run (farV ++ l) = p.run (l ++ farV) := by
 rw [PS.run_app, PS.run_app];exact far_run l p
theorem far_if (c : Prop) [Decidable c] (p : PS) (l : List PEv) : p.run ((if c then farV else []) ++ l) = p.run (l ++ (if c then farV else [])) := by
 split
 ·exact far_late p l
 ·rw [List.append_nil]; rfl
def nmIf (w : Bool) (s : Key) : Bool := if w then nmB s else s == []
def kdIf (w : Bool) (k : Int) : Bool := if w then decide (1 ≤ k ∧ k ≤ 3) else k == 0
def mostI (op : Int) : Int := if op = 1 then 1099511627775 else if op = 2 then 1 else 0
def fmX (op n : Int) (s : Key) (k : Nat) : Bool := decide (1 ≤ op ∧ op ≤ 26) && nmIf (namedI op) s && decide (0 ≤ n ∧ n ≤ mostI op) && (k == takesI op k)
mutual
def XT.fm : XT → Bool
 | .mk op n s ar => fmX op n s ar.length && XT.fms ar
def XT.fms : List XT → Bool
 | [] => true
 | x :: r => x.fm && XT.fms r
end
def fmS (k : Int) (nm al ca : Key) (ty : Int) (ne nb nl : Nat) : Bool :=
 decide (1 ≤ k ∧ k ≤ 10) && nmIf (wantsI k).1 nm && nmIf (decide (k = 10)) al && nmIf (decide (k = 10)) ca && kdIf (wantsI k).2.1 ty && (decide ((ne : Int) = (wantsI k).2.2.1) || decide (k = 10 ∧ (wantsI k).2.2.1 < ne)) && !(decide ((wantsI k).2.2.2 < 1) && decide (0 < nb)) && !(decide ((wantsI k).2.2.2 < 2) && decide (0 < nl))
mutual
def ST.fm : ST → Bool
 | .mk k nm al ca ty es bs ls => fmS k nm al ca ty es.length bs.length ls.length && XT.fms es && ST.fms bs && ST.fms ls
def ST.fms : List ST → Bool
 | [] => true
 | x :: r => x.fm && ST.fms r
end
def paF (p : Key × Int) : Bool := nmB p.1 && decide (1 ≤ p.2 ∧ p.2 ≤ 3)
def taF (t : Key × Int × Int) : Bool := nmB t.1 && decide (1 ≤ t.2.1 ∧ t.2.1 ≤ 3) && decide (1 ≤ t.2.2 ∧ t.2.2 ≤ 3)
def FT.fm (f : FT) : Bool := nmB f.nm && f.ps.all paF && decide (1 ≤ f.ty ∧ f.ty ≤ 3) && ST.fms f.bs
def CTr.fm (c : CTr) : Bool := nmB c.nm && c.sl.all paF && c.tb.all taF && c.fn.all FT.fm
def odE : PEv → Bool
 | .odd => true
 | _ => false
def odV (l : List PEv) : Bool := l.any odE
theorem odV_app (l m : List PEv) : odV (l ++ m) = (odV l || odV m) := List.any_append ..
theorem od_run : ∀ (l : List PEv) (p : PS), (p.run l).od = (p.od || odV l)
 | [], p => by simp [PS.run_nil, odV]
 | e :: l, p => by
  rw [PS.run_cons, od_run l];cases e <;> simp [PS.step, odV, odE]
theorem od_tkn (s : Key) : odV (tkn s) = false := rfl
theorem od_up : odV upV = false := rfl
theorem od_down : odV downV = false := rfl
theorem od_name (s : Key) : odV (nameV s) = !nmB s := by
 unfold nameV;cases nmB s <;> rfl
theorem od_kind (k : Int) : odV (kindV k) = !decide (1 ≤ k ∧ k ≤ 3) := by
 unfold kindV
 by_cases h : 1 ≤ k ∧ k ≤ 3
 ·rw [if_pos h, decide_eq_true h]; rfl
 ·rw [if_neg h, decide_eq_false h]; rfl
theorem od_brk (r op : Int) (b : List PEv) : odV (brkV r op b) = odV b := by
 unfold brkV
 split
 ·simp [odV_app, od_up, od_tkn, od_down]
 ·rfl
theorem od_sep : ∀ l : List (List PEv), odV (sepV l) = l.any odV
 | [] => rfl
 | [b] => by simp [sepV]
 | b :: c :: r => by
  have h := od_sep (c :: r);rw [sepV, odV_app, odV_app, od_tkn, h];simp;exact fun h => nomatch h
theorem od_far8 (c : Prop) [Decidable c] : odV (if c then farV else []) = false := by split <;> rfl
theorem od_args (l : List (List PEv)) : odV (argsV l) = l.any odV := by
 rw [argsV];simp only [odV_app, od_far8, od_up, od_tkn, od_down, od_sep, Bool.false_or, Bool.or_false]
theorem od_flat (l : List (List PEv)) : odV l.flatten = l.any odV := by
 unfold odV;rw [List.any_flatten]
theorem od_block (l : List (List PEv)) : odV (blockV l) = l.any odV := by
 rw [blockV];simp only [odV_app, od_up, od_tkn, od_down, od_flat, Bool.false_or, Bool.or_false]
theorem XT.fms_all : ∀ l : List XT, XT.fms l = l.all XT.fm
 | [] => rfl
 | x :: r => by rw [XT.fms, XT.fms_all r]; rfl
theorem ST.fms_all : ∀ l : List ST, ST.fms l = l.all ST.fm
 | [] => rfl
 | x :: r => by rw [ST.fms, ST.fms_all r]; rfl
theorem fmX_ok (op n : Int) (s : Key) (k : Nat) : fmX op n s k = (okX op n s k && (!namedI op || nmB s)) := by
 have e1 : rightN op n = decide (0 ≤ n ∧ n ≤ mostI op) := by
  unfold rightN mostI;rw [decide_eq_decide]
  split
  ·omega
  ·split <;> omega
 have e2 : s.isEmpty = (s == []) := by cases s <;> rfl
 have e3 : nmB [] = false := rfl;unfold fmX okX nmIf;rw [e1, e2];generalize decide (1 ≤ op ∧ op ≤ 26) = a;generalize decide (0 ≤ n ∧ n ≤ mostI op) = b;generalize (k == takesI op k) = c
 cases namedI op with
 | true =>
  cases hs : (s == []) with
  | true =>
   have : s = [] := by simpa using hs
   subst this;rw [if_pos rfl, e3];cases a <;> cases b <;> cases c <;> rfl
  | false =>
   rw [if_pos rfl];generalize nmB s = d;cases a <;> cases b <;> cases c <;> cases d <;> rfl
 | false =>
  rw [if_neg (by decide)];cases hs : (s == []) <;> cases a <;> cases b <;> cases c <;> rfl
theorem two_len {α : Type} {l : List α} (h : l.length = 2) : ∃ y z, l = [y, z] := by
 match l, h with
 | [y, z], _ => exact ⟨y, z, rfl⟩
theorem od_X (op n : Int) (s : Key) (ar : List (Int × List PEv)) : odV (shX op n s ar) = !(fmX op n s ar.length && !(ar.map (·.2)).any odV) := by
 rw [fmX_ok];unfold shX
 cases hok : okX op n s ar.length with
 | false => rw [if_pos rfl]; rfl
 | true =>
  rw [if_neg (by decide), Bool.true_and]
  have hk : ar.length = takesI op ar.length ∧ 1 ≤ op ∧ op ≤ 26 := by
   unfold okX at hok;simp only [Bool.and_eq_true, decide_eq_true_eq, beq_iff_eq] at hok;exact ⟨hok.1.1.2, hok.1.1.1⟩
  obtain ⟨hk, ho1, ho2⟩ := hk
  cases ht : isTwo op with
  | true =>
   have h2 : ar.length = 2 := by rw [hk]; unfold takesI; rw [if_pos ht]
   obtain ⟨⟨a, y⟩, ⟨b, z⟩, rfl⟩ := two_len h2
   have hn : namedI op = false := by
    have := of_decide_eq_true ht;exact decide_eq_false (by omega)
   rw [if_pos rfl, hn];simp only [odV_app, od_brk, od_tkn, List.map_cons, List.map_nil, List.getD_cons_zero, List.getD_cons_succ, List.any_cons, List.any_nil, Bool.or_false, Bool.not_false, Bool.true_or, Bool.true_and, Bool.not_not]
  | false =>
   rw [if_neg (by decide)];have ht2 := of_decide_eq_false ht;have tk : takesI op ar.length = if op = 8 ∨ op = 24 ∨ op = 25 ∨ op = 26 ∨ op = 4 then 1 else if op = 5 then ar.length else 0 := by unfold takesI; rw [ht, if_neg (by decide)]
   rw [tk] at hk;have one : (op = 8 ∨ op = 24 ∨ op = 25 ∨ op = 26 ∨ op = 4) → ∃ y, ar = [y] := fun h => List.length_eq_one_iff.1 (by rw [if_pos h] at hk; exact hk);have no : ¬ (op = 8 ∨ op = 24 ∨ op = 25 ∨ op = 26 ∨ op = 4) → op ≠ 5 → ar = [] := fun h h5 => List.length_eq_zero_iff.1 (by rw [if_neg h, if_neg h5] at hk; exact hk);rcases (show op = 1 ∨ op = 2 ∨ op = 3 ∨ op = 4 ∨ op = 5 ∨ op = 8 ∨ (20 ≤ op ∧ op ≤ 23) ∨ (op = 24 ∨ op = 25 ∨ op = 26) by omega) with h | h | h | h | h | h | h | h
   ·subst h; rw [no (by decide) (by decide)]; rfl
   ·subst h; rw [no (by decide) (by decide)]; rfl
   ·subst h; rw [no (by decide) (by decide)];show odV (nameV s) = _;rw [od_name];show (!nmB s) = !((!true || nmB s) && !false);cases nmB s <;> rfl
   ·obtain ⟨⟨a, y⟩, rfl⟩ := one (by omega);subst h;show odV (nameV s ++ upV ++ tkn [91] ++ y ++ tkn [93] ++ downV) = !((!true || nmB s) && !(odV y || false));simp only [odV_app, od_name, od_up, od_tkn, od_down, Bool.or_false];cases nmB s <;> cases odV y <;> rfl
   ·subst h;show odV (nameV s ++ argsV (ar.map (·.2))) = !((!true || nmB s) && !(ar.map (·.2)).any odV);rw [odV_app, od_name, od_args];cases nmB s <;> cases (ar.map (·.2)).any odV <;> rfl
   ·obtain ⟨⟨a, y⟩, rfl⟩ := one (by omega);subst h;show odV (upV ++ tkn [110, 111, 116] ++ brkV 3 a y ++ downV) = !((!false || nmB s) && !(odV y || false));simp only [odV_app, od_up, od_tkn, od_down, od_brk, Bool.or_false, Bool.false_or];cases odV y <;> rfl
   ·rw [no (by omega) (by omega), if_neg (by omega), if_neg (by omega), if_neg (by omega), if_neg (by omega), if_neg (by omega), if_neg (by omega), if_pos h.2];have hn : namedI op = false := decide_eq_false (by omega);rw [hn];rfl
   ·have hn : namedI op = false := decide_eq_false (by omega);rw [if_neg (by omega), if_neg (by omega), if_neg (by omega), if_neg (by omega), if_neg (by omega), if_neg (by omega), if_neg (by omega), odV_app, od_tkn, od_args, hn];cases (ar.map (·.2)).any odV <;> rfl
theorem any_not {α : Type} {f : α → List PEv} {g : α → Bool} (l : List α) (h : ∀ x ∈ l, odV (f x) = !g x) : (l.map f).any odV = !l.all g := by
 induction l with
 | nil => rfl
 | cons a r ih =>
  rw [List.map_cons, List.any_cons, List.all_cons, h a (List.mem_cons_self ..), ih fun x hx => h x (List.mem_cons_of_mem _ hx), Bool.not_and]
theorem od_xt : ∀ x : XT, odV x.evs = !x.fm
 | .mk op n s ar => by
  have ih : (ar.map XT.evs).any odV = !ar.all XT.fm := any_not ar fun y hy => od_xt y;rw [XT.evs, od_X, XT.fm, XT.all_map, List.map_map, List.length_map, XT.fms_all];show (!(_ && !(ar.map XT.evs).any odV)) = _;rw [ih, Bool.not_not]
termination_by x => SizeOf.sizeOf x
decreasing_by
 have := List.sizeOf_lt_of_mem hy;simp only [XT.mk.sizeOf_spec];omega
theorem fmS_ok (k : Int) (nm al ca : Key) (ty : Int) (ne nb nl : Nat) : fmS k nm al ca ty ne nb nl = (okS k nm al ca ty ne nb nl && (!(wantsI k).1 || nmB nm) && (!decide (k = 10) || (nmB al && nmB ca)) && (!(wantsI k).2.1 || decide (1 ≤ ty ∧ ty ≤ 3))) := by
 have e1 : decide (1 ≤ k ∧ k ≤ 10) = decide (0 ≤ (wantsI k).2.2.1) := by
  rw [decide_eq_decide];constructor
  ·intro h;rcases (show k = 1 ∨ k = 2 ∨ k = 3 ∨ k = 4 ∨ k = 5 ∨ k = 6 ∨ k = 7 ∨ k = 8 ∨ k = 9 ∨ k = 10 by omega) with rfl | rfl | rfl | rfl | rfl | rfl | rfl | rfl | rfl | rfl <;> decide
  ·intro h;rcases Decidable.em (1 ≤ k ∧ k ≤ 10) with q | q
   ·exact q
   ·have e : wantsI k = (false, false, -1, 0) := by
     unfold wantsI;rw [if_neg (by omega), if_neg (by omega), if_neg (by omega), if_neg (by omega), if_neg (by omega), if_neg (by omega), if_neg (by omega), if_neg (by omega)]
    rw [e] at h;exact absurd h (by decide)
 have name : ∀ (w : Bool) (s : Key), nmIf w s = ((w == !s.isEmpty) && (!w || nmB s)) := by
  intro w s;have e2 : s.isEmpty = (s == []) := by cases s <;> rfl
  unfold nmIf;rw [e2]
  cases w with
  | true =>
   cases hs : (s == []) with
   | true =>
    have : s = [] := by simpa using hs
    subst this;rfl
   | false => rw [if_pos rfl]; rfl
  | false => rw [if_neg (by decide)]; cases hs : (s == []) <;> rfl
 have kind : kdIf (wantsI k).2.1 ty = (((wantsI k).2.1 == decide (ty ≠ 0)) && (!(wantsI k).2.1 || decide (1 ≤ ty ∧ ty ≤ 3))) := by
  unfold kdIf
  cases (wantsI k).2.1 with
  | true =>
   rw [if_pos rfl, Bool.eq_iff_iff];simp only [Bool.and_eq_true, decide_eq_true_eq, beq_iff_eq, Bool.not_true, Bool.false_or];constructor
   ·intro h; exact ⟨by rw [decide_eq_true (by omega)], h⟩
   ·intro h; exact h.2
  | false =>
   rw [if_neg (by decide), Bool.eq_iff_iff];simp
 unfold fmS okS;rw [e1, name (wantsI k).1 nm, name (decide (k = 10)) al, name (decide (k = 10)) ca, kind];generalize decide (0 ≤ (wantsI k).2.2.1) = a;generalize (decide ((ne : Int) = (wantsI k).2.2.1) || decide (k = 10 ∧ (wantsI k).2.2.1 < ne)) = b;generalize ((wantsI k).1 == !nm.isEmpty) = c;generalize ((wantsI k).2.1 == decide (ty ≠ 0)) = d;generalize (decide (k = 10) == !al.isEmpty) = e;generalize (decide (k = 10) == !ca.isEmpty) = f;generalize (!(decide ((wantsI k).2.2.2 < 1) && decide (0 < nb))) = g;generalize (!(decide ((wantsI k).2.2.2 < 2) && decide (0 < nl))) = h;generalize (!(wantsI k).1 || nmB nm) = i;generalize decide (k = 10) = t;generalize nmB al = l;generalize nmB ca = m;generalize (!(wantsI k).2.1 || decide (1 ≤ ty ∧ ty ≤ 3)) = n;cases a <;> cases b <;> cases c <;> cases d <;> cases e <;> cases f <;> cases t <;> cases i <;> simp only [Bool.false_and, Bool.and_false, Bool.true_and, Bool.and_true, Bool.not_true, Bool.not_false, Bool.true_or, Bool.false_or] <;> (cases g <;> cases h <;> cases l <;> cases m <;> cases n <;> rfl)
theorem any_one {es : List (List PEv)} (h : es.length = 1) : es.any odV = odV (es.getD 0 []) := by
 match es, h with
 | [a], _ => simp
theorem any_two {es : List (List PEv)} (h : es.length = 2) : es.any odV = (odV (es.getD 0 []) || odV (es.getD 1 [])) := by
 match es, h with
 | [a, b], _ => simp
theorem any_three {es : List (List PEv)} (h : 3 ≤ es.length) : es.any odV = (odV (es.getD 0 []) || (odV (es.getD 1 []) || (odV (es.getD 2 []) || (es.drop 3).any odV))) := by
 match es, h with
 | a :: b :: c :: r, _ => simp
theorem od_S (k : Int) (nm al ca : Key) (ty : Int) (es bs ls : List (List PEv)) : odV (shS k nm al ca ty es bs ls) = !(fmS k nm al ca ty es.length bs.length ls.length && !es.any odV && !bs.any odV && !ls.any odV) := by
 rw [fmS_ok];unfold shS
 cases hok : okS k nm al ca ty es.length bs.length ls.length with
 | false => rw [if_pos rfl]; simp only [Bool.false_and, Bool.not_false]; rfl
 | true =>
  rw [if_neg (by decide)];unfold okS at hok;simp only [Bool.and_eq_true, Bool.or_eq_true, decide_eq_true_eq, Bool.not_eq_true', Bool.and_eq_false_iff, decide_eq_false_iff_not] at hok;obtain ⟨⟨⟨⟨⟨⟨⟨h1, h2⟩, h3⟩, h4⟩, h5⟩, h6⟩, h7⟩, h8⟩ := hok;have nob : (wantsI k).2.2.2 < 1 → bs = [] := fun q => List.length_eq_zero_iff.1 (by omega);have nol : (wantsI k).2.2.2 < 2 → ls = [] := fun q => List.length_eq_zero_iff.1 (by omega);clear h3 h4 h5 h6 h7 h8
  have hk : 1 ≤ k ∧ k ≤ 10 := by
   rcases Decidable.em (1 ≤ k ∧ k ≤ 10) with q | q
   ·exact q
   ·have e : wantsI k = (false, false, -1, 0) := by
     unfold wantsI;rw [if_neg (by omega), if_neg (by omega), if_neg (by omega), if_neg (by omega), if_neg (by omega), if_neg (by omega), if_neg (by omega), if_neg (by omega)]
    rw [e] at h1;exact absurd h1 (by decide)
  clear h1;have len : k ≠ 10 → (es.length : Int) = (wantsI k).2.2.1 := fun q => h2.elim id fun r => absurd r.1 q;rcases (show k = 1 ∨ k = 2 ∨ k = 3 ∨ k = 4 ∨ k = 5 ∨ k = 6 ∨ k = 7 ∨ k = 8 ∨ k = 9 ∨ k = 10 by omega) with rfl | rfl | rfl | rfl | rfl | rfl | rfl | rfl | rfl | rfl
  ·rw [nob (by decide), nol (by decide), any_one (Int.ofNat.inj (len (by decide)))];show odV (tkn [108, 101, 116] ++ nameV nm ++ tkn [58] ++ kindV ty ++ tkn [61] ++ es.getD 0 [] ++ tkn [59]) = !((true && (!true || nmB nm) && (!false || (nmB al && nmB ca)) && (!true || decide (1 ≤ ty ∧ ty ≤ 3))) && !odV (es.getD 0 []) && !false && !false);simp only [odV_app, od_tkn, od_name, od_kind];cases nmB nm <;> cases decide (1 ≤ ty ∧ ty ≤ 3) <;> cases odV (es.getD 0 []) <;> rfl
  ·rw [nob (by decide), nol (by decide), any_one (Int.ofNat.inj (len (by decide)))];show odV (nameV nm ++ tkn [61] ++ es.getD 0 [] ++ tkn [59]) = !((true && (!true || nmB nm) && (!false || (nmB al && nmB ca)) && (!false || decide (1 ≤ ty ∧ ty ≤ 3))) && !odV (es.getD 0 []) && !false && !false);simp only [odV_app, od_tkn, od_name];cases nmB nm <;> cases odV (es.getD 0 []) <;> rfl
  ·rw [nob (by decide), nol (by decide), any_two (Int.ofNat.inj (len (by decide)))];show odV (nameV nm ++ upV ++ tkn [91] ++ es.getD 0 [] ++ tkn [93] ++ downV ++ tkn [61] ++ es.getD 1 [] ++ tkn [59]) = !((true && (!true || nmB nm) && (!false || (nmB al && nmB ca)) && (!false || decide (1 ≤ ty ∧ ty ≤ 3))) && !(odV (es.getD 0 []) || odV (es.getD 1 [])) && !false && !false);simp only [odV_app, od_tkn, od_name, od_up, od_down];cases nmB nm <;> cases odV (es.getD 0 []) <;> cases odV (es.getD 1 []) <;> rfl
  ·rw [any_one (Int.ofNat.inj (len (by decide)))];show odV (tkn [105, 102] ++ es.getD 0 [] ++ blockV bs ++ (if ls.isEmpty then [] else tkn [101, 108, 115, 101] ++ blockV ls)) = !((true && (!false || nmB nm) && (!false || (nmB al && nmB ca)) && (!false || decide (1 ≤ ty ∧ ty ≤ 3))) && !odV (es.getD 0 []) && !bs.any odV && !ls.any odV)
   have e : odV (if ls.isEmpty then [] else tkn [101, 108, 115, 101] ++ blockV ls) = ls.any odV := by
    cases ls with
    | nil => rfl
    | cons a r => rw [if_neg (by simp), odV_app, od_tkn, od_block]; rfl
   rw [odV_app, e];simp only [odV_app, od_tkn, od_block];cases odV (es.getD 0 []) <;> cases bs.any odV <;> cases ls.any odV <;> rfl
  ·rw [nol (by decide), any_one (Int.ofNat.inj (len (by decide)))];show odV (tkn [119, 104, 105, 108, 101] ++ es.getD 0 [] ++ blockV bs) = !((true && (!false || nmB nm) && (!false || (nmB al && nmB ca)) && (!false || decide (1 ≤ ty ∧ ty ≤ 3))) && !odV (es.getD 0 []) && !bs.any odV && !false);simp only [odV_app, od_tkn, od_block];cases odV (es.getD 0 []) <;> cases bs.any odV <;> rfl
  ·rw [nob (by decide), nol (by decide), any_one (Int.ofNat.inj (len (by decide)))];show odV (tkn [114, 101, 116, 117, 114, 110] ++ es.getD 0 [] ++ tkn [59]) = !((true && (!false || nmB nm) && (!false || (nmB al && nmB ca)) && (!false || decide (1 ≤ ty ∧ ty ≤ 3))) && !odV (es.getD 0 []) && !false && !false);simp only [odV_app, od_tkn];cases odV (es.getD 0 []) <;> rfl
  ·rw [nob (by decide), nol (by decide), any_one (Int.ofNat.inj (len (by decide)))];show odV (tkn [110, 101, 101, 100] ++ es.getD 0 [] ++ tkn [59]) = !((true && (!false || nmB nm) && (!false || (nmB al && nmB ca)) && (!false || decide (1 ≤ ty ∧ ty ≤ 3))) && !odV (es.getD 0 []) && !false && !false);simp only [odV_app, od_tkn];cases odV (es.getD 0 []) <;> rfl
  ·rw [nob (by decide), nol (by decide), any_two (Int.ofNat.inj (len (by decide)))];show odV (tkn [112, 97, 121] ++ es.getD 0 [] ++ tkn [44] ++ es.getD 1 [] ++ tkn [59]) = !((true && (!false || nmB nm) && (!false || (nmB al && nmB ca)) && (!false || decide (1 ≤ ty ∧ ty ≤ 3))) && !(odV (es.getD 0 []) || odV (es.getD 1 [])) && !false && !false);simp only [odV_app, od_tkn];cases odV (es.getD 0 []) <;> cases odV (es.getD 1 []) <;> rfl
  ·rw [nob (by decide), nol (by decide), any_one (Int.ofNat.inj (len (by decide)))];show odV (tkn [110, 111, 116, 101] ++ es.getD 0 [] ++ tkn [59]) = !((true && (!false || nmB nm) && (!false || (nmB al && nmB ca)) && (!false || decide (1 ≤ ty ∧ ty ≤ 3))) && !odV (es.getD 0 []) && !false && !false);simp only [odV_app, od_tkn];cases odV (es.getD 0 []) <;> rfl
  ·have h3 : 3 ≤ es.length := by
    have e : (wantsI 10).2.2.1 = 3 := rfl;rw [e] at h2;omega
   rw [nob (by decide), nol (by decide), any_three h3];show odV (tkn [97, 115, 107] ++ nameV nm ++ tkn [44] ++ nameV al ++ tkn [61] ++ es.getD 0 [] ++ tkn [46] ++ nameV ca ++ argsV (es.drop 3) ++ tkn [118, 97, 108, 117, 101] ++ es.getD 1 [] ++ tkn [103, 97, 115] ++ es.getD 2 [] ++ tkn [59]) = !((true && (!true || nmB nm) && (!true || (nmB al && nmB ca)) && (!false || decide (1 ≤ ty ∧ ty ≤ 3))) && !(odV (es.getD 0 []) || (odV (es.getD 1 []) || (odV (es.getD 2 []) || (es.drop 3).any odV))) && !false && !false);simp only [odV_app, od_tkn, od_name, od_args];cases nmB nm <;> cases nmB al <;> cases nmB ca <;> cases odV (es.getD 0 []) <;> cases odV (es.getD 1 []) <;> cases odV (es.getD 2 []) <;> cases (es.drop 3).any odV <;> rfl
theorem od_st : ∀ x : ST, odV x.evs = !x.fm
 | .mk k nm al ca ty es bs ls => by
  have i1 : (es.map XT.evs).any odV = !es.all XT.fm := any_not es fun y _ => od_xt y;have i2 : (bs.map ST.evs).any odV = !bs.all ST.fm := any_not bs fun y hy => od_st y;have i3 : (ls.map ST.evs).any odV = !ls.all ST.fm := any_not ls fun y hy => od_st y;rw [ST.evs, od_S, ST.fm, ST.all_map, ST.all_map, List.length_map, List.length_map, List.length_map, XT.fms_all, ST.fms_all, ST.fms_all, i1, i2, i3, Bool.not_not, Bool.not_not, Bool.not_not]
termination_by x => SizeOf.sizeOf x
decreasing_by
 all_goals
  have := List.sizeOf_lt_of_mem hy;simp only [ST.mk.sizeOf_spec];omega
theorem od_param (p : Key × Int) : odV (paramV p) = !paF p := by
 unfold paramV paF;simp only [odV_app, od_name, od_tkn, od_kind];cases nmB p.1 <;> cases decide (1 ≤ p.2 ∧ p.2 ≤ 3) <;> rfl
theorem od_ft (f : FT) : odV f.evs = !f.fm := by
 have i1 : (f.ps.map paramV).any odV = !f.ps.all paF := any_not f.ps fun y _ => od_param y;have i2 : (f.bs.map ST.evs).any odV = !f.bs.all ST.fm := any_not f.bs fun y _ => od_st y;have e : odV (if f.op then tkn [111, 112, 101, 110] else []) = false := by split <;> rfl
 rw [FT.evs, FT.fm, ST.all_map, ST.fms_all];simp only [odV_app, e, od_tkn, od_name, od_far8, od_sep, od_kind, od_block, i1, i2];cases nmB f.nm <;> cases f.ps.all paF <;> cases decide (1 ≤ f.ty ∧ f.ty ≤ 3) <;> cases f.bs.all ST.fm <;> rfl
def tbW (t : Key × Int × Int) : List PEv := tkn [109, 97, 112] ++ nameV t.1 ++ tkn [58] ++ kindV t.2.1 ++ tkn [45, 62] ++ kindV t.2.2 ++ tkn [59]
theorem od_tab (t : Key × Int × Int) : odV (tbW t) = !taF t := by
 unfold tbW taF;simp only [odV_app, od_tkn, od_name, od_kind];cases nmB t.1 <;> cases decide (1 ≤ t.2.1 ∧ t.2.1 ≤ 3) <;> cases decide (1 ≤ t.2.2 ∧ t.2.2 ≤ 3) <;> rfl
def slW (p : Key × Int) : List PEv := tkn [115, 108, 111, 116] ++ paramV p ++ tkn [59]
theorem od_slot (p : Key × Int) : odV (slW p) = !paF p := by
 unfold slW;simp only [odV_app, od_tkn, od_param, Bool.false_or, Bool.or_false]
theorem ct_evs (c : CTr) : c.evs = tkn [99, 111, 110, 116, 114, 97, 99, 116] ++ nameV c.nm ++ tkn [123] ++ (if 32 < c.sl.length + c.tb.length ∨ 32 < c.fn.length then farV else []) ++ (c.sl.map slW).flatten ++ (c.tb.map tbW).flatten ++ (c.fn.map FT.evs).flatten ++ tkn [125] := rfl
theorem od_ct (c : CTr) : odV c.evs = !c.fm := by
 have i1 : (c.sl.map slW).any odV = !c.sl.all paF := any_not c.sl fun y _ => od_slot y;have i2 : (c.tb.map tbW).any odV = !c.tb.all taF := any_not c.tb fun y _ => od_tab y;have i3 : (c.fn.map FT.evs).any odV = !c.fn.all FT.fm := any_not c.fn fun y _ => od_ft y;rw [ct_evs, CTr.fm, odV_app, odV_app, odV_app, odV_app, odV_app, odV_app, odV_app, od_flat, od_flat, od_flat, i1, i2, i3, od_name, od_far8, od_tkn, od_tkn, od_tkn];cases nmB c.nm <;> cases c.sl.all paF <;> cases c.tb.all taF <;> cases c.fn.all FT.fm <;> rfl
theorem name_fm {s : Key} (h : nmB s = true) : nameV s = tkn s := if_pos h
theorem kind_fm {k : Int} (h : 1 ≤ k ∧ k ≤ 3) : kindV k = tkn (kindK k) := if_pos h
theorem XT.all_len (l : List XT) : (XT.all l).length = l.length := by rw [XT.all_map, List.length_map]
structure XtF (op n : Int) (s : Key) (ar : List XT) : Prop where
 rng : 1 ≤ op ∧ op ≤ 26
 nm : nmIf (namedI op) s = true
 num : 0 ≤ n ∧ n ≤ mostI op
 len : ar.length = takesI op ar.length
 all : XT.fms ar = true
 ok : okX op n s (XT.all ar).length = true
theorem XT.parts {op n : Int} {s : Key} {ar : List XT} (h : (XT.mk op n s ar).fm = true) : XtF op n s ar := by
 rw [XT.fm, Bool.and_eq_true] at h;obtain ⟨h, ha⟩ := h;have ok := h;rw [fmX_ok, Bool.and_eq_true] at ok;unfold fmX at h;simp only [Bool.and_eq_true, decide_eq_true_eq, beq_iff_eq] at h;exact ⟨h.1.1.1, h.1.1.2, h.1.2, h.2, ha, by rw [XT.all_len]; exact ok.1⟩
theorem XtF.not {op n : Int} {s : Key} {ar : List XT} (h : XtF op n s ar) : ¬ okX op n s (XT.all ar).length = false := by rw [h.ok]; decide
theorem XtF.named {op n : Int} {s : Key} {ar : List XT} (h : XtF op n s ar) (q : namedI op = true) : nmB s = true := by
 have := h.nm;rw [q] at this;exact this
theorem one_len {α : Type} {l : List α} (h : l.length = 1) : ∃ y, l = [y] := by
 match l, h with
 | [y], _ => exact ⟨y, rfl⟩
theorem XtF.one {op n : Int} {s : Key} {ar : List XT} (h : XtF op n s ar) (q : ∀ k, takesI op k = 1) : ∃ y, ar = [y] ∧ y.fm = true := by
 have h1 := h.len;rw [q] at h1;obtain ⟨y, rfl⟩ := one_len h1;have := h.all;rw [XT.fms, Bool.and_eq_true] at this;exact ⟨y, rfl, this.1⟩
theorem XtF.two {op n : Int} {s : Key} {ar : List XT} (h : XtF op n s ar) (q : isTwo op = true) : ∃ y z, ar = [y, z] ∧ y.fm = true ∧ z.fm = true := by
 have h1 := h.len;rw [takesI, if_pos q] at h1;obtain ⟨y, z, rfl⟩ := two_len h1;have := h.all;rw [XT.fms, XT.fms, Bool.and_eq_true, Bool.and_eq_true] at this;exact ⟨y, z, rfl, this.1, this.2.1⟩
theorem ev_1 {n : Int} {s : Key} {ar : List XT} (h : XtF 1 n s ar) : (XT.mk 1 n s ar).evs = tkn (digK n.toNat) := by
 rw [XT.evs, shX, if_neg h.not, if_neg (by decide), if_pos rfl]
theorem ev_2 {n : Int} {s : Key} {ar : List XT} (h : XtF 2 n s ar) : (XT.mk 2 n s ar).evs = tkn (if n = 1 then [116, 114, 117, 101] else [102, 97, 108, 115, 101]) := by
 rw [XT.evs, shX, if_neg h.not, if_neg (by decide), if_neg (by decide), if_pos rfl]
theorem ev_3 {n : Int} {s : Key} {ar : List XT} (h : XtF 3 n s ar) : (XT.mk 3 n s ar).evs = tkn s := by
 rw [XT.evs, shX, if_neg h.not, if_neg (by decide), if_neg (by decide), if_neg (by decide), if_pos rfl, name_fm (h.named rfl)]
def innV (o : Key) (b : List PEv) (c : Key) : List PEv := upV ++ tkn o ++ b ++ (tkn c ++ downV)
theorem ev_4 {n : Int} {s : Key} {y : XT} (h : XtF 4 n s [y]) : (XT.mk 4 n s [y]).evs = tkn s ++ innV [91] y.evs [93] := by
 rw [XT.evs, shX, if_neg h.not, if_neg (by decide), if_neg (by decide), if_neg (by decide), if_neg (by decide), if_pos rfl, name_fm (h.named rfl), innV];simp only [XT.all, List.map_cons, List.map_nil, List.getD_cons_zero, List.append_assoc]
theorem ev_5 {n : Int} {s : Key} {ar : List XT} (h : XtF 5 n s ar) : (XT.mk 5 n s ar).evs = tkn s ++ argsV (ar.map XT.evs) := by
 rw [XT.evs, shX, if_neg h.not, if_neg (by decide), if_neg (by decide), if_neg (by decide), if_neg (by decide), if_neg (by decide), if_pos rfl, name_fm (h.named rfl), XT.all_map, List.map_map];rfl
theorem ev_8 {n : Int} {s : Key} {y : XT} (h : XtF 8 n s [y]) : (XT.mk 8 n s [y]).evs = upV ++ tkn [110, 111, 116] ++ brkV 3 y.op y.evs ++ downV := by
 rw [XT.evs, shX, if_neg h.not, if_neg (by decide), if_neg (by decide), if_neg (by decide), if_neg (by decide), if_neg (by decide), if_neg (by decide), if_pos rfl];simp only [XT.all, List.map_cons, List.map_nil, List.getD_cons_zero]
theorem ev_two {op n : Int} {s : Key} {y z : XT} (h : XtF op n s [y, z]) (q : isTwo op = true) : (XT.mk op n s [y, z]).evs = brkV (if holdI op = 4 then 5 else holdI op) y.op y.evs ++ tkn (opWord op) ++ brkV (holdI op + 1) z.op z.evs := by
 rw [XT.evs, shX, if_neg h.not, if_pos q];simp only [XT.all, List.map_cons, List.map_nil, List.getD_cons_zero, List.getD_cons_succ]
theorem ev_bare {op n : Int} {s : Key} {ar : List XT} (h : XtF op n s ar) (q : 20 ≤ op ∧ op ≤ 23) : (XT.mk op n s ar).evs = tkn (opWord op) := by
 rw [XT.evs, shX, if_neg h.not, if_neg (by unfold isTwo; rw [decide_eq_true_eq]; omega), if_neg (by omega), if_neg (by omega), if_neg (by omega), if_neg (by omega), if_neg (by omega), if_neg (by omega), if_pos q.2]
theorem ev_one {op n : Int} {s : Key} {y : XT} (h : XtF op n s [y]) (q : 24 ≤ op ∧ op ≤ 26) : (XT.mk op n s [y]).evs = tkn (opWord op) ++ innV [40] y.evs [41] := by
 rw [XT.evs, shX, if_neg h.not, if_neg (by unfold isTwo; rw [decide_eq_true_eq]; omega), if_neg (by omega), if_neg (by omega), if_neg (by omega), if_neg (by omega), if_neg (by omega), if_neg (by omega), if_neg (by omega), innV, argsV];simp only [XT.all, List.map_cons, List.map_nil, sepV, List.length_cons, List.length_nil, List.append_assoc];rfl
theorem no_args {op n : Int} {s : Key} {ar : List XT} (h : XtF op n s ar) (q : 20 ≤ op ∧ op ≤ 23) : ar = [] := by
 have h1 := h.len;rw [takesI, if_neg (by unfold isTwo; rw [decide_eq_true_eq]; omega), if_neg (by omega), if_neg (by omega)] at h1;exact List.eq_nil_of_length_eq_zero h1
theorem hold_ops {op : Int} (h : 1 ≤ op ∧ op ≤ 26) (h1 : holdI op ≠ 7) (h2 : holdI op ≠ 3) : isTwo op = true := by
 unfold holdI at h1 h2;unfold isTwo;rw [decide_eq_true_eq]
 by_cases a : op = 6
 ·omega
 by_cases b : op = 7
 ·omega
 by_cases c : op = 8
 ·subst c; exact absurd rfl h2
 by_cases d : 9 ≤ op ∧ op ≤ 14
 ·omega
 by_cases e : op = 15 ∨ op = 16
 ·omega
 by_cases f : 17 ≤ op ∧ op ≤ 19
 ·omega
 rw [if_neg a, if_neg b, if_neg c, if_neg d, if_neg e, if_neg f] at h1;exact absurd rfl h1
theorem hold_not {op : Int} (h : holdI op = 3) : op = 8 := by
 unfold holdI at h
 split at h
 ·cases h
 ·split at h
  ·cases h
  ·split at h
   ·assumption
   ·split at h
    ·cases h
    ·split at h
     ·cases h
     ·split at h <;> cases h
theorem hold_rng (op : Int) : 1 ≤ holdI op ∧ holdI op ≤ 7 := by
 unfold holdI
 split
 ·omega
 ·split
  ·omega
  ·split
   ·omega
   ·split
    ·omega
    ·split
     ·omega
     ·split <;> omega
theorem hold_atom {op : Int} (h : 1 ≤ op ∧ op ≤ 26) (h1 : holdI op = 7) : op ≤ 5 ∨ 20 ≤ op := by
 unfold holdI at h1
 by_cases a : op = 6
 ·subst a; cases h1
 by_cases b : op = 7
 ·subst b; cases h1
 by_cases c : op = 8
 ·subst c; cases h1
 by_cases d : 9 ≤ op ∧ op ≤ 14
 ·rw [if_neg a, if_neg b, if_neg c, if_pos d] at h1; cases h1
 by_cases e : op = 15 ∨ op = 16
 ·rw [if_neg a, if_neg b, if_neg c, if_neg d, if_pos e] at h1; cases h1
 by_cases f : 17 ≤ op ∧ op ≤ 19
 ·rw [if_neg a, if_neg b, if_neg c, if_neg d, if_neg e, if_pos f] at h1; cases h1
 omega
end Go.Proofs.YtpofgnlkhkednaaGreatDoor
