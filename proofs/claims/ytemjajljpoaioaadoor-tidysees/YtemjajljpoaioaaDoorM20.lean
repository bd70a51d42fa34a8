import Derived.Test.YtemjajljpoaioaaDoorYD
import Derived.BigQuiet
namespace Go.Proofs.YtemjajljpoaioaaDoor
open Go.RowKit
set_option linter.unusedVariables false
set_option linter.unusedSimpArgs false
set_option maxRecDepth 20000
set_option maxHeartbeats 8000000
theorem takeP_full {pb : List Ins} {ld : List Bool} {i : Ins} (h : (takeP pb ld i).length = pb.length + 1) : takeP pb ld i = pb ++ [i] ∧ ¬ (i.op = 2 ∧ idle (lastP pb ld 1) = true) ∧ ¬ (i.op = 13 ∧ (lastP pb ld 1).op = 1) ∧ ¬ (i.op = 15 ∧ (lastP pb ld 1).op = 1) ∧ ∀ n, two i.op (lastP pb ld 2).a (lastP pb ld 1).a = some n → ¬ ((lastP pb ld 2).op = 1 ∧ (lastP pb ld 1).op = 1) := by
 unfold takeP at h ⊢
 by_cases c1 : i.op = 2 ∧ idle (lastP pb ld 1) = true
 ·rw [if_pos c1, List.length_take] at h; omega
 rw [if_neg c1] at h ⊢
 have ne : (lastP pb ld 1).op = 1 → 0 < pb.length := fun e => by
  obtain ⟨p, u, rfl, _⟩ := lastP_one e (by decide)
  simp
 by_cases c2 : i.op = 13 ∧ (lastP pb ld 1).op = 1
 ·have := ne c2.2
  rw [if_pos c2, List.length_append, List.length_take] at h
  simp only [List.length_cons, List.length_nil] at h
  omega
 rw [if_neg c2] at h ⊢
 by_cases c3 : i.op = 15 ∧ (lastP pb ld 1).op = 1
 ·have := ne c3.2
  rw [if_pos c3] at h
  split at h
  ·rw [List.length_append, List.length_take] at h
   simp only [List.length_cons, List.length_nil] at h
   omega
  ·rw [List.length_take] at h; omega
 rw [if_neg c3] at h ⊢
 unfold opP at h ⊢
 cases e : two i.op (lastP pb ld 2).a (lastP pb ld 1).a with
 | none => exact ⟨rfl, c1, c2, c3, fun n q => by cases q⟩
 | some n =>
  rw [e] at h
  by_cases c4 : (lastP pb ld 2).op = 1 ∧ (lastP pb ld 1).op = 1
  ·have := ne c4.2
   simp only [if_pos c4] at h
   rw [List.length_append, List.length_take] at h
   simp only [List.length_cons, List.length_nil] at h
   omega
  ·exact ⟨if_neg c4, c1, c2, c3, fun _ _ => c4⟩
theorem lastP_is {pb : List Ins} {ld : List Bool} {m : Nat} {u : Ins} (hm : pb[pb.length - m]? = some u) (h1 : m ≤ pb.length) (hn : ∀ j, j < m → ld[pb.length - m + 1 + j]? ≠ some true) : lastP pb ld m = u := by
 unfold lastP
 rw [if_neg (by omega), if_neg, List.getD_eq_getElem?_getD, hm]
 ·rfl
 ·intro q
  obtain ⟨j, hj⟩ := List.mem_iff_getElem?.1 (List.elem_iff.1 q)
  have hl := (List.getElem?_eq_some_iff.1 hj).1
  rw [List.length_take] at hl
  rw [List.getElem?_take_of_lt (by omega), List.getElem?_drop] at hj
  exact hn j (by omega) hj
def Tight (x : List Ins) (k : Nat) (i : Ins) : Prop :=
 ¬ (i.op = 14 ∧ i.a = k + 1) ∧ ∃ ld : List Bool, (∀ m : Nat, ld[m]? = some true → (jmpd x)[m]? = some true) ∧ (takeP (x.take k) ld i).length = k + 1
theorem pGo_same {x : List Ins} : ∀ (r : List Ins) (k : Nat) (ld : List Bool), x.drop k = r → k ≤ x.length → (∀ m : Nat, ld[m]? = some true → (jmpd x)[m]? = some true) → (pGo (jmpd x) r k (x.take k) ld (List.range k)).1.length = x.length →
  pGo (jmpd x) r k (x.take k) ld (List.range k) = (x, List.range x.length) ∧ ∀ (j : Nat) i, k ≤ j → x[j]? = some i → Tight x j i
 | [], k, ld, hr, hk, hld, h => by
  have : x.length ≤ k := by
   have := congrArg List.length hr
   rw [List.length_drop] at this
   simp only [List.length_nil] at this
   omega
  obtain rfl : k = x.length := by omega
  refine ⟨by show (x.take x.length, List.range x.length) = _; rw [List.take_length], fun j i hj hi => ?_⟩
  have := (List.getElem?_eq_some_iff.1 hi).1
  omega
 | i :: r, k, ld, hr, hk, hld, h => by
  have hk : k < x.length := by
   have := congrArg List.length hr
   rw [List.length_drop, List.length_cons] at this
   omega
  have hi : x[k]? = some i := by
   have := congrArg (fun l => l[0]?) hr
   simpa using this
  have hr' : x.drop (k + 1) = r := by
   have := congrArg (List.drop 1) hr
   simpa [Nat.add_comm] using this
  have hrl : r.length = x.length - (k + 1) := by rw [← hr', List.length_drop]
  have tl : (x.take k).length = k := by rw [List.length_take]; omega
  have h : (pGo (jmpd x) r (k + 1) (pbN k (x.take k) (ldN (jmpd x) k (x.take k) ld) i) (ldN (jmpd x) k (x.take k) ld) (List.range k ++ [(x.take k).length])).1.length = x.length := h
  have hb := pGo_len (jmpd x) r (k + 1) (pbN k (x.take k) (ldN (jmpd x) k (x.take k) ld) i) (ldN (jmpd x) k (x.take k) ld) (List.range k ++ [(x.take k).length])
  have hp := pbN_len k (x.take k) (ldN (jmpd x) k (x.take k) ld) i
  have hlen : (pbN k (x.take k) (ldN (jmpd x) k (x.take k) ld) i).length = k + 1 := by omega
  have hld' : ∀ m : Nat, (ldN (jmpd x) k (x.take k) ld)[m]? = some true → (jmpd x)[m]? = some true := fun m q => by
   unfold ldN at q
   split at q
   ·rename_i c
    rw [tl] at q
    by_cases e : k = m
    ·subst e; exact getD_true.1 c
    ·rw [List.getElem?_set_ne e] at q; exact hld m q
   ·exact hld m q
  have c : ¬ (i.op = 14 ∧ i.a = k + 1) := fun c => by
   unfold pbN at hlen
   rw [if_pos c, tl] at hlen
   omega
  have e1 : pbN k (x.take k) (ldN (jmpd x) k (x.take k) ld) i = takeP (x.take k) (ldN (jmpd x) k (x.take k) ld) i := if_neg c
  rw [e1] at hlen h
  have full := (takeP_full (by rw [hlen, tl])).1
  have e2 : takeP (x.take k) (ldN (jmpd x) k (x.take k) ld) i = x.take (k + 1) := by
   rw [full, List.take_add_one, hi]
   rfl
  have e3 : List.range k ++ [(x.take k).length] = List.range (k + 1) := by rw [tl, List.range_succ]
  rw [e2, e3] at h
  obtain ⟨q1, q2⟩ := pGo_same r (k + 1) (ldN (jmpd x) k (x.take k) ld) hr' (by omega) hld' h
  refine ⟨?_, fun j y hj hy => ?_⟩
  ·show pGo (jmpd x) r (k + 1) (pbN k (x.take k) (ldN (jmpd x) k (x.take k) ld) i) (ldN (jmpd x) k (x.take k) ld) (List.range k ++ [(x.take k).length]) = _
   rw [e1, e2, e3]
   exact q1
  ·by_cases e : j = k
   ·subst e
    rw [hi] at hy
    cases hy
    exact ⟨c, _, hld', hlen⟩
   ·exact q2 j y (by omega) hy
theorem prsd_same {x : List Ins} (L : Lds x) (h : (prsd x).length = x.length) : prsd x = x ∧ ∀ (k : Nat) i, x[k]? = some i → Tight x k i := by
 rw [prsd, List.length_map] at h
 obtain ⟨q1, q2⟩ := pGo_same x 0 (List.replicate (x.length + 1) false) rfl (Nat.zero_le _) (fun m q => by
  rw [List.getElem?_replicate] at q
  split at q <;> cases q) h
 refine ⟨?_, fun k i hi => q2 k i (Nat.zero_le _) hi⟩
 have q1 : pGo (jmpd x) x 0 [] (List.replicate (x.length + 1) false) [] = (x, List.range x.length) := q1
 rw [prsd, q1]
 refine (List.map_congr_left fun i hi => ?_).trans (List.map_id _)
 show mv _ i = i
 by_cases hJ : isJ i = true
 ·obtain ⟨a0, a1⟩ := L i hi hJ
  rw [mv_J hJ]
  have : (List.range x.length).getD i.a.toNat 0 = i.a.toNat := by
   rw [List.getD_eq_getElem?_getD, List.getElem?_range a1]
   rfl
  rw [this, Int.toNat_of_nonneg a0]
 ·rw [mv_no hJ]
def rndP (b : List Ins) : List Ins := prsd (rchd (strt b))
def tidP : Nat → List Ins → Option (List Ins)
 | 0, _ => none
 | n + 1, b => if rndP b = b then some (rndP b) else tidP n (rndP b)
section
variable {np nn : Nat} {lo : Int} {ps : List Pc} {b : List Ins}
theorem Fb.rnd (F : Fb np nn lo ps b) (hp : ∀ q ∈ ps, 0 ≤ q.pa) : Fb np nn lo ps (rndP b) ∧ (rndP b).length ≤ b.length := by
 have F1 := strt_fb F
 obtain ⟨F2, w⟩ := rchd_fb F1
 obtain ⟨h, X⟩ := px_of F2 hp w
 refine ⟨prsd_fb X, ?_⟩
 have h1 := strt_len b
 have h2 := rchd_len F1
 have h3 := prsd_len (rchd (strt b))
 show (prsd (rchd (strt b))).length ≤ _
 omega
theorem Fb.rnd_same (F : Fb np nn lo ps b) (h : (rndP b).length = b.length) : rndP b = strt b ∧ rchd (strt b) = strt b ∧ ∀ (k : Nat) i, (strt b)[k]? = some i → Tight (strt b) k i := by
 have F1 := strt_fb F
 have h1 := strt_len b
 have h2 := rchd_len F1
 have h3 := prsd_len (rchd (strt b))
 have h : (prsd (rchd (strt b))).length = b.length := h
 have e := rchd_same F1 (by omega)
 rw [e] at h
 obtain ⟨q1, q2⟩ := prsd_same F1.lds (by omega)
 exact ⟨by show prsd (rchd (strt b)) = _; rw [e, q1], e, q2⟩
def lft (b : List Ins) : Nat := 2 * b.length + (if strt b = b then 0 else 1)
theorem Fb.down (F : Fb np nn lo ps b) (hp : ∀ q ∈ ps, 0 ≤ q.pa) (h : rndP b ≠ b) : lft (rndP b) < lft b := by
 obtain ⟨F1, hl⟩ := F.rnd hp
 unfold lft
 by_cases e : (rndP b).length = b.length
 ·obtain ⟨q, _⟩ := F.rnd_same e
  have n : strt b ≠ b := fun x => h (q.trans x)
  rw [if_neg n, q, if_pos (strt_idem F.lds), strt_len]
  omega
 ·split <;> split <;> omega
theorem tidP_end (hp : ∀ q ∈ ps, 0 ≤ q.pa) : ∀ (n : Nat) (b : List Ins), Fb np nn lo ps b → lft b < n → ∃ x, tidP n b = some x ∧ rndP x = x ∧ Fb np nn lo ps x
 | 0, _, _, h => by omega
 | n + 1, b, F, h => by
  unfold tidP
  by_cases e : rndP b = b
  ·rw [if_pos e]
   exact ⟨_, rfl, by rw [e, e], by rw [e]; exact F⟩
  ·rw [if_neg e]
   exact tidP_end hp n _ (F.rnd hp).1 (by have := F.down hp e; omega)
theorem tidP_len (hp : ∀ q ∈ ps, 0 ≤ q.pa) : ∀ (n : Nat) (b x : List Ins), Fb np nn lo ps b → tidP n b = some x → x.length ≤ b.length
 | 0, _, _, _, h => by cases h
 | n + 1, b, x, F, h => by
  unfold tidP at h
  obtain ⟨F1, hl⟩ := F.rnd hp
  split at h
  ·cases h; exact hl
  ·exact Nat.le_trans (tidP_len hp n _ x F1 h) hl
structure Plain (x : List Ins) : Prop where
 way : ∀ k, k < x.length → Way x k
 str : ∀ (k : Nat) i y, x[k]? = some i → isJ i = true → x[i.a.toNat]? = some y → y.op = 14 → ∀ n, rnd x n i.a.toNat = true
 tight : ∀ (k : Nat) i, x[k]? = some i → Tight x k i
theorem Fb.plain (F : Fb np nn lo ps b) (h : rndP b = b) : Plain b := by
 obtain ⟨q1, q2, q3⟩ := F.rnd_same (congrArg List.length h)
 have e : strt b = b := q1.symm.trans h
 rw [e] at q2 q3
 refine ⟨fun k hk => ?_, fun k i y hi hj hy h14 n => strt_ok e hi hj hy h14 n, q3⟩
 have := (rchd_fb F).2 k (by rw [q2]; exact hk)
 rwa [q2] at this
theorem Plain.pair {x : List Ins} (P : Plain x) {k : Nat} {i y : Ins} (hi : x[k]? = some i) (hy : x[k + 1]? = some y) (hn : (jmpd x)[k + 1]? ≠ some true) : ¬ (idle i = true ∧ y.op = 2) ∧ ¬ (i.op = 1 ∧ (y.op = 13 ∨ y.op = 15)) := by
 obtain ⟨_, ld, hld, hl⟩ := P.tight _ _ hy
 have hk := (List.getElem?_eq_some_iff.1 hy).1
 have tl : (x.take (k + 1)).length = k + 1 := by rw [List.length_take]; omega
 obtain ⟨_, c1, c2, c3, _⟩ := takeP_full (pb := x.take (k + 1)) (by rw [hl, tl])
 have e : lastP (x.take (k + 1)) ld 1 = i := lastP_is (by rw [tl, Nat.add_sub_cancel, List.getElem?_take_of_lt (by omega)]; exact hi) (by omega) fun j hj q => hn (hld _ (by rw [tl, Nat.add_sub_cancel, show k + 1 + j = k + 1 by omega] at q; exact q))
 rw [e] at c1 c2 c3
 exact ⟨fun q => c1 ⟨q.2, q.1⟩, fun q => q.2.elim (fun z => c2 ⟨z, q.1⟩) (fun z => c3 ⟨z, q.1⟩)⟩
theorem Plain.three {x : List Ins} (P : Plain x) {k : Nat} {i y z : Ins} (hi : x[k]? = some i) (hy : x[k + 1]? = some y) (hz : x[k + 2]? = some z) (hn : (jmpd x)[k + 1]? ≠ some true) (hn2 : (jmpd x)[k + 2]? ≠ some true) (o1 : i.op = 1) (o2 : y.op = 1) : two z.op i.a y.a = none := by
 obtain ⟨_, ld, hld, hl⟩ := P.tight _ _ hz
 have hk := (List.getElem?_eq_some_iff.1 hz).1
 have tl : (x.take (k + 2)).length = k + 2 := by rw [List.length_take]; omega
 obtain ⟨_, _, _, _, c4⟩ := takeP_full (pb := x.take (k + 2)) (by rw [hl, tl])
 have e1 : lastP (x.take (k + 2)) ld 1 = y := lastP_is (by rw [tl, show k + 2 - 1 = k + 1 by omega, List.getElem?_take_of_lt (by omega)]; exact hy) (by omega) fun j hj q => hn2 (hld _ (by rw [tl, show k + 2 - 1 + 1 + j = k + 2 by omega] at q; exact q))
 have e2 : lastP (x.take (k + 2)) ld 2 = i := lastP_is (by rw [tl, Nat.add_sub_cancel, List.getElem?_take_of_lt (by omega)]; exact hi) (by omega) fun j hj q => by
  rw [tl, Nat.add_sub_cancel] at q
  have q := hld _ q
  rcases (show j = 0 ∨ j = 1 by omega) with rfl | rfl
  ·exact hn q
  ·exact hn2 q
 rw [e1, e2] at c4
 cases e : two z.op i.a y.a with
 | none => rfl
 | some n => exact absurd ⟨o1, o2⟩ (c4 n e)
end
theorem live_tid : tidP 9 [⟨1, 2, 0⟩, ⟨1, 3, 0⟩, ⟨5, 0, 0⟩, ⟨17, 0, 0⟩] = some [⟨1, 5, 0⟩, ⟨17, 0, 0⟩] := by decide
theorem below_drewN {B : Nat} {a w : World} (h : Below B a w) (n : Nat) : Below B a (w.drewN n) := h.trans ⟨rfl, rfl, rfl, Nat.le_refl _, fun _ _ => rfl⟩
def Tab (w : World) : Prop := 0 < w.heap.size ∧ ∀ n, n < 31 → w.cell? ⟨0, n * 3, none⟩ = some (.int .i64 (tkC n)) ∧ w.cell? ⟨0, n * 3 + 1, none⟩ = some (.int .i64 (lv n)) ∧ w.cell? ⟨0, n * 3 + 2, none⟩ = some (.int .i64 (ka n))
theorem Tab.below {w w' : World} {B : Nat} (h : Tab w) (hb : Below B w w') (hB : 0 < B) : Tab w' := by
 refine ⟨Nat.lt_of_lt_of_le h.1 hb.size, fun n hn => ?_⟩
 rw [hb.cell (p := ⟨0, n * 3, none⟩) hB, hb.cell (p := ⟨0, n * 3 + 1, none⟩) hB, hb.cell (p := ⟨0, n * 3 + 2, none⟩) hB]
 exact h.2 n hn
set_option maxHeartbeats 800000 in
theorem isInstr_any (op : Int) (w : World) : Calls Tryd.prog 35 #[.int .i64 op] w fun e w' => e = .returned (.bool (isI op)) ∧ w = w' := by
 go_enter Tryd.func35, Tryd.ntmps35
 unfold isI
 by_cases h1 : 1 ≤ op
 ·have d1 := decide_eq_true h1
  go_wp2; go_ret; exact ⟨by simp [h1], rfl⟩
 ·have d1 := decide_eq_false h1
  go_wp2; go_ret; exact ⟨by simp [h1], rfl⟩
set_option maxHeartbeats 800000 in
theorem endB_any (pla nla : Option Addr) (np plc nn nlc : Nat) (k : Int) (w : World) : Calls Tryd.prog 37 #[.agg #[.slice pla np plc, .slice nla nn nlc], .int .i64 k] w fun e w' => e = .returned (.int .i64 (endB nn k)) ∧ Below w.heap.size w w' := by
 have bA : Below w.heap.size w (w.alloc (.cells #[.slice pla np plc, .slice nla nn nlc] 25)) := (Below.refl _ _).alloc (Nat.le_refl _) _
 go_enter Tryd.func37, Tryd.ntmps37
 unfold endB
 by_cases h1 : k = 6
 ·subst h1
  go_wp2; go_ret; exact ⟨rfl, bA⟩
 ·go_wp2; go_ret; exact ⟨by simp [h1], bA⟩
set_option maxHeartbeats 1600000 in
theorem endA_any (pla nla bla : Option Addr) (np plc nn nlc nb blc : Nat) (nm : ByteArray) (ob : Bool) (pa lo k : Int) (w : World) : Calls Tryd.prog 36 #[.agg #[.slice pla np plc, .slice nla nn nlc], .agg #[.string nm, .bool ob, .int .i64 pa, .int .i64 lo, .slice bla nb blc], .int .i64 k] w fun e w' => e = .returned (.int .i64 (endA np nb lo k)) ∧ Below w.heap.size w w' := by
 have bA : Below w.heap.size w (w.alloc (.cells #[.slice pla np plc, .slice nla nn nlc] 25)) := (Below.refl _ _).alloc (Nat.le_refl _) _
 have bB := bA.alloc (o := .cells #[.string nm, .bool ob, .int .i64 pa, .int .i64 lo, .slice bla nb blc] 34) bA.size
 clear bA
 go_enter Tryd.func36, Tryd.ntmps36
 unfold endA
 by_cases h1 : k = 1
 ·subst h1; go_wp2; go_ret; exact ⟨rfl, bB⟩
 by_cases h2 : k = 2
 ·subst h2; go_wp2; go_ret; exact ⟨rfl, bB⟩
 by_cases h3 : k = 3
 ·subst h3; go_wp2; go_ret; exact ⟨rfl, bB⟩
 by_cases h4 : k = 4
 ·subst h4; go_wp2; go_ret; exact ⟨rfl, bB⟩
 by_cases h5 : k = 5
 ·subst h5; go_wp2; go_ret; exact ⟨rfl, bB⟩
 by_cases h6 : k = 6
 ·subst h6; go_wp2; go_ret; exact ⟨rfl, bB⟩
 go_wp2; go_ret
 exact ⟨by simp [h1, h2, h3, h4, h5, h6], bB⟩
set_option maxHeartbeats 800000 in
theorem leaves_any (op : Nat) (a b : Int) (w : World) (ho : op < 31) (T : Tab w) : Calls Tryd.prog 49 #[.agg #[.int .i64 op, .int .i64 a, .int .i64 b]] w fun e w' => e = .returned (.int .i64 (lv op)) ∧ Below w.heap.size w w' := by
 have bA : Below w.heap.size w (w.alloc (.cells #[.int .i64 op, .int .i64 a, .int .i64 b] 31)) := (Below.refl _ _).alloc (Nat.le_refl _) _
 have t1 := ((T.below bA T.1).2 op ho).2.1
 have hi : (op : Int) < 31 := by omega
 clear T
 go_enter Tryd.func49, Tryd.ntmps49
 go_wp2
 go_ret
 exact ⟨rfl, bA⟩
def PsAt (base : Nat) (w : World) (c : Cd) : Prop := c.ps.Held Pc.flds 5 base w
theorem PsAt.param {base : Nat} {w : World} {c : Cd} (h : PsAt base w c) (a : Nat) (ha : a < c.ps.xs.length) : ∃ rb ro, c.ps.la = some ⟨rb, ro, none⟩ ∧ rb < base ∧ rb < w.heap.size ∧ w.cell? ⟨rb, ro + a * 5 + 2, none⟩ = some (.int .i64 (paramsAt c.ps.xs a)) := by
 obtain ⟨_, _, h0 | ⟨rb, ro, e, hb, hz, hr⟩⟩ := h
 ·rw [h0] at ha; simp at ha
 refine ⟨rb, ro, e, hb, hz, ?_⟩
 have hx := List.getElem?_eq_getElem ha
 have := (hr a _ hx).get 2 rfl
 rw [this]
 simp [paramsAt, Fld.val, List.getD_eq_getElem?_getD, hx]
set_option maxHeartbeats 1600000 in
theorem takes_any (base : Nat) (c : Cd) (op : Nat) (a b : Int) (w : World) (ho : op < 31) (T : Tab w) (hB : base ≤ w.heap.size) (P : PsAt base w c) (hp : ∀ p ∈ c.ps.xs, 0 ≤ p.pa ∧ p.pa ≤ 8) (h4 : ka op = 4 → 0 ≤ a ∧ a < c.ps.xs.length) (h6 : ka op = 6 → 0 ≤ a ∧ a ≤ 8) :
  Calls Tryd.prog 48 #[.agg #[.slice c.ps.la c.ps.xs.length c.ps.lc, .slice c.ns.la c.ns.xs.length c.ns.lc], .agg #[.int .i64 op, .int .i64 a, .int .i64 b]] w fun e w' => e = .returned (.int .i64 (takesP c.ps.xs ⟨op, a, b⟩)) ∧ Below w.heap.size w w' := by
 have bA : Below w.heap.size w (w.alloc (.cells #[.slice c.ps.la c.ps.xs.length c.ps.lc, .slice c.ns.la c.ns.xs.length c.ns.lc] 25)) := (Below.refl _ _).alloc (Nat.le_refl _) _
 have bB := bA.alloc (o := .cells #[.int .i64 op, .int .i64 a, .int .i64 b] 31) bA.size
 have bC := bB.alloc (o := .cells #[.int .i64 (tkC op), .int .i64 (lv op), .int .i64 (ka op)] 64) bB.size
 obtain ⟨t0, t1, t2⟩ := (T.below bB T.1).2 op ho
 have hi : (op : Int) < 31 := by omega
 have htk : 0 ≤ tkC op ∧ tkC op ≤ 3 := by
  have : ∀ m : Fin 31, 0 ≤ (shp.getD m.val (0, 0, 0)).1 ∧ (shp.getD m.val (0, 0, 0)).1 ≤ 3 := by decide
  exact this ⟨op, ho⟩
 have hs0 := T.1
 clear T
 unfold takesP
 simp only [Int.toNat_natCast]
 go_enter Tryd.func48, Tryd.ntmps48
 by_cases k4 : ka op = 4
 ·obtain ⟨a0, a1⟩ := h4 k4
  obtain ⟨n, rfl⟩ := Int.eq_ofNat_of_zero_le a0
  obtain ⟨rb, ro, e, hb, hz, hc⟩ := P.param n (by omega)
  have hc2 := (bC.cell (p := ⟨rb, ro + n * 5 + 2, none⟩) hz).trans hc
  have hpb : 0 ≤ paramsAt c.ps.xs n ∧ paramsAt c.ps.xs n ≤ 8 := by
   have hx : n < c.ps.xs.length := by omega
   have := hp _ (List.getElem_mem hx)
   simpa [paramsAt, List.getD_eq_getElem?_getD, List.getElem?_eq_getElem hx] using this
  rw [if_pos k4]
  rw [k4] at t2 bC hc2
  rw [e] at t0 t1 t2 bA bB bC hc2
  rw [e]
  clear P hp h4 h6 hc
  go_wp2_with fail
  go_quiet (fail)
  go_wp2
  go_ret
  exact ⟨rfl, below_drewN bC _⟩
 ·rw [if_neg k4]
  by_cases k6 : ka op = 6
  ·obtain ⟨a0, a1⟩ := h6 k6
   rw [if_pos k6]
   rw [k6] at t2 bC
   clear P hp h4 h6
   go_wp2
   go_ret
   exact ⟨rfl, bC⟩
  ·rw [if_neg k6]
   have e4 : (ka op == 4) = false := by simp [k4]
   have e6 : (ka op == 6) = false := by simp [k6]
   clear P hp h4 h6
   go_wp2
   go_ret
   exact ⟨rfl, bC⟩
end Go.Proofs.YtemjajljpoaioaaDoor
