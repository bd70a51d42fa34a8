import Derived.Test.YtackcbpabjhmpaaGreatJB4
namespace Go.Proofs.YtackcbpabjhmpaaGreat
open Go.RowKit
set_option linter.unusedVariables false
set_option linter.unusedSimpArgs false
def endG (E : Int) (a n : Nat) (e0 : Int) : Int := if E ≠ 0 then E else if a < n then 4 else e0
set_option maxHeartbeats 800000 in
theorem gend_all (gb : Nat) (B : List UInt8) (a : Nat) (E e0 : Int) (w : World) (k : Gt w gb B a E) (ha : a ≤ B.length) (hL : B.length ≤ 1099511627000) :
  Calls Tryz.prog 45 #[.pointer (some ⟨gb, 0, none⟩), .int .i64 e0] w fun e w' => e = .returned (.int .i64 (endG E a B.length e0)) ∧ But (fun k => k = gb) w w' := by
 have k' : Blk w gb #[.string ⟨B.toArray⟩, .int .i64 a, .int .i64 E] 81 := k
 have c0 := (k'.cell 0).trans rfl
 have c1 := (k'.cell 1).trans rfl
 have c2 := (k'.cell 2).trans rfl
 have zb := k'.lt
 have sz := str_size' B
 by_cases h0 : E = 0
 ·subst h0
  by_cases h1 : a < B.length
  ·have h1' : (a : Int) < (B.length : Int) := by omega
   have hG : endG 0 a B.length e0 = 4 := by unfold endG; rw [if_neg (by simp), if_pos h1]
   rw [hG]
   clear hG h1
   go_enter Tryz.func45, Tryz.ntmps45
   go_wp2_with fail
   go_quiet (fail)
   have bq := drewN_below (Below.refl w.heap.size w) nq
   have k1 := k'.below bq zb
   have B2 := (But.of_below bq).trans (but_set (w.drewN nq) gb 2 (.int .i64 4))
   generalize w.drewN nq = wa at *
   clear c0 c1 c2
   have c2 := (k1.cell 2).trans rfl
   have f2 := k1.frozen 2
   have za := k1.lt
   go_wp2
   go_ret
   exact ⟨rfl, B2⟩
  ·have h1' : ¬ (a : Int) < (B.length : Int) := by omega
   have hG : endG 0 a B.length e0 = e0 := by unfold endG; rw [if_neg (by simp), if_neg h1]
   rw [hG]
   clear hG h1
   go_enter Tryz.func45, Tryz.ntmps45
   go_wp2_with fail
   go_quiet (fail)
   have bq := drewN_below (Below.refl w.heap.size w) nq
   have k1 := k'.below bq zb
   have B2 := (But.of_below bq).trans (but_set (w.drewN nq) gb 2 (.int .i64 e0))
   generalize w.drewN nq = wa at *
   clear c0 c1 c2
   have c2 := (k1.cell 2).trans rfl
   have f2 := k1.frozen 2
   have za := k1.lt
   go_wp2
   go_ret
   exact ⟨rfl, B2⟩
 ·have hb : (E == 0) = false := by simpa using h0
  have hG : endG E a B.length e0 = E := by unfold endG; rw [if_pos h0]
  rw [hG]
  clear hG h0
  go_enter Tryz.func45, Tryz.ntmps45
  go_wp2_with fail
  go_quiet (fail)
  have bq := drewN_below (Below.refl w.heap.size w) nq
  have k1 := k'.below bq zb
  generalize w.drewN nq = wa at *
  clear c0 c1 c2
  have c2 := (k1.cell 2).trans rfl
  have za := k1.lt
  go_wp2
  go_ret
  exact ⟨rfl, But.of_below bq⟩
def zF : Sc → Fld
 | .num _ => .i 0
 | .flag => .b false
 | .dig => .d 0
 | .text _ => .s []
 | .list _ _ => .l none 0 []
def zFs (scs : List Sc) : List Fld := scs.map zF
theorem zF_val (c : Sc) : (zF c).val = c.zero := by cases c <;> rfl
theorem zFs_val (scs : List Sc) : ((zFs scs).map Fld.val).toArray = zArr scs := by
 unfold zFs zArr
 rw [List.map_map]
 congr 1
 exact List.map_congr_left fun c _ => zF_val c
theorem zFs_len (scs : List Sc) : (zFs scs).length = scs.length := by simp [zFs]
theorem zFs_lie (lo : Nat) (w : World) (scs : List Sc) : lieAll lo w (zFs scs) := fun f hf => by
 obtain ⟨c, _, rfl⟩ := List.mem_map.1 hf
 cases c with
 | num m => exact ⟨by omega, by omega⟩
 | dig => exact ⟨by omega, by omega⟩
 | flag => trivial
 | text m => trivial
 | list m els => exact ⟨by simp, by simp [maxLen], .inl rfl⟩
def Sc.sane : Sc → Bool
 | .num m => decide (0 ≤ m)
 | .flag => true
 | .dig => true
 | .text m => decide (0 ≤ m)
 | .list m _ => decide (0 ≤ m)
theorem zFs_fit : ∀ (scs : List Sc), scs.all Sc.sane = true → fitsAll scs (zFs scs)
 | [], _ => by simp [zFs, fitsAll]
 | c :: cs, h => by
  rw [List.all_cons, Bool.and_eq_true] at h
  have ih := zFs_fit cs h.2
  show fitsAll (c :: cs) (zF c :: zFs cs)
  rw [fitsAll]
  refine ⟨?_, ih⟩
  cases c with
  | num m => rw [zF, Sc.fits]; have := of_decide_eq_true h.1; omega
  | dig => rw [zF, Sc.fits]; omega
  | flag => rw [zF, Sc.fits]; trivial
  | text m => rw [zF, Sc.fits]; have := of_decide_eq_true h.1; simpa using this
  | list m els => rw [zF, Sc.fits]; have := of_decide_eq_true h.1; exact ⟨by simpa using this, fun d hd => by cases hd⟩
structure Kd where
 sc : List Sc
 wrap : Array Value → Value
 rd : List UInt8 → Rs (List Pv)
 may : List Pv → Prop
 enc : List Pv → List UInt8
def GetP (K : Kd) (s : List UInt8) (fs : List Fld) (er : Int) : Prop :=
 (K.rd s = .error er ∧ er ≠ 0 ∧ pvAll fs = pvAll (zFs K.sc)) ∨ (∃ vs c r, K.rd s = .ok (vs, c :: r) ∧ er = 4 ∧ pvAll fs = pvAll (zFs K.sc)) ∨
 (∃ vs, K.rd s = .ok (vs, []) ∧ ((K.may vs ∧ er = 0 ∧ pvAll fs = vs) ∨ (¬ K.may vs ∧ er = 2 ∧ pvAll fs = pvAll (zFs K.sc))))
theorem GetP.uniq {K : Kd} {s : List UInt8} {fs gs : List Fld} {e f : Int} (h : GetP K s fs e) (g : GetP K s gs f) : pvAll fs = pvAll gs ∧ e = f := by
 rcases h with ⟨h1, h2, h3⟩ | ⟨vs, c, r, h1, h2, h3⟩ | ⟨vs, h1, ⟨h2, h3, h4⟩ | ⟨h2, h3, h4⟩⟩ <;>
  rcases g with ⟨g1, g2, g3⟩ | ⟨us, d, q, g1, g2, g3⟩ | ⟨us, g1, ⟨g2, g3, g4⟩ | ⟨g2, g3, g4⟩⟩ <;> rw [h1] at g1 <;> first | (exfalso; cases g1; done) | (injection g1 with g1)
 ·exact ⟨h3.trans g3.symm, g1⟩
 ·exact ⟨h3.trans g3.symm, h2.trans g2.symm⟩
 all_goals first
  | (injection g1 with e1 e2; cases e2; done)
  | (injection g1 with e1 e2; subst e1; first | exact ⟨h4.trans g4.symm, h3.trans g3.symm⟩ | exact absurd h2 g2 | exact absurd g2 h2)
def PutP (K : Kd) (vs : List Pv) (out : List UInt8) (er : Int) : Prop := (K.may vs ∧ out = K.enc vs ∧ er = 0) ∨ (¬ K.may vs ∧ out = [] ∧ er = 2)
theorem PutP.uniq {K : Kd} {vs : List Pv} {o p : List UInt8} {e f : Int} (h : PutP K vs o e) (g : PutP K vs p f) : o = p ∧ e = f := by
 rcases h with ⟨h1, h2, h3⟩ | ⟨h1, h2, h3⟩ <;> rcases g with ⟨g1, g2, g3⟩ | ⟨g1, g2, g3⟩
 ·exact ⟨h2.trans g2.symm, h3.trans g3.symm⟩
 ·exact absurd h1 g1
 ·exact absurd g1 h1
 ·exact ⟨h2.trans g2.symm, h3.trans g3.symm⟩
def str (s : List UInt8) : Value := .string ⟨s.toArray⟩
def GetQ (K : Kd) (s : List UInt8) (w0 : World) (e : Ending) (w' : World) : Prop := ∃ fs er, e = .returned (.tuple #[K.wrap (fs.map Fld.val).toArray, .int .i64 er]) ∧ Below w0.heap.size w0 w' ∧ lieAll w0.heap.size w' fs ∧ fitsAll K.sc fs ∧ GetP K s fs er
def GetC (f : FuncId) (K : Kd) : Prop :=
 enters Tryz.prog f = true ∧ ∀ (s : List UInt8) (w : World), s.length ≤ 65536 → Calls Tryz.prog f #[str s] w (GetQ K s w)
def PutC (f : FuncId) (K : Kd) : Prop :=
 enters Tryz.prog f = true ∧ ∀ (lo : Nat) (fs : List Fld) (w : World), fitsAll K.sc fs → lieAll lo w fs → Calls Tryz.prog f #[K.wrap (fs.map Fld.val).toArray] w fun e w' => ∃ out er, e = .returned (.tuple #[str out, .int .i64 er]) ∧ Below w.heap.size w w' ∧ PutP K (pvAll fs) out er
def PgX (B : List UInt8) (rd : List UInt8 → Rs (List Pv)) (s : List UInt8) (E : Int) (fs : List Fld) (a' : Nat) (E' : Int) : Prop :=
 a' ≤ B.length ∧ ((E ≠ 0 ∧ E' = E) ∨ (E = 0 ∧ ((∃ er, rd s = .error er ∧ E' = er ∧ er ≠ 0) ∨ (∃ r, rd s = .ok (pvAll fs, r) ∧ E' = 0 ∧ B.drop a' = r))))
def RdX (f : FuncId) (K : Kd) : Prop :=
 enters Tryz.prog f = true ∧ ∀ gb B a E w, Gt w gb B a E → a ≤ B.length → B.length ≤ 1099511627000 → Calls Tryz.prog f #[ptr gb] w fun e w' =>
  ∃ fs a' E', e = .returned (K.wrap (fs.map Fld.val).toArray) ∧ Gt w' gb B a' E' ∧ But (fun k => k = gb) w w' ∧ lieAll w.heap.size w' fs ∧ PgX B K.rd (B.drop a) E fs a' E' ∧ fitsAll K.sc fs
theorem RdC.rdx {f : FuncId} {K : Kd} (hr : K.rd = readAll K.sc) (h : RdC f [] K.wrap K.sc) : RdX f K := ⟨h.1, fun gb B a E w k ha hL => (h.2.2 gb B a E w k ha hL).mono fun e w' ⟨fs, a', E', h1, h2, h3, h4, h5, h6⟩ => ⟨fs, a', E', h1, h2, h3, h4, by rw [hr]; exact h5, h6⟩⟩
theorem getP_of {K : Kd} {s : List UInt8} {fs : List Fld} {a' : Nat} {E' e0 : Int} {out : List UInt8} (h : PgX s K.rd (s.drop 0) 0 fs a' E') (hp : K.may (pvAll fs) ∧ e0 = 0 ∨ PutP K (pvAll fs) out e0) :
  (endG E' a' s.length e0 ≠ 0 → ∀ zs, pvAll zs = pvAll (zFs K.sc) → GetP K s zs (endG E' a' s.length e0)) ∧ (endG E' a' s.length e0 = 0 → GetP K s fs 0) := by
 obtain ⟨ha, h⟩ := h
 rw [List.drop_zero] at h
 have hp' : (K.may (pvAll fs) ∧ e0 = 0) ∨ (¬ K.may (pvAll fs) ∧ e0 = 2) := by
  rcases hp with ⟨q1, q2⟩ | ⟨q1, _, q2⟩ | ⟨q1, _, q2⟩
  ·exact .inl ⟨q1, q2⟩
  ·exact .inl ⟨q1, q2⟩
  ·exact .inr ⟨q1, q2⟩
 rcases h with ⟨h1, _⟩ | ⟨_, ⟨er, h1, rfl, h3⟩ | ⟨r, h1, rfl, h3⟩⟩
 ·exact absurd rfl h1
 ·have e : endG E' a' s.length e0 = E' := by unfold endG; rw [if_pos h3]
  rw [e]
  exact ⟨fun _ zs hz => .inl ⟨h1, h3, hz⟩, fun q => absurd q h3⟩
 ·by_cases hl : a' < s.length
  ·have e : endG 0 a' s.length e0 = 4 := by unfold endG; rw [if_neg (by simp), if_pos hl]
   rw [e]
   refine ⟨fun _ zs hz => .inr (.inl ?_), fun q => by omega⟩
   cases r with
   | nil =>
    have := congrArg List.length h3
    rw [List.length_drop] at this
    simp at this
    omega
   | cons c r => exact ⟨_, c, r, h1, rfl, hz⟩
  ·have e : endG 0 a' s.length e0 = e0 := by unfold endG; rw [if_neg (by simp), if_neg hl]
   rw [e]
   have hr : r = [] := by rw [← h3]; exact List.drop_eq_nil_of_le (by omega)
   subst hr
   rcases hp' with ⟨q1, rfl⟩ | ⟨q1, rfl⟩
   ·exact ⟨fun q => absurd rfl q, fun _ => .inr (.inr ⟨_, h1, .inl ⟨q1, rfl, rfl⟩⟩)⟩
   ·exact ⟨fun _ zs hz => .inr (.inr ⟨_, h1, .inr ⟨q1, rfl, hz⟩⟩), fun q => by cases q⟩
theorem built_get (S : ByteArray) : Tryz.prog.built 81 [(0, .string S)] = some #[.string S, .int .i64 0, .int .i64 0] := by kernel_rfl
theorem rg_get {N id i1 i2 i3 : Nat} {b1 b2 b3 b4 : Oper} {L : List (Nat × Value)} {s : List UInt8} {A : Act} {w : World} {Q : Exit → Act → World → Prop}
  (h1 : Is b1 (some i1) (.move (.tmp 0))) (h2 : Is b2 (some i2) (.build 81 #[(0, .tmp i1)])) (h3 : Is b3 (some i3) (.box 81 (.tmp i2))) (h4 : Is b4 (some 4) (.assign (.tmp i3)))
  (chk : (freeOf [i1, i2, i3, 4] L && decide (i1 < N) && decide (i2 < N) && decide (i3 < N) && decide (4 < N)) = true) (m0 : (0, str s) ∈ L) (F : Fr N L A)
  (K : ∀ A' w', Fr N ((4, ptr w.heap.size) :: L) A' → Gt w' w.heap.size s 0 0 → Below w.heap.size w w' → Q .normal A' w') : (Code.region id #[b1, b2, b3, b4] false).wp Tryz.prog Q A w := by
 simp only [Bool.and_eq_true, decide_eq_true_eq] at chk
 obtain ⟨⟨⟨⟨c1, d1⟩, d2⟩, d3⟩, d4⟩ := chk
 refine wp_region_list ?_
 show wpList _ _ _ [b1, b2, b3, b4] _ _
 refine ol_move h1.2.2 (.inl h1.2.1) ?_
 rw [h1.1, F.get m0]
 have F1 := F.put (v := str s) c1 (show i1 ∈ _ by simp)
 have q1 : (A.put (some i1) (str s)).eval (.tmp i1) = str s := eval_put_self (by rw [F.1]; exact d1)
 generalize A.put (some i1) (str s) = A1 at *
 refine ol_build h2.2.2 h2.2.1 (Z := #[str s, .int .i64 0, .int .i64 0]) (by rw [List.map_toArray]; simp only [List.map_cons, List.map_nil, q1]; exact built_get _) ?_
 rw [h2.1]
 have F2 := F1.put (v := .agg #[str s, .int .i64 0, .int .i64 0]) c1 (show i2 ∈ _ by simp)
 refine ol_box h3.2.2 h3.2.1 (eval_put_self (by rw [F1.1]; exact d2)) ?_
 rw [h3.1]
 have F3 := F2.put (v := ptr w.heap.size) c1 (show i3 ∈ _ by simp)
 refine ol_move h4.2.2 (.inr h4.2.1) ?_
 rw [h4.1, eval_put_self (by rw [F2.1]; exact d3)]
 have F4 := (F3.put (v := ptr w.heap.size) c1 (show 4 ∈ _ by simp)).add (eval_put_self (by rw [F3.1]; exact d4))
 exact wpList_nil (K _ _ F4 (Blk.new w #[str s, .int .i64 0, .int .i64 0] 81) ((Below.refl _ _).alloc (Nat.le_refl _) _))
section
variable {P : Program} {ops : Array Oper} {Q : Exit → Act → World → Prop} {a : Act} {w w' : World} {rest : List Oper} {o : Oper}
theorem ol_extract (hg : o.guard = none) {x : Operand} {i : Nat} (ho : o.op = .extract x i) {vs : Array Value} (hx : a.eval x = .tuple vs) {v : Value} (hv : vs[i]? = some v) (h : wpList P ops Q rest (a.put o.dst v) w) : wpList P ops Q (o :: rest) a w :=
 ol_val hg (by unfold execOp; rw [ho]; simp only [hx]; simp [Instr.extract, hv]) h
end
theorem rg_two {N i1 i2 i3 sa sb : Nat} {P : Program} {ops : Array Oper} {Q : Exit → Act → World → Prop} {w : World} {o1 o2 o3 o4 o5 : Oper} {L : List (Nat × Value)} {A : Act} {x y : Value} {i0 : Nat}
  (h1 : Is o1 (some i1) (.move (.tmp i0))) (h2 : Is o2 (some i2) (.extract (.tmp i1) 0)) (h3 : Is o3 (some i3) (.extract (.tmp i1) 1)) (h4 : Is o4 (some sa) (.assign (.tmp i2))) (h5 : Is o5 (some sb) (.assign (.tmp i3)))
  (chk : (freeOf [i1, i2, i3, sa, sb] L && decide (i1 < N) && decide (i2 < N) && decide (i3 < N) && decide (sa < N) && decide (sb < N) && decide (i2 ≠ i1) && decide (i3 ≠ i2) && decide (sa ≠ i3) && decide (sb ≠ sa)) = true) (F : Fr N L A) (q0 : A.eval (.tmp i0) = .tuple #[x, y])
  (K : ∀ A', Fr N ((sa, x) :: (sb, y) :: L) A' → Q .normal A' w) : wpList P ops Q [o1, o2, o3, o4, o5] A w := by
 simp only [Bool.and_eq_true, decide_eq_true_eq] at chk
 obtain ⟨⟨⟨⟨⟨⟨⟨⟨⟨c1, d1⟩, d2⟩, d3⟩, d4⟩, d5⟩, e1⟩, e2⟩, e3⟩, e4⟩ := chk
 refine ol_move h1.2.2 (.inl h1.2.1) ?_
 rw [h1.1, q0]
 have F1 := F.put (v := .tuple #[x, y]) c1 (show i1 ∈ _ by simp)
 have q1 : (A.put (some i1) (.tuple #[x, y])).eval (.tmp i1) = .tuple #[x, y] := eval_put_self (by rw [F.1]; exact d1)
 generalize A.put (some i1) (.tuple #[x, y]) = A1 at *
 refine ol_extract h2.2.2 h2.2.1 q1 (v := x) rfl ?_
 rw [h2.1]
 have F2 := F1.put (v := x) c1 (show i2 ∈ _ by simp)
 have q2 : (A1.put (some i2) x).eval (.tmp i1) = .tuple #[x, y] := (eval_put e1).trans q1
 have r2 : (A1.put (some i2) x).eval (.tmp i2) = x := eval_put_self (by rw [F1.1]; exact d2)
 generalize A1.put (some i2) x = A2 at *
 refine ol_extract h3.2.2 h3.2.1 q2 (v := y) rfl ?_
 rw [h3.1]
 have F3 := F2.put (v := y) c1 (show i3 ∈ _ by simp)
 have r3 : (A2.put (some i3) y).eval (.tmp i2) = x := (eval_put e2).trans r2
 have s3 : (A2.put (some i3) y).eval (.tmp i3) = y := eval_put_self (by rw [F2.1]; exact d3)
 generalize A2.put (some i3) y = A3 at *
 refine ol_move h4.2.2 (.inr h4.2.1) ?_
 rw [h4.1, r3]
 have F4 := F3.put (v := x) c1 (show sa ∈ _ by simp)
 have s4 : (A3.put (some sa) x).eval (.tmp i3) = y := (eval_put e3).trans s3
 have t4 : (A3.put (some sa) x).eval (.tmp sa) = x := eval_put_self (by rw [F3.1]; exact d4)
 generalize A3.put (some sa) x = A4 at *
 refine ol_move h5.2.2 (.inr h5.2.1) ?_
 rw [h5.1, s4]
 have F5 := F4.put (v := y) c1 (show sb ∈ _ by simp)
 exact wpList_nil (K _ ((F5.add (eval_put_self (by rw [F4.1]; exact d5))).add ((eval_put e4).trans t4)))
structure Rg (K : Kd) (s : List UInt8) (gb : Nat) (w0 : World) (fs : List Fld) (a : Nat) (E e0 : Int) (w : World) : Prop where
 g : Gt w gb s a E
 ha : a ≤ s.length
 new : w0.heap.size ≤ gb
 bel : Below w0.heap.size w0 w
 lie : lieAll (gb + 1) w fs
 fit : fitsAll K.sc fs
 bad : endG E a s.length e0 ≠ 0 → ∀ zs, pvAll zs = pvAll (zFs K.sc) → GetP K s zs (endG E a s.length e0)
 good : endG E a s.length e0 = 0 → GetP K s fs 0
structure Rh (K : Kd) (s : List UInt8) (w0 : World) (fs : List Fld) (er : Int) (w : World) : Prop where
 bel : Below w0.heap.size w0 w
 lie : lieAll w0.heap.size w fs
 fit : fitsAll K.sc fs
 bad : er ≠ 0 → ∀ zs, pvAll zs = pvAll (zFs K.sc) → GetP K s zs er
 good : er = 0 → GetP K s fs 0
theorem Rg.end_ {K : Kd} {s : List UInt8} {gb : Nat} {w0 : World} {fs : List Fld} {a : Nat} {E e0 : Int} {w w' : World} (h : Rg K s gb w0 fs a E e0 w) (b : But (fun k => k = gb) w w') : Rh K s w0 fs (endG E a s.length e0) w' := by
 have hn := h.new
 exact ⟨h.bel.trans (b.below h.bel.size (fun k q => by omega)), (h.lie.hi (Hi.of_but b (fun k q => by omega))).mono (by omega), h.fit, h.bad, h.good⟩
theorem rg_end {N id i1 i2 i3 se gb a : Nat} {o1 o2 o3 o4 : Oper} {L : List (Nat × Value)} {K : Kd} {s : List UInt8} {w0 w : World} {fs : List Fld} {E e0 : Int} {A : Act} {ts : Array TypeId} {Q : Exit → Act → World → Prop}
  (h1 : Is o1 (some i1) (.move (.tmp 4))) (h2 : Is o2 (some i2) (.move (.tmp se))) (h3 : Is o3 (some i3) (.call { callee := .value (.func 45), args := #[.tmp i1, .tmp i2], argTypes := ts })) (h4 : Is o4 (some se) (.assign (.tmp i3)))
  (chk : (freeOf [i1, i2, i3, se] L && decide (i1 < N) && decide (i2 < N) && decide (i3 < N) && decide (se < N) && decide (i1 ≠ se) && decide (i2 ≠ i1)) = true) (m4 : (4, ptr gb) ∈ L) (F : Fr N ((se, .int .i64 e0) :: L) A) (H : Rg K s gb w0 fs a E e0 w) (hs : s.length ≤ 65536)
  (K' : ∀ A' w', Fr N ((se, .int .i64 (endG E a s.length e0)) :: L) A' → Rh K s w0 fs (endG E a s.length e0) w' → But (fun k => k = gb) w w' → Q .normal A' w') :
  (Code.region id #[o1, o2, o3, o4] false).wp Tryz.prog Q A w := by
 simp only [Bool.and_eq_true, decide_eq_true_eq] at chk
 obtain ⟨⟨⟨⟨⟨⟨c1, d1⟩, d2⟩, d3⟩, d4⟩, e1⟩, e2⟩ := chk
 refine wp_region_list ?_
 show wpList _ _ _ [o1, o2, o3, o4] _ _
 refine ol_move h1.2.2 (.inl h1.2.1) ?_
 rw [h1.1, F.tl.get m4]
 have F1 := F.tl.put (v := ptr gb) c1 (show i1 ∈ _ by simp)
 have q1 : (A.put (some i1) (ptr gb)).eval (.tmp se) = .int .i64 e0 := (eval_put e1).trans (F.get (by simp))
 have r1 : (A.put (some i1) (ptr gb)).eval (.tmp i1) = ptr gb := eval_put_self (by rw [F.1]; exact d1)
 generalize A.put (some i1) (ptr gb) = A1 at *
 refine ol_move h2.2.2 (.inl h2.2.1) ?_
 rw [h2.1, q1]
 have F2 := F1.put (v := .int .i64 e0) c1 (show i2 ∈ _ by simp)
 refine ol_call h3.2.2 (by kernel_rfl) h3.2.1 (vs := #[ptr gb, .int .i64 e0]) (by rw [List.map_toArray]; simp only [List.map_cons, List.map_nil]; rw [eval_put e2, r1, eval_put_self (by rw [F1.1]; exact d2)]) (gend_all gb s a E e0 w H.g H.ha (by omega)) ?_
 rintro e w1 ⟨rfl, b1⟩
 refine ⟨_, rfl, ?_⟩
 rw [h3.1]
 have F3 := F2.put (v := .int .i64 (endG E a s.length e0)) c1 (show i3 ∈ _ by simp)
 refine ol_move h4.2.2 (.inr h4.2.1) ?_
 rw [h4.1, eval_put_self (by rw [F2.1]; exact d3)]
 have F4 := (F3.put (v := .int .i64 (endG E a s.length e0)) c1 (show se ∈ _ by simp)).add (eval_put_self (by rw [F3.1]; exact d4))
 exact wpList_nil (K' _ w1 F4 (H.end_ b1) b1)
theorem rg_end0 {N id i1 i3 se gb a : Nat} {o1 o3 o4 : Oper} {L : List (Nat × Value)} {K : Kd} {s : List UInt8} {w0 w : World} {fs : List Fld} {E : Int} {A : Act} {ts : Array TypeId} {Q : Exit → Act → World → Prop}
  (h1 : Is o1 (some i1) (.move (.tmp 4))) (h3 : Is o3 (some i3) (.call { callee := .value (.func 45), args := #[.tmp i1, .const (.int .i64 0)], argTypes := ts })) (h4 : Is o4 (some se) (.assign (.tmp i3)))
  (chk : (freeOf [i1, i3, se] L && decide (i1 < N) && decide (i3 < N) && decide (se < N)) = true) (m4 : (4, ptr gb) ∈ L) (F : Fr N L A) (H : Rg K s gb w0 fs a E 0 w) (hs : s.length ≤ 65536)
  (K' : ∀ A' w', Fr N ((se, .int .i64 (endG E a s.length 0)) :: L) A' → Rh K s w0 fs (endG E a s.length 0) w' → But (fun k => k = gb) w w' → Q .normal A' w') :
  (Code.region id #[o1, o3, o4] false).wp Tryz.prog Q A w := by
 simp only [Bool.and_eq_true, decide_eq_true_eq] at chk
 obtain ⟨⟨⟨c1, d1⟩, d3⟩, d4⟩ := chk
 refine wp_region_list ?_
 show wpList _ _ _ [o1, o3, o4] _ _
 refine ol_move h1.2.2 (.inl h1.2.1) ?_
 rw [h1.1, F.get m4]
 have F1 := F.put (v := ptr gb) c1 (show i1 ∈ _ by simp)
 refine ol_call h3.2.2 (by kernel_rfl) h3.2.1 (vs := #[ptr gb, .int .i64 0]) (by rw [List.map_toArray]; simp only [List.map_cons, List.map_nil]; rw [eval_put_self (by rw [F.1]; exact d1)]; rfl) (gend_all gb s a E 0 w H.g H.ha (by omega)) ?_
 rintro e w1 ⟨rfl, b1⟩
 refine ⟨_, rfl, ?_⟩
 rw [h3.1]
 have F3 := F1.put (v := .int .i64 (endG E a s.length 0)) c1 (show i3 ∈ _ by simp)
 refine ol_move h4.2.2 (.inr h4.2.1) ?_
 rw [h4.1, eval_put_self (by rw [F1.1]; exact d3)]
 have F4 := (F3.put (v := .int .i64 (endG E a s.length 0)) c1 (show se ∈ _ by simp)).add (eval_put_self (by rw [F3.1]; exact d4))
 exact wpList_nil (K' _ w1 F4 (H.end_ b1) b1)
theorem rg_put {N id fp i0 i1 i2 i3 i4 sa sb : Nat} {o0 o1 o2 o3 o4 o5 o6 : Oper} {L : List (Nat × Value)} {K : Kd} {s : List UInt8} {w0 w : World} {fs : List Fld} {a : Nat} {gb : Nat} {E : Int} {A : Act} {ts : Array TypeId} {Q : Exit → Act → World → Prop}
  (hP : PutC fp K) (h0 : o0.dst = some i0 ∧ o0.guard = none) (h1 : Is o1 (some i1) (.call { callee := .value (.func fp), args := #[.tmp i0], argTypes := ts })) (h2 : Is o2 (some i2) (.move (.tmp i1))) (h3 : Is o3 (some i3) (.extract (.tmp i2) 0)) (h4 : Is o4 (some i4) (.extract (.tmp i2) 1)) (h5 : Is o5 (some sa) (.assign (.tmp i3))) (h6 : Is o6 (some sb) (.assign (.tmp i4)))
  (chk : (freeOf [i0, i1] L && decide (i0 < N) && decide (i1 < N)) = true) (chk2 : (freeOf [i2, i3, i4, sa, sb] L && decide (i2 < N) && decide (i3 < N) && decide (i4 < N) && decide (sa < N) && decide (sb < N) && decide (i3 ≠ i2) && decide (i4 ≠ i3) && decide (sa ≠ i4) && decide (sb ≠ sa)) = true)
  (F : Fr N L A) (h0r : ∀ A', Fr N L A' → (execOp A'.eval o0).run Tryz.prog w = .ok (.value (K.wrap (fs.map Fld.val).toArray)) w) (g : Gt w gb s a E) (new : w0.heap.size ≤ gb) (bel : Below w0.heap.size w0 w) (lie : lieAll (gb + 1) w fs) (fit : fitsAll K.sc fs) (pg : PgX s K.rd (s.drop 0) 0 fs a E)
  (K' : ∀ A' out e0 w', Fr N ((sa, str out) :: (sb, .int .i64 e0) :: L) A' → Rg K s gb w0 fs a E e0 w' → Below w.heap.size w w' → Q .normal A' w') :
  (Code.region id #[o0, o1, o2, o3, o4, o5, o6] false).wp Tryz.prog Q A w := by
 simp only [Bool.and_eq_true, decide_eq_true_eq] at chk
 obtain ⟨⟨c1, d0⟩, d1⟩ := chk
 refine wp_region_list ?_
 show wpList _ _ _ [o0, o1, o2, o3, o4, o5, o6] _ _
 refine ol_val h0.2 (h0r A F) ?_
 rw [h0.1]
 have F1 := F.put (v := K.wrap (fs.map Fld.val).toArray) c1 (show i0 ∈ _ by simp)
 refine ol_call h1.2.2 hP.1 h1.2.1 (vs := #[K.wrap (fs.map Fld.val).toArray]) (by rw [List.map_toArray]; simp only [List.map_cons, List.map_nil]; rw [eval_put_self (by rw [F.1]; exact d0)]) (hP.2 _ fs w fit lie) ?_
 rintro e w1 ⟨out, e0, rfl, b1, hp⟩
 refine ⟨_, rfl, ?_⟩
 rw [h1.1]
 have F2 := F1.put (v := .tuple #[str out, .int .i64 e0]) c1 (show i1 ∈ _ by simp)
 refine rg_two h2 h3 h4 h5 h6 chk2 F2 (eval_put_self (by rw [F1.1]; exact d1)) fun A' F' => K' A' out e0 w1 F' ?_ b1
 have q := getP_of pg (.inr hp)
 exact ⟨g.below b1, pg.1, new, bel.trans (b1.mono bel.size), lie.hi (Hi.of_below b1), fit, q.1, q.2⟩
theorem rg_give {N id i j se rb : Nat} {u1 u2 u3 u4 : Oper} {fn : Func} {w : World} {C cs : Array Value} {er : Int} {ty : TypeId} {L : List (Nat × Value)} {A : Act} {R : Ending → World → Prop} {Q : Exit → Act → World → Prop} (hQ : ∀ a w, bodyPost Tryz.prog fn R .ret a w → Q .ret a w)
  (h1 : u1.dst = some i ∧ u1.guard = none) (h2 : Is u2 (some j) (.move (.tmp se))) (h3 : Is u3 none (.store ty (.tmp 2) (.tmp i))) (h4 : Is u4 (some 3) (.assign (.tmp j))) (hres : fn.results = #[.cell 2 ty, .tmp 3]) (hrt : rowT Tryz.prog ty = true) (hsz : (Tryz.prog.info? ty).map (·.size) = some C.size) (hcs : cs.size = C.size) (hone : ∀ u ∈ C.toList, u.oneCell' = true)
  (chk : (freeOf [i, j, 3] L && decide (i < N) && decide (j < N) && decide (3 < N) && decide (j ≠ i)) = true) (m2 : (2, ptr rb) ∈ L) (me : (se, .int .i64 er) ∈ L) (F : Fr N L A) (h1r : ∀ A', Fr N L A' → (execOp A'.eval u1).run Tryz.prog w = .ok (.value (.agg C)) w) (kr : Blk w rb cs ty) (K : ∀ w2, But (fun k => k = rb) w w2 → R (.returned (.tuple #[.agg C, .int .i64 er])) w2) :
  (Code.seq (Code.region id #[u1, u2, u3, u4] false) Code.ret).wp Tryz.prog Q A w := by
 simp only [Bool.and_eq_true, decide_eq_true_eq] at chk
 obtain ⟨⟨⟨⟨c1, d1⟩, d2⟩, d3⟩, e1⟩ := chk
 obtain ⟨d, hu, hd⟩ := rowT_out hrt
 refine wp_seq (wp_region_list ?_)
 show wpList _ _ _ [u1, u2, u3, u4] _ _
 refine ol_val h1.2 (h1r A F) ?_
 rw [h1.1]
 have F1 := F.put (v := .agg C) c1 (show i ∈ _ by simp)
 have q1 : (A.put (some i) (.agg C)).eval (.tmp i) = .agg C := eval_put_self (by rw [F.1]; exact d1)
 generalize A.put (some i) (.agg C) = A1 at *
 refine ol_move h2.2.2 (.inl h2.2.1) ?_
 rw [h2.1, F1.get me]
 have F2 := F1.put (v := .int .i64 er) c1 (show j ∈ _ by simp)
 have q2 : (A1.put (some j) (.int .i64 er)).eval (.tmp i) = .agg C := (eval_put e1).trans q1
 have r2 : (A1.put (some j) (.int .i64 er)).eval (.tmp j) = .int .i64 er := eval_put_self (by rw [F1.1]; exact d2)
 generalize A1.put (some j) (.int .i64 er) = A2 at *
 refine ol_store h3.2.2 h3.1 h3.2.1 (F2.get m2) q2 (kr.thereAt 0 _ (by show 0 + C.size ≤ _; omega)) hsz hone ?_
 refine ol_move h4.2.2 (.inr h4.2.1) ?_
 rw [h4.1, r2]
 have F3 := F2.put (v := .int .i64 er) c1 (show 3 ∈ _ by simp)
 have q3 : (A2.put (some 3) (.int .i64 er)).eval (.tmp 3) = .int .i64 er := eval_put_self (by rw [F2.1]; exact d3)
 generalize A2.put (some 3) (.int .i64 er) = A3 at *
 refine wpList_nil ?_
 show Code.wp _ _ _ _ _
 refine wp_ret (hQ _ _ ?_)
 have kr := kr.putCells C.toList 0 _ _
 rw [putAt_all (by simp [hcs]), Array.toArray_toList] at kr
 have hb := but_cells rb C.toList 0 w
 show bodyPost _ _ _ _ _ (w.setCells rb 0 C.toList)
 generalize w.setCells rb 0 C.toList = w2 at *
 have hld := run_loadVar_mid (P := Tryz.prog) w2 rb 0 ty C.toList d kr.range hu hd (by rw [hsz]; simp)
 rw [Array.toArray_toList] at hld
 refine bodyPost_ret (v := .tuple #[.agg C, .int .i64 er]) ?_ F3.2.1 (K w2 hb)
 have e2 : A3.tmps[2]?.getD undef = .pointer (some ⟨rb, 0, none⟩) := by
  have := F3.get m2
  unfold Act.eval at this
  rw [← Array.getD_eq_getD_getElem?]
  exact this
 have e3 : A3.tmps[3]?.getD undef = .int .i64 er := by
  have := q3
  unfold Act.eval at this
  rw [← Array.getD_eq_getD_getElem?]
  exact this
 simp [results, hres, asAddr, e2, e3, hld]
theorem rg_last {N idt id0 id1 i tt p q p' q' se rb xb : Nat} {t1 t2 u1 u2 u3 u4 v1 v2 v3 v4 : Oper} {fn : Func} {K : Kd} {s : List UInt8} {w0 w : World} {fs : List Fld} {er : Int} {cs : Array Value} {ty ti tj : TypeId} {L : List (Nat × Value)} {A : Act}
  (h1 : Is t1 (some i) (.move (.tmp se))) (h2 : Is t2 (some tt) (.binOp .neq ti (.tmp i) (.const (.int .i64 0)) tj))
  (a1 : Is u1 (some p) (.build ty #[])) (a2 : Is u2 (some q) (.move (.tmp se))) (a3 : Is u3 none (.store ty (.tmp 2) (.tmp p))) (a4 : Is u4 (some 3) (.assign (.tmp q)))
  (b1 : Is v1 (some p') (.load ty (.tmp 5))) (b2 : Is v2 (some q') (.move (.tmp se))) (b3 : Is v3 none (.store ty (.tmp 2) (.tmp p'))) (b4 : Is v4 (some 3) (.assign (.tmp q')))
  (hres : fn.results = #[.cell 2 ty, .tmp 3]) (hrt : rowT Tryz.prog ty = true) (hsz : (Tryz.prog.info? ty).map (·.size) = some K.sc.length) (hb : Tryz.prog.built ty [] = some (zArr K.sc)) (hw : K.wrap = .agg) (hsane : K.sc.all Sc.sane = true) (hcs : cs.size = K.sc.length)
  (chk : (freeOf [i, tt] L && decide (i < N) && decide (tt < N)) = true) (chkA : (freeOf [p, q, 3] L && decide (p < N) && decide (q < N) && decide (3 < N) && decide (q ≠ p)) = true) (chkB : (freeOf [p', q', 3] L && decide (p' < N) && decide (q' < N) && decide (3 < N) && decide (q' ≠ p')) = true)
  (m2 : (2, ptr rb) ∈ L) (m5 : (5, ptr xb) ∈ L) (me : (se, .int .i64 er) ∈ L) (F : Fr N L A) (H : Rh K s w0 fs er w) (kr : Blk w rb cs ty) (kx : Blk w xb (fs.map Fld.val).toArray ty) (hrb : rb = w0.heap.size) (hlr : lieAll (rb + 1) w fs) :
  (Code.seq (Code.seq (Code.region idt #[t1, t2] false) (Code.cond (.tmp tt) (Code.seq (Code.region id0 #[u1, u2, u3, u4] false) .ret) .skip)) (Code.seq (Code.region id1 #[v1, v2, v3, v4] false) .ret)).wp Tryz.prog (bodyPost Tryz.prog fn (GetQ K s w0)) A w := by
 simp only [Bool.and_eq_true, decide_eq_true_eq] at chk
 obtain ⟨⟨c1, d1⟩, d2⟩ := chk
 have hlen := fits_len H.fit
 obtain ⟨d, hu, hd⟩ := rowT_out hrt
 refine wp_seq (wp_seq (wp_region_list ?_))
 show wpList _ _ _ [t1, t2] _ _
 refine ol_move h1.2.2 (.inl h1.2.1) ?_
 rw [h1.1, F.get me]
 have F1 := F.put (v := .int .i64 er) c1 (show i ∈ _ by simp)
 refine ol_val h2.2.2 (run_neq h2.2.1 (eval_put_self (by rw [F.1]; exact d1)) rfl) ?_
 rw [h2.1]
 have F2 := F1.put (v := .bool (er != 0)) c1 (show tt ∈ _ by simp)
 have q2 : (Act.put (A.put (some i) (.int .i64 er)) (some tt) (.bool (er != 0))).eval (.tmp tt) = .bool (er != 0) := eval_put_self (by rw [F1.1]; exact d2)
 generalize Act.put (A.put (some i) (.int .i64 er)) (some tt) (.bool (er != 0)) = A2 at *
 refine wpList_nil ?_
 show Code.wp _ _ _ _ _
 by_cases he : er = 0
 ·subst he
  refine wp_cond_false q2 (wp_skip ?_)
  show Code.wp _ _ _ _ _
  refine rg_give (fn := fn) (R := GetQ K s w0) (fun _ _ h => h) ⟨b1.1, b1.2.2⟩ b2 b3 b4 hres hrt (C := (fs.map Fld.val).toArray) (by rw [hsz]; simp [hlen]) (by simp [hlen, hcs]) (flds_one fs) chkB m2 me F2 (fun A' F' => by
   unfold execOp
   rw [b1.2.1]
   simp only [F'.get m5]
   have := run_loadAt_mid (P := Tryz.prog) w xb 0 ty (fs.map Fld.val) d kx.range hu hd (by rw [hsz]; simp [hlen])
   simp only [ptr, Sem.run_bind, this]
   rfl) kr fun w2 hb2 => ⟨fs, 0, by rw [hw], H.bel.trans (hb2.below H.bel.size (fun k q => by omega)), (hlr.hi (Hi.of_but hb2 (fun k q => by omega))).mono (by omega), H.fit, H.good rfl⟩
 ·have hne : (er != 0) = true := by simpa using he
  rw [hne] at q2
  refine wp_cond_true q2 ?_
  exact rg_give (fn := fn) (R := GetQ K s w0) (fun _ _ h => h) ⟨a1.1, a1.2.2⟩ a2 a3 a4 hres hrt (C := zArr K.sc) (by rw [hsz, zArr_size]) (by rw [zArr_size]; exact hcs) (fun u hu => by
   rw [← zFs_val] at hu
   exact flds_one _ u hu) chkA m2 me F2 (fun A' F' => by
   unfold execOp
   rw [a1.2.1]
   simp only [List.map_toArray, List.map_nil]
   rw [Sem.run_bind, run_build w ty #[] (zArr K.sc) hb]
   rfl) kr fun w2 hb2 => ⟨zFs K.sc, er, by rw [hw, zFs_val], H.bel.trans (hb2.below H.bel.size (fun k q => by omega)), zFs_lie _ _ _, zFs_fit _ hsane, H.bad he _ rfl⟩
theorem rg_start {N id0 id1 i1 i2 i3 : Nat} {a1 a2 b1 b2 b3 b4 : Oper} {rest : Code} {s : List UInt8} {sc : List Sc} {ty : TypeId} {A : Act} {w : World} {Q : Exit → Act → World → Prop}
  (g1 : Is a1 (some 2) (.alloc ty)) (g2 : Is a2 (some 3) (.assign (.const (.int .i64 0)))) (h1 : Is b1 (some i1) (.move (.tmp 0))) (h2 : Is b2 (some i2) (.build 81 #[(0, .tmp i1)])) (h3 : Is b3 (some i3) (.box 81 (.tmp i2))) (h4 : Is b4 (some 4) (.assign (.tmp i3)))
  (hN : 4 < N) (chk : ∀ v : Value, (freeOf [i1, i2, i3, 4] [(2, v), (0, str s)] && decide (i1 < N) && decide (i2 < N) && decide (i3 < N) && decide (4 < N)) = true) (hz : (Tryz.prog.info? ty).map (fun i => (i.zero, i.size)) = some (some (.agg (zArr sc)), sc.length)) (F : Fr N [(0, str s)] A)
  (K : ∀ A' w', Fr N [(4, ptr (w.heap.size + 1)), (2, ptr w.heap.size), (0, str s)] A' → Gt w' (w.heap.size + 1) s 0 0 → Blk w' w.heap.size (zArr sc) ty → Below w.heap.size w w' → rest.wp Tryz.prog Q A' w') :
  (Code.seq (Code.region id0 #[a1, a2] false) (Code.seq (Code.region id1 #[b1, b2, b3, b4] false) rest)).wp Tryz.prog Q A w := by
 refine wp_seq (wp_region_list ?_)
 show wpList _ _ _ [a1, a2] _ _
 refine ol_alloc g1.2.2 g1.2.1 hz ?_
 rw [g1.1]
 have F1 : Fr N [(2, ptr w.heap.size), (0, str s)] (A.put (some 2) (ptr w.heap.size)) := (F.put (is := [2]) rfl (by simp)).add (eval_put_self (by rw [F.1]; omega))
 show wpList _ _ _ _ (A.put (some 2) (ptr w.heap.size)) (w.alloc (.cells (zArr sc) ty))
 refine ol_move g2.2.2 (.inr g2.2.1) ?_
 rw [g2.1]
 have F2 : Fr N [(2, ptr w.heap.size), (0, str s)] ((A.put (some 2) (ptr w.heap.size)).put (some 3) (.int .i64 0)) := F1.put (is := [3]) rfl (by simp)
 refine wpList_nil ?_
 show Code.wp _ _ _ (Act.put (A.put (some 2) (ptr w.heap.size)) (some 3) (.int .i64 0)) _
 have hs : (w.alloc (.cells (zArr sc) ty)).heap.size = w.heap.size + 1 := World.size_alloc _ _
 have k0 := Blk.new w (zArr sc) ty
 have bA : Below w.heap.size w (w.alloc (.cells (zArr sc) ty)) := (Below.refl _ _).alloc (Nat.le_refl _) _
 refine wp_seq (rg_get (s := s) h1 h2 h3 h4 (chk _) (by simp) F2 ?_)
 intro A' w' F' g' b'
 rw [hs] at F' g'
 exact K A' w' F' g' (k0.below b' k0.lt) (bA.trans (b'.mono bA.size))
theorem rg_read {N id i j f gb : Nat} {c1 c2 c3 c4 : Oper} {K : Kd} {ts : Array TypeId} {s : List UInt8} {ty : TypeId} {L : List (Nat × Value)} {A : Act} {w : World} {Q : Exit → Act → World → Prop}
  (hC : RdX f K) (hw : K.wrap = .agg) (h1 : Is c1 (some i) (.move (.tmp 4))) (h2 : Is c2 (some j) (.call { callee := .value (.func f), args := #[.tmp i], argTypes := ts })) (h3 : Is c3 (some 5) (.alloc ty)) (h4 : Is c4 none (.store ty (.tmp 5) (.tmp j)))
  (hz : (Tryz.prog.info? ty).map (fun i => (i.zero, i.size)) = some (some (.agg (zArr K.sc)), K.sc.length)) (chk : (freeOf [i, j, 5] L && decide (i < N) && decide (j < N) && decide (5 < N) && decide (5 ≠ j)) = true) (m4 : (4, ptr gb) ∈ L) (F : Fr N L A) (g : Gt w gb s 0 0) (hs : s.length ≤ 65536)
  (K' : ∀ A' fs a E xb w', Fr N ((5, ptr xb) :: L) A' → Gt w' gb s a E → But (fun k => k = gb) w w' → w.heap.size ≤ xb → Blk w' xb (fs.map Fld.val).toArray ty → lieAll w.heap.size w' fs → PgX s K.rd (s.drop 0) 0 fs a E → fitsAll K.sc fs → Q .normal A' w') :
  (Code.region id #[c1, c2, c3, c4] false).wp Tryz.prog Q A w := by
 simp only [Bool.and_eq_true, decide_eq_true_eq] at chk
 obtain ⟨⟨⟨⟨f1, d1⟩, d2⟩, d3⟩, d4⟩ := chk
 have hsz : (Tryz.prog.info? ty).map (·.size) = some K.sc.length := by
  cases hq : Tryz.prog.info? ty with
  | none => rw [hq] at hz; cases hz
  | some i => rw [hq] at hz; simp at hz ⊢; exact hz.2
 refine wp_region_list ?_
 show wpList _ _ _ [c1, c2, c3, c4] _ _
 refine ol_move h1.2.2 (.inl h1.2.1) ?_
 rw [h1.1, F.get m4]
 have F1 := F.put (v := ptr gb) f1 (show i ∈ _ by simp)
 refine ol_call h2.2.2 hC.1 h2.2.1 (vs := #[ptr gb]) (by rw [List.map_toArray]; simp only [List.map_cons, List.map_nil]; rw [eval_put_self (by rw [F.1]; exact d1)]) (hC.2 gb s 0 0 w g (Nat.zero_le _) (by omega)) ?_
 rintro e w1 ⟨gs, a1, E1, rfl, k1, b1, l1, p1, z1⟩
 refine ⟨_, rfl, ?_⟩
 rw [h2.1, hw]
 have hlen := fits_len z1
 have F2 := F1.put (v := .agg (gs.map Fld.val).toArray) f1 (show j ∈ _ by simp)
 have q2 : (Act.put (A.put (some i) (ptr gb)) (some j) (.agg (gs.map Fld.val).toArray)).eval (.tmp j) = .agg (gs.map Fld.val).toArray := eval_put_self (by rw [F1.1]; exact d2)
 generalize Act.put (A.put (some i) (ptr gb)) (some j) (.agg (gs.map Fld.val).toArray) = A2 at *
 refine ol_alloc h3.2.2 h3.2.1 hz ?_
 rw [h3.1]
 have F3 := (F2.put (v := ptr w1.heap.size) f1 (show 5 ∈ _ by simp)).add (eval_put_self (by rw [F2.1]; exact d3))
 have q3 : (A2.put (some 5) (ptr w1.heap.size)).eval (.tmp j) = .agg (gs.map Fld.val).toArray := (eval_put d4).trans q2
 have q3' : (A2.put (some 5) (ptr w1.heap.size)).eval (.tmp 5) = ptr w1.heap.size := eval_put_self (by rw [F2.1]; exact d3)
 show wpList _ _ _ _ (A2.put (some 5) (ptr w1.heap.size)) (w1.alloc (.cells (zArr K.sc) ty))
 generalize A2.put (some 5) (ptr w1.heap.size) = A3 at *
 have bA : Below w1.heap.size w1 (w1.alloc (.cells (zArr K.sc) ty)) := (Below.refl _ _).alloc (Nat.le_refl _) _
 have ke := Blk.new w1 (zArr K.sc) ty
 generalize w1.alloc (.cells (zArr K.sc) ty) = w2 at *
 refine ol_store h4.2.2 h4.1 h4.2.1 q3' q3 (ke.thereAt 0 _ (by show 0 + (gs.map Fld.val).toArray.size ≤ _; rw [zArr_size]; simp [hlen])) (by rw [hsz]; show _ = some (gs.map Fld.val).toArray.size; simp [hlen]) (flds_one gs) ?_
 have ke3 := ke.putCells (gs.map Fld.val) 0 _ _
 rw [putAt_all (by rw [zArr_size]; simp [hlen])] at ke3
 have b3 : But (fun k => k = w1.heap.size) w2 (w2.setCells w1.heap.size 0 (gs.map Fld.val)) := but_cells _ _ _ _
 have hgw : gb < w.heap.size := Blk.lt g
 have hz1 := b1.size
 refine wpList_nil (K' _ gs a1 E1 w1.heap.size _ F3 (b3.blk (Gt.below k1 bA) (by omega)) ((b1.trans (But.of_below bA)).trans_new b3 (fun k hk q => by omega)) hz1 ke3 ?_ p1 z1)
 exact fun f hf => Fld.lies_off ⟨b3.size, fun k hk hne => b3.block k hk hne⟩ f (Fld.lies_hi (Hi.of_below bA) f (l1 f hf)) (Fld.lies_apart (.inr (Nat.le_refl _)) f (l1 f hf))
theorem load_op {o : Oper} {i b : Nat} {ty : TypeId} {w : World} {fs : List Fld} {N : Nat} {L : List (Nat × Value)} {sx : Nat} (h : o.op = .load ty (.tmp sx)) (hrt : rowT Tryz.prog ty = true) (hsz : (Tryz.prog.info? ty).map (·.size) = some fs.length) (m : (sx, ptr b) ∈ L) (kx : Blk w b (fs.map Fld.val).toArray ty) : ∀ A', Fr N L A' → (execOp A'.eval o).run Tryz.prog w = .ok (.value (.agg (fs.map Fld.val).toArray)) w := fun A' F' => by
 obtain ⟨d, hu, hd⟩ := rowT_out hrt
 unfold execOp
 rw [h]
 simp only [F'.get m]
 have := run_loadAt_mid (P := Tryz.prog) w b 0 ty (fs.map Fld.val) d kx.range hu hd (by rw [hsz]; simp)
 simp only [ptr, Sem.run_bind, this]
 rfl
theorem rg_tail {N id3 id4 idt id0 id1 fp i0 i1 i2 i3 i4 e1 e2 e3 i tt p q p' q' gb rb xb a : Nat} {d0 d1 d2 d3 d4 d5 d6 f1 f2 f3 f4 t1 t2 u1 u2 u3 u4 v1 v2 v3 v4 : Oper} {fn : Func} {K : Kd} {s : List UInt8} {w0 w : World} {fs : List Fld} {E : Int} {cs : Array Value} {ty ti tj : TypeId} {ts ts' : Array TypeId} {L : List (Nat × Value)} {A : Act}
  (hP : PutC fp K) (hw : K.wrap = .agg) (g0 : Is d0 (some i0) (.load ty (.tmp 5))) (g1 : Is d1 (some i1) (.call { callee := .value (.func fp), args := #[.tmp i0], argTypes := ts })) (g2 : Is d2 (some i2) (.move (.tmp i1))) (g3 : Is d3 (some i3) (.extract (.tmp i2) 0)) (g4 : Is d4 (some i4) (.extract (.tmp i2) 1)) (g5 : Is d5 (some 6) (.assign (.tmp i3))) (g6 : Is d6 (some 7) (.assign (.tmp i4)))
  (k1 : Is f1 (some e1) (.move (.tmp 4))) (k2 : Is f2 (some e2) (.move (.tmp 7))) (k3 : Is f3 (some e3) (.call { callee := .value (.func 45), args := #[.tmp e1, .tmp e2], argTypes := ts' })) (k4 : Is f4 (some 7) (.assign (.tmp e3)))
  (h1 : Is t1 (some i) (.move (.tmp 7))) (h2 : Is t2 (some tt) (.binOp .neq ti (.tmp i) (.const (.int .i64 0)) tj))
  (a1 : Is u1 (some p) (.build ty #[])) (a2 : Is u2 (some q) (.move (.tmp 7))) (a3 : Is u3 none (.store ty (.tmp 2) (.tmp p))) (a4 : Is u4 (some 3) (.assign (.tmp q)))
  (b1 : Is v1 (some p') (.load ty (.tmp 5))) (b2 : Is v2 (some q') (.move (.tmp 7))) (b3 : Is v3 none (.store ty (.tmp 2) (.tmp p'))) (b4 : Is v4 (some 3) (.assign (.tmp q')))
  (hres : fn.results = #[.cell 2 ty, .tmp 3]) (hrt : rowT Tryz.prog ty = true) (hsz : (Tryz.prog.info? ty).map (·.size) = some K.sc.length) (hb : Tryz.prog.built ty [] = some (zArr K.sc)) (hsane : K.sc.all Sc.sane = true) (hcs : cs.size = K.sc.length)
  (chk1 : (freeOf [i0, i1] L && decide (i0 < N) && decide (i1 < N)) = true) (chk2 : (freeOf [i2, i3, i4, 6, 7] L && decide (i2 < N) && decide (i3 < N) && decide (i4 < N) && decide (6 < N) && decide (7 < N) && decide (i3 ≠ i2) && decide (i4 ≠ i3) && decide (6 ≠ i4) && decide (7 ≠ 6)) = true) (chk3 : (freeOf [e1, e2, e3, 7] L && decide (e1 < N) && decide (e2 < N) && decide (e3 < N) && decide (7 < N) && decide (e1 ≠ 7) && decide (e2 ≠ e1)) = true)
  (chk : ∀ v, (freeOf [i, tt] ((7, v) :: L) && decide (i < N) && decide (tt < N)) = true) (chkA : ∀ v, (freeOf [p, q, 3] ((7, v) :: L) && decide (p < N) && decide (q < N) && decide (3 < N) && decide (q ≠ p)) = true) (chkB : ∀ v, (freeOf [p', q', 3] ((7, v) :: L) && decide (p' < N) && decide (q' < N) && decide (3 < N) && decide (q' ≠ p')) = true)
  (m2 : (2, ptr rb) ∈ L) (m4 : (4, ptr gb) ∈ L) (m5 : (5, ptr xb) ∈ L) (F : Fr N L A) (g : Gt w gb s a E) (hrb : rb = w0.heap.size) (hgb : gb = w0.heap.size + 1) (bel : Below w0.heap.size w0 w) (kr : Blk w rb cs ty) (kx : Blk w xb (fs.map Fld.val).toArray ty) (hxb : gb < xb) (lie : lieAll (gb + 1) w fs) (pg : PgX s K.rd (s.drop 0) 0 fs a E) (fit : fitsAll K.sc fs) (hs : s.length ≤ 65536) :
  (Code.seq (Code.region id3 #[d0, d1, d2, d3, d4, d5, d6] false) (Code.seq (Code.region id4 #[f1, f2, f3, f4] false) (Code.seq (Code.seq (Code.region idt #[t1, t2] false) (Code.cond (.tmp tt) (Code.seq (Code.region id0 #[u1, u2, u3, u4] false) .ret) .skip)) (Code.seq (Code.region id1 #[v1, v2, v3, v4] false) .ret)))).wp Tryz.prog (bodyPost Tryz.prog fn (GetQ K s w0)) A w := by
 have hlen := fits_len fit
 refine wp_seq (rg_put hP ⟨g0.1, g0.2.2⟩ g1 g2 g3 g4 g5 g6 chk1 chk2 F (by rw [hw]; exact load_op (i := 0) g0.2.1 hrt (by rw [hsz, hlen]) m5 kx) g (by omega) bel lie fit pg ?_)
 intro A1 out e0 w1 F1 H1 B1
 show Code.wp _ _ _ _ _
 refine wp_seq (rg_end k1 k2 k3 k4 chk3 m4 F1.tl H1 hs ?_)
 intro A2 w2 F2 H2 B2
 show Code.wp _ _ _ _ _
 have kr2 := B2.blk (kr.below B1 kr.lt) (by omega)
 have kx2 := B2.blk (kx.below B1 kx.lt) (by omega)
 refine rg_last h1 h2 a1 a2 a3 a4 b1 b2 b3 b4 hres hrt hsz hb hw hsane hcs (chk _) (chkA _) (chkB _) (by simp [m2]) (by simp [m5]) (by simp) F2 H2 kr2 kx2 hrb ?_
 exact (H1.lie.hi (Hi.of_but B2 (fun k q => by omega))).mono (by omega)
theorem rg_tail0 {N id4 idt id0 id1 e1 e3 i tt p q p' q' gb rb xb a : Nat} {f1 f3 f4 t1 t2 u1 u2 u3 u4 v1 v2 v3 v4 : Oper} {fn : Func} {K : Kd} {s : List UInt8} {w0 w : World} {fs : List Fld} {E : Int} {cs : Array Value} {ty ti tj : TypeId} {ts' : Array TypeId} {L : List (Nat × Value)} {A : Act}
  (hm : ∀ fs, fitsAll K.sc fs → K.may (pvAll fs)) (hw : K.wrap = .agg) (k1 : Is f1 (some e1) (.move (.tmp 4))) (k3 : Is f3 (some e3) (.call { callee := .value (.func 45), args := #[.tmp e1, .const (.int .i64 0)], argTypes := ts' })) (k4 : Is f4 (some 6) (.assign (.tmp e3)))
  (h1 : Is t1 (some i) (.move (.tmp 6))) (h2 : Is t2 (some tt) (.binOp .neq ti (.tmp i) (.const (.int .i64 0)) tj))
  (a1 : Is u1 (some p) (.build ty #[])) (a2 : Is u2 (some q) (.move (.tmp 6))) (a3 : Is u3 none (.store ty (.tmp 2) (.tmp p))) (a4 : Is u4 (some 3) (.assign (.tmp q)))
  (b1 : Is v1 (some p') (.load ty (.tmp 5))) (b2 : Is v2 (some q') (.move (.tmp 6))) (b3 : Is v3 none (.store ty (.tmp 2) (.tmp p'))) (b4 : Is v4 (some 3) (.assign (.tmp q')))
  (hres : fn.results = #[.cell 2 ty, .tmp 3]) (hrt : rowT Tryz.prog ty = true) (hsz : (Tryz.prog.info? ty).map (·.size) = some K.sc.length) (hb : Tryz.prog.built ty [] = some (zArr K.sc)) (hsane : K.sc.all Sc.sane = true) (hcs : cs.size = K.sc.length)
  (chk3 : (freeOf [e1, e3, 6] L && decide (e1 < N) && decide (e3 < N) && decide (6 < N)) = true)
  (chk : ∀ v, (freeOf [i, tt] ((6, v) :: L) && decide (i < N) && decide (tt < N)) = true) (chkA : ∀ v, (freeOf [p, q, 3] ((6, v) :: L) && decide (p < N) && decide (q < N) && decide (3 < N) && decide (q ≠ p)) = true) (chkB : ∀ v, (freeOf [p', q', 3] ((6, v) :: L) && decide (p' < N) && decide (q' < N) && decide (3 < N) && decide (q' ≠ p')) = true)
  (m2 : (2, ptr rb) ∈ L) (m4 : (4, ptr gb) ∈ L) (m5 : (5, ptr xb) ∈ L) (F : Fr N L A) (g : Gt w gb s a E) (hrb : rb = w0.heap.size) (hgb : gb = w0.heap.size + 1) (bel : Below w0.heap.size w0 w) (kr : Blk w rb cs ty) (kx : Blk w xb (fs.map Fld.val).toArray ty) (hxb : gb < xb) (lie : lieAll (gb + 1) w fs) (pg : PgX s K.rd (s.drop 0) 0 fs a E) (fit : fitsAll K.sc fs) (hs : s.length ≤ 65536) :
  (Code.seq (Code.region id4 #[f1, f3, f4] false) (Code.seq (Code.seq (Code.region idt #[t1, t2] false) (Code.cond (.tmp tt) (Code.seq (Code.region id0 #[u1, u2, u3, u4] false) .ret) .skip)) (Code.seq (Code.region id1 #[v1, v2, v3, v4] false) .ret))).wp Tryz.prog (bodyPost Tryz.prog fn (GetQ K s w0)) A w := by
 have hq := getP_of (e0 := 0) (out := []) pg (.inl ⟨hm fs fit, rfl⟩)
 refine wp_seq (rg_end0 k1 k3 k4 chk3 m4 F ⟨g, pg.1, by omega, bel, lie, fit, hq.1, hq.2⟩ hs ?_)
 intro A2 w2 F2 H2 B2
 show Code.wp _ _ _ _ _
 refine rg_last h1 h2 a1 a2 a3 a4 b1 b2 b3 b4 hres hrt hsz hb hw hsane hcs (chk _) (chkA _) (chkB _) (by simp [m2]) (by simp [m5]) (by simp) F2 H2 (B2.blk kr (by omega)) (B2.blk kx (by omega)) hrb ?_
 exact (lie.hi (Hi.of_but B2 (fun k q => by omega))).mono (by omega)
end Go.Proofs.YtackcbpabjhmpaaGreat
