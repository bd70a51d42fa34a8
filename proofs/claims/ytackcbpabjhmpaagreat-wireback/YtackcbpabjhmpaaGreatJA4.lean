import Derived.Test.YtackcbpabjhmpaaGreatM14
namespace Go.Proofs.YtackcbpabjhmpaaGreat
open Go.RowKit
set_option linter.unusedVariables false
set_option linter.unusedSimpArgs false
section
variable {P : Program} {ops : Array Oper} {Q : Exit → Act → World → Prop} {a : Act} {w w' : World} {rest : List Oper} {o : Oper}
theorem ol_on {j : Nat} {x : Bool} (hg : o.guard = some (j, x)) {d : Nat} (hd : (ops[j]?).bind (·.dst) = some d) (hlt : d < a.tmps.size) (hv : a.eval (.tmp d) = .bool x) {v : Value} (hr : (execOp a.eval o).run P w = .ok (.value v) w') (h : wpList P ops Q rest (a.put o.dst v) w') : wpList P ops Q (o :: rest) a w :=
 wpList_on (by
  unfold Region.wanted
  rw [hg]
  simp only [yielded, hd, Option.bind_some]
  have : a.tmps[d]? = some (.bool x) := by
   rw [Array.getElem?_eq_getElem hlt]
   have := hv
   unfold Act.eval at this
   simp only [Array.getD_eq_getD_getElem?, Array.getElem?_eq_getElem hlt, Option.getD_some] at this
   rw [this]
  rw [this]
  simp) fun K hK => by
  unfold Oper.wp
  rw [hr]
  exact hK _ _ h
theorem ol_off {j : Nat} {x : Bool} (hg : o.guard = some (j, x)) {d : Nat} (hd : (ops[j]?).bind (·.dst) = some d) (hlt : d < a.tmps.size) (hv : a.eval (.tmp d) = .bool (!x)) (h : wpList P ops Q rest (a.put o.dst undef) w) : wpList P ops Q (o :: rest) a w :=
 wpList_step fun K hK => by
  have hw : Region.wanted o (yielded ops a.tmps) = false := by
   unfold Region.wanted
   rw [hg]
   simp only [yielded, hd, Option.bind_some]
   have : a.tmps[d]? = some (.bool (!x)) := by
    rw [Array.getElem?_eq_getElem hlt]
    have := hv
    unfold Act.eval at this
    simp only [Array.getD_eq_getD_getElem?, Array.getElem?_eq_getElem hlt, Option.getD_some] at this
    rw [this]
   rw [this]
   cases x <;> simp
  rw [if_neg (by rw [hw]; simp)]
  exact hK _ _ h
theorem run_lss {t u : TypeId} {x y : Operand} {k n : Int} (ho : o.op = .binOp .lss t x y u) (hx : a.eval x = .int .i64 k) (hy : a.eval y = .int .i64 n) : (execOp a.eval o).run P w = .ok (.value (.bool (decide (k < n)))) w := by
 unfold execOp
 rw [ho]
 simp [hx, hy, eqGuard_lss, binOp_lss]
theorem run_eql {t u : TypeId} {x y : Operand} {k n : Int} (ho : o.op = .binOp .eql t x y u) (hx : a.eval x = .int .i64 k) (hy : a.eval y = .int .i64 n) : (execOp a.eval o).run P w = .ok (.value (.bool (k == n))) w := by
 unfold execOp
 rw [ho]
 simp [hx, hy, eqGuard_at_int, binOp_eql]
theorem run_neq {t u : TypeId} {x y : Operand} {k n : Int} (ho : o.op = .binOp .neq t x y u) (hx : a.eval x = .int .i64 k) (hy : a.eval y = .int .i64 n) : (execOp a.eval o).run P w = .ok (.value (.bool (k != n))) w := by
 unfold execOp
 rw [ho]
 simp [hx, hy, eqGuard_at_int, binOp_neq]
theorem run_plus1 {t u : TypeId} {x : Operand} {k : Int} (ho : o.op = .binOp .add t x (.const (.int .i64 1)) u) (hx : a.eval x = .int .i64 k) (hk : 0 ≤ k ∧ k ≤ 1000000) : (execOp a.eval o).run P w = .ok (.value (.int .i64 (k + 1))) w := by
 unfold execOp
 rw [ho]
 have hy : a.eval (.const (.int .i64 1)) = .int .i64 1 := rfl
 have hw := wrapJ (k + 1) (by omega) (by omega)
 simp [hx, hy, eqGuard_add, binOp_add, Op.intArith, hw]
end
theorem ts_plain {N id i1 i2 tt si sn : Nat} {ti tj : TypeId} {o1 o2 o3 : Oper} {L : List (Nat × Value)} {k n : Int} {A : Act} {w : World} {Q : Exit → Act → World → Prop}
  (h1 : Is o1 (some i1) (.move (.tmp si))) (h2 : Is o2 (some i2) (.move (.tmp sn))) (h3 : Is o3 (some tt) (.binOp .lss ti (.tmp i1) (.tmp i2) tj))
  (chk : (freeOf [i1, i2, tt] L && decide (i1 < N) && decide (i2 < N) && decide (tt < N) && decide (i2 ≠ i1)) = true) (ms : (si, .int .i64 k) ∈ L) (mn : (sn, .int .i64 n) ∈ L) (F : Fr N L A)
  (K : ∀ A', Fr N L A' → A'.eval (.tmp tt) = .bool (decide (k < n)) → Q .normal A' w) : (Code.region id #[o1, o2, o3] false).wp Tryz.prog Q A w := by
 simp only [Bool.and_eq_true, decide_eq_true_eq] at chk
 obtain ⟨⟨⟨⟨c1, d1⟩, d2⟩, d3⟩, e1⟩ := chk
 refine wp_region_list ?_
 show wpList _ _ _ [o1, o2, o3] _ _
 refine ol_move h1.2.2 (.inl h1.2.1) ?_
 rw [h1.1, F.get ms]
 have F1 : Fr N L (A.put (some i1) (.int .i64 k)) := F.put c1 (by simp)
 have q1 : (A.put (some i1) (.int .i64 k)).eval (.tmp i1) = .int .i64 k := eval_put_self (by rw [F.1]; exact d1)
 generalize A.put (some i1) (.int .i64 k) = A1 at *
 refine ol_move h2.2.2 (.inl h2.2.1) ?_
 rw [h2.1, F1.get mn]
 have F2 : Fr N L (A1.put (some i2) (.int .i64 n)) := F1.put c1 (by simp)
 refine ol_val h3.2.2 (run_lss h3.2.1 ((eval_put e1).trans q1) (eval_put_self (by rw [F1.1]; exact d2))) ?_
 rw [h3.1]
 exact wpList_nil (K _ (F2.put c1 (by simp)) (eval_put_self (by rw [F2.1]; exact d3)))
theorem ts_guard {N id i1 i2 i3 i4 i5 i6 i7 i8 i9 tt si sn gb a : Nat} {ti tj tk tl : TypeId} {o1 o2 o3 o4 o5 o6 o7 o8 o9 o10 : Oper} {d : TypeDesc} {L : List (Nat × Value)} {B : List UInt8} {E k n : Int} {A : Act} {w : World} {Q : Exit → Act → World → Prop}
  (h1 : Is o1 (some i1) (.move (.tmp si))) (h2 : Is o2 (some i2) (.move (.tmp sn))) (h3 : Is o3 (some i3) (.binOp .lss ti (.tmp i1) (.tmp i2) tj)) (h4 : Is o4 (some i4) (.move (.tmp i3)))
  (h5 : o5.dst = some i5 ∧ o5.op = .move (.tmp 0) ∧ o5.guard = some (3, true)) (h6 : o6.dst = some i6 ∧ o6.op = .nilCheck (.tmp i5) ∧ o6.guard = some (3, true)) (h7 : o7.dst = some i7 ∧ o7.op = .fieldAddr 81 (.tmp i6) 2 ∧ o7.guard = some (3, true)) (h8 : o8.dst = some i8 ∧ o8.op = .load tk (.tmp i7) ∧ o8.guard = some (3, true)) (h9 : o9.dst = some i9 ∧ o9.op = .binOp .eql tk (.tmp i8) (.const (.int .i64 0)) tl ∧ o9.guard = some (3, true)) (h10 : Is o10 (some tt) (.pick (.tmp i4) (.tmp i9) (.const (.bool false))))
  (chk : (freeOf [i1, i2, i3, i4, i5, i6, i7, i8, i9, tt] L && decide (i1 < i2) && decide (i2 < i3) && decide (i3 < i4) && decide (i4 < i5) && decide (i5 < i6) && decide (i6 < i7) && decide (i7 < i8) && decide (i8 < i9) && decide (i9 < tt) && decide (tt < N)) = true) (hu : Tryz.prog.underlying tk = some d) (hd : d.isRow = false) (hoff : fldOff Tryz.prog 81 2 = some 2)
  (m0 : (0, ptr gb) ∈ L) (ms : (si, .int .i64 k) ∈ L) (mn : (sn, .int .i64 n) ∈ L) (F : Fr N L A) (g : Gt w gb B a E)
  (K : ∀ A', Fr N L A' → A'.eval (.tmp tt) = .bool (decide (k < n) && (E == 0)) → Q .normal A' w) : (Code.region id #[o1, o2, o3, o4, o5, o6, o7, o8, o9, o10] false).wp Tryz.prog Q A w := by
 simp only [Bool.and_eq_true, decide_eq_true_eq] at chk
 obtain ⟨⟨⟨⟨⟨⟨⟨⟨⟨⟨c1, d1⟩, d2⟩, d3⟩, d4⟩, d5⟩, d6⟩, d7⟩, d8⟩, d9⟩, d10⟩ := chk
 have g' : Blk w gb #[.string ⟨B.toArray⟩, .int .i64 a, .int .i64 E] 81 := g
 have cE := (g'.cell 2).trans rfl
 refine wp_region_list ?_
 show wpList _ _ _ [o1, o2, o3, o4, o5, o6, o7, o8, o9, o10] _ _
 refine ol_move h1.2.2 (.inl h1.2.1) ?_
 rw [h1.1, F.get ms]
 have F1 : Fr N L (A.put (some i1) (.int .i64 k)) := F.put c1 (by simp)
 have q1 : (A.put (some i1) (.int .i64 k)).eval (.tmp i1) = .int .i64 k := eval_put_self (by rw [F.1]; omega)
 generalize A.put (some i1) (.int .i64 k) = A1 at *
 refine ol_move h2.2.2 (.inl h2.2.1) ?_
 rw [h2.1, F1.get mn]
 have F2 : Fr N L (A1.put (some i2) (.int .i64 n)) := F1.put c1 (by simp)
 refine ol_val h3.2.2 (run_lss h3.2.1 ((eval_put (by omega)).trans q1) (eval_put_self (by rw [F1.1]; omega))) ?_
 rw [h3.1]
 generalize A1.put (some i2) (.int .i64 n) = A2 at *
 have F3 : Fr N L (A2.put (some i3) (.bool (decide (k < n)))) := F2.put c1 (by simp)
 have q3 : (A2.put (some i3) (.bool (decide (k < n)))).eval (.tmp i3) = .bool (decide (k < n)) := eval_put_self (by rw [F2.1]; omega)
 generalize A2.put (some i3) (.bool (decide (k < n))) = A3 at *
 refine ol_move h4.2.2 (.inl h4.2.1) ?_
 rw [h4.1, q3]
 have F4 : Fr N L (A3.put (some i4) (.bool (decide (k < n)))) := F3.put c1 (by simp)
 have q4 : (A3.put (some i4) (.bool (decide (k < n)))).eval (.tmp i4) = .bool (decide (k < n)) := eval_put_self (by rw [F3.1]; omega)
 generalize A3.put (some i4) (.bool (decide (k < n))) = A4 at *
 have hdst : ((#[o1, o2, o3, o4, o5, o6, o7, o8, o9, o10] : Array Oper)[3]?).bind (·.dst) = some i4 := h4.1
 generalize (#[o1, o2, o3, o4, o5, o6, o7, o8, o9, o10] : Array Oper) = ops at *
 by_cases hkn : k < n
 ·rw [decide_eq_true hkn] at *
  refine ol_on h5.2.2 hdst (by rw [F4.1]; omega) q4 (v := ptr gb) (by unfold execOp; rw [h5.2.1]; simp only [F4.get m0]; rfl) ?_
  rw [h5.1]
  have F5 : Fr N L (A4.put (some i5) (ptr gb)) := F4.put c1 (by simp)
  have q5 : (A4.put (some i5) (ptr gb)).eval (.tmp i4) = .bool true := (eval_put (by omega)).trans q4
  have e5 : (A4.put (some i5) (ptr gb)).eval (.tmp i5) = ptr gb := eval_put_self (by rw [F4.1]; omega)
  generalize A4.put (some i5) (ptr gb) = A5 at *
  refine ol_on h6.2.2 hdst (by rw [F5.1]; omega) q5 (v := ptr gb) (by unfold execOp; rw [h6.2.1]; simp only [e5, ptr]; rfl) ?_
  rw [h6.1]
  have F6 : Fr N L (A5.put (some i6) (ptr gb)) := F5.put c1 (by simp)
  have q6 : (A5.put (some i6) (ptr gb)).eval (.tmp i4) = .bool true := (eval_put (by omega)).trans q5
  have e6 : (A5.put (some i6) (ptr gb)).eval (.tmp i6) = ptr gb := eval_put_self (by rw [F5.1]; omega)
  generalize A5.put (some i6) (ptr gb) = A6 at *
  refine ol_on h7.2.2 hdst (by rw [F6.1]; omega) q6 (w' := w) (v := .pointer (some ⟨gb, 2, none⟩)) (by unfold execOp; rw [h7.2.1]; simp only [e6, ptr]; simp [Sem.run_bind, run_fld hoff]) ?_
  rw [h7.1]
  have F7 : Fr N L (A6.put (some i7) (.pointer (some ⟨gb, 2, none⟩))) := F6.put c1 (by simp)
  have q7 : (A6.put (some i7) (.pointer (some ⟨gb, 2, none⟩))).eval (.tmp i4) = .bool true := (eval_put (by omega)).trans q6
  have e7 : (A6.put (some i7) (.pointer (some ⟨gb, 2, none⟩))).eval (.tmp i7) = .pointer (some ⟨gb, 2, none⟩) := eval_put_self (by rw [F6.1]; omega)
  generalize A6.put (some i7) (.pointer (some ⟨gb, 2, none⟩)) = A7 at *
  refine ol_on h8.2.2 hdst (by rw [F7.1]; omega) q7 (w' := w) (v := .int .i64 E) (by
   unfold execOp
   rw [h8.2.1]
   simp only [e7]
   have hagg : (isAgg tk).run Tryz.prog w = .ok false w := by
    unfold isAgg
    rw [Sem.run_bind, run_underlying hu w]
    cases d <;> simp_all [TypeDesc.isRow]
   simp [Instr.loadAt, Instr.sureAddr, loadVar, hagg, cE]) ?_
  rw [h8.1]
  have F8 : Fr N L (A7.put (some i8) (.int .i64 E)) := F7.put c1 (by simp)
  have q8 : (A7.put (some i8) (.int .i64 E)).eval (.tmp i4) = .bool true := (eval_put (by omega)).trans q7
  have e8 : (A7.put (some i8) (.int .i64 E)).eval (.tmp i8) = .int .i64 E := eval_put_self (by rw [F7.1]; omega)
  generalize A7.put (some i8) (.int .i64 E) = A8 at *
  refine ol_on h9.2.2 hdst (by rw [F8.1]; omega) q8 (run_eql h9.2.1 e8 rfl) ?_
  rw [h9.1]
  have F9 : Fr N L (A8.put (some i9) (.bool (E == 0))) := F8.put c1 (by simp)
  have q9 : (A8.put (some i9) (.bool (E == 0))).eval (.tmp i4) = .bool true := (eval_put (by omega)).trans q8
  have e9 : (A8.put (some i9) (.bool (E == 0))).eval (.tmp i9) = .bool (E == 0) := eval_put_self (by rw [F8.1]; omega)
  generalize A8.put (some i9) (.bool (E == 0)) = A9 at *
  refine ol_val h10.2.2 (w' := w) (v := .bool (E == 0)) (by unfold execOp; rw [h10.2.1]; simp [q9, e9, asBool]) ?_
  rw [h10.1]
  exact wpList_nil (K _ (F9.put c1 (by simp)) (eval_put_self (by rw [F9.1]; omega)))
 ·rw [decide_eq_false hkn] at *
  refine ol_off h5.2.2 hdst (by rw [F4.1]; omega) q4 ?_
  rw [h5.1]
  have F5 : Fr N L (A4.put (some i5) undef) := F4.put c1 (by simp)
  have q5 : (A4.put (some i5) undef).eval (.tmp i4) = .bool false := (eval_put (by omega)).trans q4
  generalize A4.put (some i5) undef = A5 at *
  refine ol_off h6.2.2 hdst (by rw [F5.1]; omega) q5 ?_
  rw [h6.1]
  have F6 : Fr N L (A5.put (some i6) undef) := F5.put c1 (by simp)
  have q6 : (A5.put (some i6) undef).eval (.tmp i4) = .bool false := (eval_put (by omega)).trans q5
  generalize A5.put (some i6) undef = A6 at *
  refine ol_off h7.2.2 hdst (by rw [F6.1]; omega) q6 ?_
  rw [h7.1]
  have F7 : Fr N L (A6.put (some i7) undef) := F6.put c1 (by simp)
  have q7 : (A6.put (some i7) undef).eval (.tmp i4) = .bool false := (eval_put (by omega)).trans q6
  generalize A6.put (some i7) undef = A7 at *
  refine ol_off h8.2.2 hdst (by rw [F7.1]; omega) q7 ?_
  rw [h8.1]
  have F8 : Fr N L (A7.put (some i8) undef) := F7.put c1 (by simp)
  have q8 : (A7.put (some i8) undef).eval (.tmp i4) = .bool false := (eval_put (by omega)).trans q7
  generalize A7.put (some i8) undef = A8 at *
  refine ol_off h9.2.2 hdst (by rw [F8.1]; omega) q8 ?_
  rw [h9.1]
  have F9 : Fr N L (A8.put (some i9) undef) := F8.put c1 (by simp)
  have q9 : (A8.put (some i9) undef).eval (.tmp i4) = .bool false := (eval_put (by omega)).trans q8
  generalize A8.put (some i9) undef = A9 at *
  have ec : A9.eval (.const (.bool false)) = .bool false := rfl
  refine ol_val h10.2.2 (w' := w) (v := .bool false) (by unfold execOp; rw [h10.2.1]; simp [q9, asBool, ec]) ?_
  rw [h10.1]
  exact wpList_nil (K _ (F9.put c1 (by simp)) (eval_put_self (by rw [F9.1]; omega)))
def Tests (T : Code) (tt N : Nat) (L : List (Nat × Value)) (si : Nat) (n : Int) (gb : Nat) (B : List UInt8) : Prop :=
 ∀ (A : Act) (w : World) (k : Int) (a : Nat) (E : Int) (Q : Exit → Act → World → Prop), Fr N ((si, .int .i64 k) :: L) A → Gt w gb B a E →
  (∀ A' b, Fr N ((si, .int .i64 k) :: L) A' → A'.eval (.tmp tt) = .bool b → (b = true → k < n) → (b = false → n ≤ k ∨ E ≠ 0) → Q .normal A' w) → T.wp Tryz.prog Q A w
def Bodies (body : Code) (N : Nat) (L : List (Nat × Value)) (si gb vb : Nat) (B : List UInt8) (els : List Sc) (ety : TypeId) (n : Nat) (s : List UInt8) (E1 : Int) (c0 : Array Value) (t : TypeId) (off : Nat) (u : World) : Prop :=
 ∀ (A : Act) (w : World) (v : Value) (es : List (List Fld)) (a : Nat) (E : Int) (xv : Value) (Q : Exit → Act → World → Prop), Fr N ((si, xv) :: L) A → es.length < n → Ls gb vb B els ety n s E1 c0 t off u v es a E w →
  (∀ A' v' gs a' E' w', Fr N ((si, xv) :: L) A' → Ls gb vb B els ety n s E1 c0 t off u v' (es ++ [gs]) a' E' w' → Q .normal A' w') → body.wp Tryz.prog Q A w
theorem st_loop {N idS b0 b1 j1 j2 tt si gb vb n : Nat} {ti tj : TypeId} {r1 r2 r3 : Oper} {T body : Code} {L : List (Nat × Value)} {B : List UInt8} {els : List Sc} {ety t : TypeId} {s : List UInt8} {E1 : Int} {c0 : Array Value} {off : Nat} {u : World} {nI : Int} {A : Act} {w : World} {v : Value} {a : Nat} {E : Int} {Q : Exit → Act → World → Prop}
  (hT : Tests T tt N L si nI gb B) (hB : Bodies body N L si gb vb B els ety n s E1 c0 t off u) (h1 : Is r1 (some j1) (.move (.tmp si))) (h2 : Is r2 (some j2) (.binOp .add ti (.tmp j1) (.const (.int .i64 1)) tj)) (h3 : Is r3 (some si) (.assign (.tmp j2)))
  (chk : (freeOf [si, j1, j2] L && decide (si < N) && decide (j1 < N) && decide (j2 < N) && decide (b0 ≠ b1)) = true) (hn : n = nI.toNat) (hn0 : 0 ≤ nI ∧ n ≤ 100000)
  (F : Fr N ((si, .int .i64 0) :: L) A) (H : Ls gb vb B els ety n s E1 c0 t off u v [] a E w)
  (K : ∀ A' v' es a' E' w', Fr N L A' → Ls gb vb B els ety n s E1 c0 t off u v' es a' E' w' → (es.length = n ∨ E' ≠ 0) → Q .normal A' w') :
  (Code.block b0 (Code.loop (Code.seq (Code.seq T (Code.cond (.tmp tt) .skip (.exit b0))) (Code.seq (Code.block b1 body) (Code.region idS #[r1, r2, r3] false))))).wp Tryz.prog Q A w := by
 simp only [Bool.and_eq_true, decide_eq_true_eq] at chk
 obtain ⟨⟨⟨⟨c1, d1⟩, d2⟩, d3⟩, d4⟩ := chk
 refine wp_block (wp_loop (fun A' w' => ∃ es v' a' E', Fr N ((si, .int .i64 es.length) :: L) A' ∧ Ls gb vb B els ety n s E1 c0 t off u v' es a' E' w') (fun A' _ => n - (intOf (A'.eval (.tmp si))).toNat) ⟨[], v, a, E, F, H⟩ ?_)
 rintro A1 w1 ⟨es, v1, a1, E1', F1, H1⟩
 have hle := H1.pg.2.1
 refine wp_seq (wp_seq (hT A1 w1 es.length a1 E1' _ F1 H1.g ?_))
 intro A2 b F2 hb hbt hbf
 show Code.wp _ _ _ _ _
 cases b with
 | false =>
  refine wp_cond_false hb (wp_exit ?_)
  show (if b0 = b0 then Q .normal A2 w1 else _)
  rw [if_pos rfl]
  refine K A2 v1 es a1 E1' w1 F2.tl H1 ?_
  rcases hbf rfl with h | h
  ·exact .inl (by omega)
  ·exact .inr h
 | true =>
  have hlt := hbt rfl
  refine wp_cond_true hb (wp_skip ?_)
  show Code.wp _ _ _ _ _
  refine wp_seq (wp_block (hB A2 w1 v1 es a1 E1' _ _ F2 (by omega) H1 ?_))
  intro A3 v3 gs a3 E3 w3 F3 H3
  show Code.wp _ _ _ _ _
  refine wp_region_list ?_
  show wpList _ _ _ [r1, r2, r3] _ _
  refine ol_move h1.2.2 (.inl h1.2.1) ?_
  rw [h1.1, F3.get (by simp : (si, Value.int .i64 es.length) ∈ _)]
  have F4 : Fr N L (A3.put (some j1) (.int .i64 es.length)) := F3.tl.put c1 (by simp)
  refine ol_val h2.2.2 (run_plus1 h2.2.1 (eval_put_self (by rw [F3.1]; exact d2)) (by omega)) ?_
  rw [h2.1]
  have F5 := F4.put (v := .int .i64 ((es.length : Int) + 1)) c1 (show j2 ∈ _ by simp)
  refine ol_move h3.2.2 (.inr h3.2.1) ?_
  rw [h3.1, eval_put_self (by rw [F4.1]; exact d3)]
  have F6 : Fr N ((si, .int .i64 ((es.length : Int) + 1)) :: L) _ := (F5.put c1 (show si ∈ _ by simp)).add (eval_put_self (by rw [F5.1]; exact d1))
  refine wpList_nil ?_
  show _ ∧ _
  have e1 : ((es ++ [gs]).length : Int) = (es.length : Int) + 1 := by simp
  refine ⟨⟨es ++ [gs], v3, a3, E3, by rw [e1]; exact F6, H3⟩, ?_⟩
  rw [F6.get (by simp : (si, Value.int .i64 ((es.length : Int) + 1)) ∈ _), F1.get (by simp : (si, Value.int .i64 es.length) ∈ _)]
  simp only [intOf]
  omega
theorem st_list {N id1 id2 idS b0 b1 i1 i2 sn j1 j2 tt si gb vb a : Nat} {ti tj : TypeId} {o1 o2 o3 o4 r1 r2 r3 : Oper} {T body rest : Code} {ts : Array TypeId} {L : List (Nat × Value)} {B s0 : List UInt8} {done els : List Sc} {ety t : TypeId} {m E0 E : Int} {fs : List Fld} {cs : Array Value} {w0 w : World} {A : Act} {Q : Exit → Act → World → Prop}
  (hm : 0 ≤ m ∧ m ≤ 100000)
  (hT : ∀ n : Int, Tests T tt N ((sn, .int .i64 n) :: L) si n gb B) (hB : ∀ (n : Int) (u : World) (a1 : Nat) (E1 : Int), 0 ≤ n → n ≤ m → gb < u.heap.size → vb < u.heap.size → gb ≠ vb → Bodies body N ((sn, .int .i64 n) :: L) si gb vb B els ety n.toNat (B.drop a1) E1 (putAt cs 0 (fs.map Fld.val)) t done.length u)
  (h1 : Is o1 (some i1) (.move (.tmp 0))) (h2 : Is o2 (some i2) (.call { callee := .value (.func 122), args := #[.tmp i1, .const (.int .i64 m)], argTypes := ts })) (h3 : Is o3 (some sn) (.assign (.tmp i2))) (h4 : Is o4 (some si) (.assign (.const (.int .i64 0))))
  (h5 : Is r1 (some j1) (.move (.tmp si))) (h6 : Is r2 (some j2) (.binOp .add ti (.tmp j1) (.const (.int .i64 1)) tj)) (h7 : Is r3 (some si) (.assign (.tmp j2)))
  (chk : (freeOf [i1, i2, sn, si, j1, j2] L && decide (i1 < N) && decide (i2 < N) && decide (sn < N) && decide (si < N) && decide (j1 < N) && decide (j2 < N) && decide (b0 ≠ b1) && decide (sn ≠ si) && decide (sn ≠ j1) && decide (sn ≠ j2)) = true) (hcs : cs[done.length]? = some (.slice none 0 0)) (m0 : (0, ptr gb) ∈ L) (hel : 0 < els.length)
  (F : Fr N L A) (S : Sf gb vb B s0 E0 w0 cs t done fs a E w) (hL : B.length ≤ 1099511627000)
  (K : ∀ A' la lc es a' E' w', Fr N L A' → But (fun k => k = gb ∨ k = vb) w w' → Sf gb vb B s0 E0 w0 cs t (done ++ [.list m els]) (fs ++ [.l la lc es]) a' E' w' → rest.wp Tryz.prog Q A' w') :
  (Code.seq (Code.region id1 #[o1, o2, o3] false) (Code.seq (Code.seq (Code.region id2 #[o4] false) (Code.block b0 (Code.loop (Code.seq (Code.seq T (Code.cond (.tmp tt) .skip (.exit b0))) (Code.seq (Code.block b1 body) (Code.region idS #[r1, r2, r3] false)))))) rest)).wp Tryz.prog Q A w := by
 simp only [Bool.and_eq_true, decide_eq_true_eq] at chk
 obtain ⟨⟨⟨⟨⟨⟨⟨⟨⟨⟨c1, d1⟩, d2⟩, d3⟩, d4⟩, d5⟩, d6⟩, d7⟩, d8⟩, d9⟩, d10⟩ := chk
 have hvb : vb < w.heap.size := S.x.lt
 have hgv : gb ≠ vb := by have := S.old; have := S.new; omega
 have hgb : gb < w.heap.size := Blk.lt S.g
 refine wp_seq (wp_region_list ?_)
 show wpList _ _ _ [o1, o2, o3] _ _
 refine ol_move h1.2.2 (.inl h1.2.1) ?_
 rw [h1.1, F.get m0]
 have F1 : Fr N L (A.put (some i1) (ptr gb)) := F.put c1 (by simp)
 refine ol_call h2.2.2 (gupTo_c m ⟨hm.1, by omega⟩).1 h2.2.1 (vs := #[ptr gb, .int .i64 m]) (by rw [List.map_toArray]; simp only [List.map_cons, List.map_nil]; rw [eval_put_self (by rw [F.1]; exact d1)]; rfl) (gupTo_any gb B a E m w S.g S.pg.1 ⟨hm.1, by omega⟩ hL) ?_
 rintro e w1 ⟨n, a1, E1, rfl, k1, b1, p1⟩
 refine ⟨_, rfl, ?_⟩
 rw [h2.1]
 have F2 : Fr N L ((A.put (some i1) (ptr gb)).put (some i2) (.int .i64 n)) := F1.put c1 (by simp)
 refine ol_move h3.2.2 (.inr h3.2.1) ?_
 rw [h3.1, eval_put_self (by rw [F1.1]; exact d2)]
 have F3 := (F2.put (v := .int .i64 n) c1 (show sn ∈ _ by simp)).add (eval_put_self (by rw [F2.1]; exact d3))
 generalize Act.put _ (some sn) _ = A3 at F3 ⊢
 have hnm : 0 ≤ n ∧ n ≤ m := by
  have q : Sc.fits (.num m) (.i n) := get_fits (pg_num hm.1 p1).2 0 rfl rfl
  rw [Sc.fits] at q
  exact q
 refine wpList_nil ?_
 show Code.wp _ _ _ _ _
 refine wp_seq (wp_seq (wp_region_list ?_))
 show wpList _ _ _ [o4] _ _
 refine ol_move h4.2.2 (.inr h4.2.1) ?_
 rw [h4.1]
 have cfree : freeOf [si, j1, j2] ((sn, Value.int .i64 n) :: L) = true := by
  unfold freeOf at c1 ⊢
  rw [List.all_cons, Bool.and_eq_true]
  refine ⟨by simp [d8, d9, d10], List.all_eq_true.2 fun p hp => ?_⟩
  have := List.all_eq_true.1 c1 p hp
  simp at this ⊢
  exact ⟨this.2.2.2.1, this.2.2.2.2.1, this.2.2.2.2.2⟩
 have F4 : Fr N ((si, .int .i64 0) :: (sn, .int .i64 n) :: L) (A3.put (some si) (.int .i64 0)) := (F3.put cfree (by simp)).add (eval_put_self (by rw [F3.1]; exact d4))
 refine wpList_nil ?_
 show Code.wp _ _ _ _ _
 have x1 : Blk w1 vb (putAt cs 0 (fs.map Fld.val)) t := b1.blk S.x (fun q => hgv q.symm)
 have hput : putAt (putAt cs 0 (fs.map Fld.val)) done.length [.slice none 0 0] = putAt cs 0 (fs.map Fld.val) := by
  apply Array.ext_getElem?
  intro j
  simp only [putAt, Array.getElem?_setIfInBounds]
  split
  ·rename_i hj
   subst hj
   have hlt : done.length < cs.size := (Array.getElem?_eq_some_iff.1 hcs).1
   rw [putAt_size, if_pos hlt, putAt_off _ _ _ _ (.inr (by rw [List.length_map, fits_len S.fit]; omega)), hcs]
  ·rfl
 have hsz1 : w.heap.size ≤ w1.heap.size := b1.size
 refine st_loop (hT n) (hB n w a1 E1 hnm.1 hnm.2 hgb hvb hgv) h5 h6 h7 (by simp only [Bool.and_eq_true, decide_eq_true_eq]; exact ⟨⟨⟨⟨cfree, d4⟩, d5⟩, d6⟩, d7⟩) rfl ⟨hnm.1, by omega⟩ F4 (v := .slice none 0 0) ⟨k1, by rw [hput]; exact x1, b1.mono (fun _ q => .inl q), RowG.nil _ _ _ _, fun d hd => (by cases hd), PgL.nil _ _ p1.1⟩ ?_
 intro A5 v5 es a5 E5 w5 F5 H5 hfin
 show Code.wp _ _ _ _ _
 obtain ⟨la, lc, e1, l1⟩ := H5.row.fld
 have q := PgL.done la lc hm.1 p1 H5.pg hfin H5.fit
 refine K A5 la lc es a5 E5 w5 F5.tl H5.but ?_
 have hlo : vb + 1 ≤ w.heap.size := hvb
 refine ⟨H5.g, ?_, S.old, S.new, S.but.trans_new H5.but (fun k hk q => ?_), fitsAll_app S.fit q.2, lieAll.app (S.lie.hi (Hi.of_but H5.but (fun k q => by have := S.old; have := S.new; omega))) (fun f hf => by rw [List.mem_singleton.1 hf]; exact Fld.lies_mono hlo _ l1), S.pg.seq q.1⟩
 ·rw [List.map_append, putAt_app, List.length_map, Nat.zero_add, fits_len S.fit]
  have := H5.x
  rw [e1] at this
  exact this
 ·have := S.new
  omega
theorem bd_cell {N idc ida c1 c2 se i1 i2 i3 i4 i5 i6 f k s si gb vb n off : Nat} {lty ety t : TypeId} {p1 p2 p3 o1 o2 o3 o4 o5 o6 o7 : Oper} {ts : Array TypeId} {L : List (Nat × Value)} {els : List Sc} {B s0 : List UInt8} {E1 : Int} {u : World} {c0 : Array Value}
  (hC : RdC f [] hdv els) (g1 : Is p1 (some c1) (.move (.tmp 0))) (g2 : Is p2 (some c2) (.call { callee := .value (.func f), args := #[.tmp c1], argTypes := ts })) (g3 : Is p3 (some se) (.assign (.tmp c2)))
  (h1 : Is o1 (some i1) (.fieldAddr s (.tmp 3) k)) (h2 : Is o2 (some i2) (.load lty (.tmp i1))) (h3 : Is o3 (some i3) (.move (.tmp se))) (h4 : Is o4 (some i4) (.buildSlice lty 1 #[(0, .tmp i3)])) (h5 : Is o5 (some i5) (.call { callee := .builtin .append, args := #[.tmp i2, .tmp i4], argTypes := #[lty, lty] })) (h6 : Is o6 (some i6) (.fieldAddr s (.tmp 3) k)) (h7 : Is o7 none (.store lty (.tmp i6) (.tmp i5))) (ht5 : o5.type = lty)
  (chk : ∀ xv, (freeOf [c1, c2, se] ((si, xv) :: L) && decide (c1 < N) && decide (c2 < N) && decide (se < N)) = true) (chk2 : ∀ xv V, (freeOf [i1, i2, i3, i4, i5, i6] ((se, V) :: (si, xv) :: L) && decide (i1 < N) && decide (i2 < N) && decide (i3 < N) && decide (i4 < N) && decide (i5 < N) && decide (i6 < N) && decide (i3 ≠ i2) && decide (i4 ≠ i2) && decide (i6 ≠ i5)) = true)
  (hoff : fldOff Tryz.prog s k = some off) (hu : Tryz.prog.underlying lty = some (.slice ety)) (hi : (Tryz.prog.info? ety).map (fun i => (i.zero, i.size, decide (i.bytes ≤ 1000))) = some (some (hdv (zArr els)), els.length, true)) (hzs : (hdv (zArr els)).cells.size = els.length) (hels : 0 < els.length ∧ els.length ≤ 1000) (hls : (Tryz.prog.info? lty).map (·.size) = some 1)
  (m0 : (0, ptr gb) ∈ L) (mv : (3, ptr vb) ∈ L) (hn : n ≤ 1000000) (hgb : gb < u.heap.size) (hvb : vb < u.heap.size) (hgv : gb ≠ vb) (hc0 : off < c0.size) (hL : B.length ≤ 1099511627000) :
  Bodies (Code.seq (Code.region idc #[p1, p2, p3] false) (Code.region ida #[o1, o2, o3, o4, o5, o6, o7] false)) N L si gb vb B els ety n s0 E1 c0 t off u := by
 intro A w v es a E xv Q F hlt H K
 have chk1 := chk xv
 simp only [Bool.and_eq_true, decide_eq_true_eq] at chk1
 obtain ⟨⟨⟨f1, d1⟩, d2⟩, d3⟩ := chk1
 have m0' : (0, ptr gb) ∈ (si, xv) :: L := by simp [m0]
 refine wp_seq (wp_region_list ?_)
 show wpList _ _ _ [p1, p2, p3] _ _
 refine ol_move g1.2.2 (.inl g1.2.1) ?_
 rw [g1.1, F.get m0']
 have F1 := F.put (v := ptr gb) f1 (show c1 ∈ _ by simp)
 refine ol_call g2.2.2 hC.1 g2.2.1 (vs := #[ptr gb]) (by rw [List.map_toArray]; simp only [List.map_cons, List.map_nil]; rw [eval_put_self (by rw [F.1]; exact d1)]) (hC.2.2 gb B a E w H.g H.pg.1 hL) ?_
 rintro e w1 ⟨gs, a1, E1', rfl, k1, b1, l1, p1', z1⟩
 refine ⟨_, rfl, ?_⟩
 rw [g2.1]
 have hw := hC.2.1 gs (fits_len z1)
 generalize hdv (gs.map Fld.val).toArray = V at hw
 have F2 := F1.put (v := V) f1 (show c2 ∈ _ by simp)
 refine ol_move g3.2.2 (.inr g3.2.1) ?_
 rw [g3.1, eval_put_self (by rw [F1.1]; exact d2)]
 have F3 := (F2.put (v := V) f1 (show se ∈ _ by simp)).add (eval_put_self (by rw [F2.1]; exact d3))
 refine wpList_nil ?_
 show Code.wp _ _ _ _ _
 refine st_app h1 h2 ⟨h3.1, h3.2.2⟩ h4 h5 h6 h7 ht5 (chk2 xv V) hoff hu hi hzs hels hls (by simp [mv]) F3 (V := V) (fun A' F' => by
  unfold execOp
  rw [h3.2.1]
  simp only [F'.get (by simp : (se, V) ∈ _)]
  rfl) hw H hlt hn hgb hvb hgv hc0 k1 b1 l1 ⟨p1', z1⟩ ?_
 intro A' v' w' F' H'
 exact K A' v' gs a1 E1' w' F'.tl H'
theorem bd_agg {N idc ida c1 c2 se i1 i2 i3 i4 i5 i6 f k s si gb vb n off : Nat} {lty ety t : TypeId} {p1 p2 p3 p4 o1 o2 o3 o4 o5 o6 o7 : Oper} {ts : Array TypeId} {L : List (Nat × Value)} {els : List Sc} {B s0 : List UInt8} {E1 : Int} {u : World} {c0 : Array Value}
  (hC : RdC f [] .agg els) (g1 : Is p1 (some c1) (.move (.tmp 0))) (g2 : Is p2 (some c2) (.call { callee := .value (.func f), args := #[.tmp c1], argTypes := ts })) (g3 : Is p3 (some se) (.alloc ety)) (g4 : Is p4 none (.store ety (.tmp se) (.tmp c2)))
  (h1 : Is o1 (some i1) (.fieldAddr s (.tmp 3) k)) (h2 : Is o2 (some i2) (.load lty (.tmp i1))) (h3 : Is o3 (some i3) (.load ety (.tmp se))) (h4 : Is o4 (some i4) (.buildSlice lty 1 #[(0, .tmp i3)])) (h5 : Is o5 (some i5) (.call { callee := .builtin .append, args := #[.tmp i2, .tmp i4], argTypes := #[lty, lty] })) (h6 : Is o6 (some i6) (.fieldAddr s (.tmp 3) k)) (h7 : Is o7 none (.store lty (.tmp i6) (.tmp i5))) (ht5 : o5.type = lty)
  (chk : ∀ xv, (freeOf [c1, c2, se] ((si, xv) :: L) && decide (c1 < N) && decide (c2 < N) && decide (se < N) && decide (se ≠ c2)) = true) (chk2 : ∀ xv V, (freeOf [i1, i2, i3, i4, i5, i6] ((se, V) :: (si, xv) :: L) && decide (i1 < N) && decide (i2 < N) && decide (i3 < N) && decide (i4 < N) && decide (i5 < N) && decide (i6 < N) && decide (i3 ≠ i2) && decide (i4 ≠ i2) && decide (i6 ≠ i5)) = true)
  (hoff : fldOff Tryz.prog s k = some off) (hu : Tryz.prog.underlying lty = some (.slice ety)) (hi : (Tryz.prog.info? ety).map (fun i => (i.zero, i.size, decide (i.bytes ≤ 1000))) = some (some (.agg (zArr els)), els.length, true)) (hrt : rowT Tryz.prog ety = true) (hels : 0 < els.length ∧ els.length ≤ 1000) (hls : (Tryz.prog.info? lty).map (·.size) = some 1)
  (m0 : (0, ptr gb) ∈ L) (mv : (3, ptr vb) ∈ L) (hn : n ≤ 1000000) (hgb : gb < u.heap.size) (hvb : vb < u.heap.size) (hgv : gb ≠ vb) (hc0 : off < c0.size) (hL : B.length ≤ 1099511627000) :
  Bodies (Code.seq (Code.region idc #[p1, p2, p3, p4] false) (Code.region ida #[o1, o2, o3, o4, o5, o6, o7] false)) N L si gb vb B els ety n s0 E1 c0 t off u := by
 intro A w v es a E xv Q F hlt H K
 have chk1 := chk xv
 simp only [Bool.and_eq_true, decide_eq_true_eq] at chk1
 obtain ⟨⟨⟨⟨f1, d1⟩, d2⟩, d3⟩, d4⟩ := chk1
 obtain ⟨d, hue, hde⟩ := rowT_out hrt
 obtain ⟨ii, hi1, hi2, hi3, hi4⟩ := info_parts3 hi
 have hsz : (Tryz.prog.info? ety).map (·.size) = some els.length := by rw [hi1, Option.map_some, hi3]
 have m0' : (0, ptr gb) ∈ (si, xv) :: L := by simp [m0]
 refine wp_seq (wp_region_list ?_)
 show wpList _ _ _ [p1, p2, p3, p4] _ _
 refine ol_move g1.2.2 (.inl g1.2.1) ?_
 rw [g1.1, F.get m0']
 have F1 := F.put (v := ptr gb) f1 (show c1 ∈ _ by simp)
 refine ol_call g2.2.2 hC.1 g2.2.1 (vs := #[ptr gb]) (by rw [List.map_toArray]; simp only [List.map_cons, List.map_nil]; rw [eval_put_self (by rw [F.1]; exact d1)]) (hC.2.2 gb B a E w H.g H.pg.1 hL) ?_
 rintro e w1 ⟨gs, a1, E1', rfl, k1, b1, l1, p1', z1⟩
 refine ⟨_, rfl, ?_⟩
 rw [g2.1]
 have hlen := fits_len z1
 have F2 := F1.put (v := .agg (gs.map Fld.val).toArray) f1 (show c2 ∈ _ by simp)
 have q2 : (Act.put (A.put (some c1) (ptr gb)) (some c2) (.agg (gs.map Fld.val).toArray)).eval (.tmp c2) = .agg (gs.map Fld.val).toArray := eval_put_self (by rw [F1.1]; exact d2)
 generalize Act.put (A.put (some c1) (ptr gb)) (some c2) (.agg (gs.map Fld.val).toArray) = A2 at *
 refine ol_alloc g3.2.2 g3.2.1 (z := .agg (zArr els)) (n := els.length) (by rw [hi1, Option.map_some, hi2, hi3]) ?_
 rw [g3.1]
 have F3 := (F2.put (v := ptr w1.heap.size) f1 (show se ∈ _ by simp)).add (eval_put_self (by rw [F2.1]; exact d3))
 have q3 : (A2.put (some se) (ptr w1.heap.size)).eval (.tmp c2) = .agg (gs.map Fld.val).toArray := (eval_put d4).trans q2
 have q3' : (A2.put (some se) (ptr w1.heap.size)).eval (.tmp se) = ptr w1.heap.size := eval_put_self (by rw [F2.1]; exact d3)
 show wpList _ _ _ _ (A2.put (some se) (ptr w1.heap.size)) (w1.alloc (.cells (zArr els) ety))
 generalize A2.put (some se) (ptr w1.heap.size) = A3 at *
 have bA : Below w1.heap.size w1 (w1.alloc (.cells (zArr els) ety)) := (Below.refl _ _).alloc (Nat.le_refl _) _
 have ke := Blk.new w1 (zArr els) ety
 generalize w1.alloc (.cells (zArr els) ety) = w2 at *
 refine ol_store g4.2.2 g4.1 g4.2.1 q3' q3 (ke.thereAt 0 _ (by show 0 + (gs.map Fld.val).toArray.size ≤ _; rw [zArr_size]; simp [hlen])) (by rw [hsz]; show _ = some (gs.map Fld.val).toArray.size; simp [hlen]) (flds_one gs) ?_
 refine wpList_nil ?_
 show Code.wp _ _ _ _ (w2.setCells w1.heap.size 0 (gs.map Fld.val))
 have ke3 := ke.putCells (gs.map Fld.val) 0 _ _
 rw [putAt_all (by rw [zArr_size]; simp [hlen])] at ke3
 have b3 : But (fun k => k = w1.heap.size) w2 (w2.setCells w1.heap.size 0 (gs.map Fld.val)) := but_cells _ _ _ _
 generalize w2.setCells w1.heap.size 0 (gs.map Fld.val) = w3 at *
 have hz1 := b1.size
 have hgw : gb < w.heap.size := Blk.lt H.g
 have b13 : But (fun k => k = gb) w w3 := (b1.trans (But.of_below bA)).trans_new b3 (fun k hk q => by omega)
 refine st_app h1 h2 ⟨h3.1, h3.2.2⟩ h4 h5 h6 h7 ht5 (chk2 xv (ptr w1.heap.size)) hoff hu hi (zArr_size _) hels hls (by simp [mv]) F3 (V := .agg (gs.map Fld.val).toArray) (fun A' F' => by
  unfold execOp
  rw [h3.2.1]
  simp only [F'.get (by simp : (se, ptr w1.heap.size) ∈ _)]
  have := run_loadAt_mid (P := Tryz.prog) w3 w1.heap.size 0 ety (gs.map Fld.val) d ke3.range hue hde (by rw [hsz]; simp [hlen])
  simp [Sem.run_bind, ptr, this]) rfl H hlt hn hgb hvb hgv hc0 (b3.blk (Gt.below k1 bA) (by omega)) b13 (fun f hf => Fld.lies_off ⟨b3.size, fun k hk hne => b3.block k hk hne⟩ f (Fld.lies_hi (Hi.of_below bA) f (l1 f hf)) (Fld.lies_apart (.inr (Nat.le_refl _)) f (l1 f hf))) ⟨p1', z1⟩ ?_
 intro A' v' w' F' H'
 exact K A' v' gs a1 E1' w' F'.tl H'
end Go.Proofs.YtackcbpabjhmpaaGreat
