import Derived.Test.YtackcbpabjhmpaaGreatM12
import Derived.Laws.Tables
namespace Go.Proofs.YtackcbpabjhmpaaGreat
open Go.RowKit
set_option linter.unusedVariables false
set_option linter.unusedSimpArgs false
section
variable {P : Program} {ops : Array Oper} {Q : Exit → Act → World → Prop} {a : Act} {w w' : World} {rest : List Oper} {o : Oper}
def Fr (N : Nat) (L : List (Nat × Value)) (a : Act) : Prop := a.tmps.size = N ∧ a.defers = [] ∧ ∀ p ∈ L, a.eval (.tmp p.1) = p.2
theorem eval_put {i j : Nat} {v : Value} (h : i ≠ j) : (a.put (some i) v).eval (.tmp j) = a.eval (.tmp j) := by
 simp [Act.put, Act.eval, Array.getD_eq_getD_getElem?, Array.getElem?_setIfInBounds, h]
theorem eval_put_self {i : Nat} {v : Value} (h : i < a.tmps.size) : (a.put (some i) v).eval (.tmp i) = v := by
 simp [Act.put, Act.eval, Array.getD_eq_getD_getElem?, Array.getElem?_setIfInBounds, h]
theorem size_put {d : Option Tmp} {v : Value} : (a.put d v).tmps.size = a.tmps.size := by
 cases d <;> simp [Act.put]
def freeOf (is : List Nat) (L : List (Nat × Value)) : Bool := L.all fun p => !is.contains p.1
theorem Fr.put {N : Nat} {L : List (Nat × Value)} {is : List Nat} {i : Nat} {v : Value} (h : Fr N L a) (hf : freeOf is L = true) (hi : i ∈ is) : Fr N L (a.put (some i) v) := by
 obtain ⟨h1, h2, h3⟩ := h
 refine ⟨by rw [size_put]; exact h1, h2, fun p hp => ?_⟩
 rw [eval_put, h3 p hp]
 intro e
 have := List.all_eq_true.1 hf p hp
 subst e
 simp [hi] at this
theorem Fr.get {N : Nat} {L : List (Nat × Value)} (h : Fr N L a) {i : Nat} {v : Value} (hm : (i, v) ∈ L) : a.eval (.tmp i) = v := h.2.2 _ hm
theorem Fr.add {N : Nat} {L : List (Nat × Value)} {i : Nat} {v : Value} (h : Fr N L a) (he : a.eval (.tmp i) = v) : Fr N ((i, v) :: L) a :=
 ⟨h.1, h.2.1, fun p hp => by rcases List.mem_cons.1 hp with rfl | hp; exact he; exact h.2.2 p hp⟩
theorem Fr.sub {N : Nat} {L L' : List (Nat × Value)} (h : Fr N L a) (hs : ∀ p ∈ L', p ∈ L) : Fr N L' a := ⟨h.1, h.2.1, fun p hp => h.2.2 p (hs p hp)⟩
theorem Fr.set {N : Nat} {L : List (Nat × Value)} {i : Nat} {v : Value} (h : Fr N L a) (hi : i < N) (hf : freeOf [i] L = true) : Fr N ((i, v) :: L) (a.put (some i) v) :=
 (h.put hf (by simp)).add (eval_put_self (by rw [h.1]; exact hi))
theorem Fr.tl {N : Nat} {L : List (Nat × Value)} {p : Nat × Value} (h : Fr N (p :: L) a) : Fr N L a := h.sub fun q hq => by simp [hq]
theorem ol_val (hg : o.guard = none) {v : Value} (hr : (execOp a.eval o).run P w = .ok (.value v) w') (h : wpList P ops Q rest (a.put o.dst v) w') : wpList P ops Q (o :: rest) a w :=
 wpList_plain hg fun K hK => by
  unfold Oper.wp
  rw [hr]
  exact hK _ _ h
theorem ol_skip (hg : o.guard = none) (hd : o.dst = none) (hr : (execOp a.eval o).run P w = .ok .skip w') (h : wpList P ops Q rest a w') : wpList P ops Q (o :: rest) a w :=
 wpList_plain hg fun K hK => by
  unfold Oper.wp
  rw [hr]
  refine hK _ _ ?_
  rw [hd]
  exact h
theorem ol_move (hg : o.guard = none) {x : Operand} (ho : o.op = .move x ∨ o.op = .assign x) (h : wpList P ops Q rest (a.put o.dst (a.eval x)) w) : wpList P ops Q (o :: rest) a w :=
 ol_val hg (by rcases ho with ho | ho <;> (unfold execOp; rw [ho]; rfl)) h
def enters (P : Program) (f : FuncId) : Bool := match P.funcs[f]? with | some fn => !(fn.name == "runtime.NumGoroutine") && !fn.body.isNone | none => false
theorem run_enters {f : FuncId} {vs : Array Value} (hE : enters P f = true) : (callFunc f vs).run P w = .ok (.enter f vs) w := by
 unfold enters at hE
 cases hf : P.funcs[f]? with
 | none => rw [hf] at hE; cases hE
 | some fn =>
  rw [hf] at hE
  simp only [Bool.and_eq_true, Bool.not_eq_true', beq_eq_false_iff_ne] at hE
  have h2 : fn.body ≠ none := fun q => by rw [q] at hE; cases hE.2
  simp [callFunc, hf, hE.1, h2]
theorem run_callOf {f : FuncId} {xs : Array Operand} {ts : Array TypeId} (hE : enters P f = true) (ho : o.op = .call { callee := .value (.func f), args := xs, argTypes := ts }) : (execOp a.eval o).run P w = .ok (.enter f (xs.map a.eval)) w := by
 unfold execOp
 rw [ho]
 simp [resolve, Deferred.ofValue, invoke, Act.eval, run_enters hE]
theorem ol_call (hg : o.guard = none) {f : FuncId} (hE : enters P f = true) {xs : Array Operand} {ts : Array TypeId} (ho : o.op = .call { callee := .value (.func f), args := xs, argTypes := ts }) {vs : Array Value} (hv : xs.map a.eval = vs) {R : Ending → World → Prop} (hc : Calls P f vs w R)
  (h : ∀ e w', R e w' → ∃ v, e = .returned v ∧ wpList P ops Q rest (a.put o.dst v) w') : wpList P ops Q (o :: rest) a w :=
 wpList_plain hg fun K hK => by
  unfold Oper.wp
  rw [run_callOf hE ho, hv, Oper.upon_enter]
  refine hc.mono ?_
  intro e w' hR
  obtain ⟨v, rfl, hw⟩ := h e w' hR
  exact hK _ _ hw
def fldOff (P : Program) (s k : Nat) : Option Nat :=
 match P.underlying s with
 | some (.struct fs) => match fs[k]? with
  | some f => match P.info? f.type with
   | some i => if i.size = 0 then none else some f.offset
   | none => none
  | none => none
 | _ => none
theorem run_fld {s k n b : Nat} (h : fldOff P s k = some n) : (Instr.fieldAt s (.pointer (some ⟨b, 0, none⟩)) k).run P w = .ok (.pointer (some ⟨b, n, none⟩)) w := by
 unfold fldOff at h
 cases hu : P.underlying s with
 | none => rw [hu] at h; cases h
 | some d =>
  rw [hu] at h
  cases d with
  | struct fs =>
   simp only at h
   cases hf : fs[k]? with
   | none => rw [hf] at h; cases h
   | some f =>
    rw [hf] at h
    simp only at h
    cases hi : P.info? f.type with
    | none => rw [hi] at h; cases h
    | some i =>
     rw [hi] at h
     simp only at h
     split at h
     ·cases h
     ·rename_i hz
      injection h with h
      subst h
      simp [Instr.fieldAt, run_underlying hu, hf, Instr.sureAddr, fieldPlace, sizeOf, typeInfo, hi, hz, Addr.add_lit]
  | _ => cases h
theorem ol_fld (hg : o.guard = none) {s k n b : Nat} {x : Operand} (ho : o.op = .fieldAddr s x k) (hx : a.eval x = .pointer (some ⟨b, 0, none⟩)) (hf : fldOff P s k = some n) (h : wpList P ops Q rest (a.put o.dst (.pointer (some ⟨b, n, none⟩))) w) : wpList P ops Q (o :: rest) a w :=
 ol_val hg (by unfold execOp; rw [ho]; simp only [hx]; simp [Sem.run_bind, run_fld hf]) h
theorem run_store_any (w : World) (b n : Nat) (ty : TypeId) (v : Value) (ht : w.there b n v.cells.size) (hi : (P.info? ty).map (·.size) = some v.cells.size) (h1 : ∀ u ∈ v.cells.toList, u.oneCell' = true) :
  (storeVar ty ⟨b, n, none⟩ v).run P w = .ok () (w.setCells b n v.cells.toList) := by
 have := run_storeCells_cells (P := P) b n v.cells.toList 0 w (fun j hj => by simpa using (ht j (by simpa using hj)).1) (fun j hj => by simpa using (ht j (by simpa using hj)).2) h1
 cases hq : P.info? ty with
 | none => simp [hq] at hi
 | some i =>
  have hs : v.cells.size = i.size := by simp [hq] at hi; omega
  simp only [Nat.add_zero] at this
  simp [storeVar, sizeOf, typeInfo, hq, hs, this]
theorem ol_store (hg : o.guard = none) (hd : o.dst = none) {ty : TypeId} {x y : Operand} (ho : o.op = .store ty x y) {b n : Nat} {v : Value} (hx : a.eval x = .pointer (some ⟨b, n, none⟩)) (hy : a.eval y = v) (ht : w.there b n v.cells.size) (hi : (P.info? ty).map (·.size) = some v.cells.size) (h1 : ∀ u ∈ v.cells.toList, u.oneCell' = true)
  (h : wpList P ops Q rest a (w.setCells b n v.cells.toList)) : wpList P ops Q (o :: rest) a w :=
 ol_skip hg hd (by unfold execOp; rw [ho]; simp only [hx, hy]; simp [Instr.storeAt, Instr.sureAddr, Sem.run_bind, run_store_any w b n ty v ht hi h1]) h
theorem ol_row (hg : o.guard = none) {ty : TypeId} {x : Operand} (ho : o.op = .load ty x) {b n : Nat} {cs : List Value} {d : TypeDesc} (hx : a.eval x = .pointer (some ⟨b, n, none⟩)) (hc : w.rangeAt b n cs) (hu : P.underlying ty = some d) (hd : d.isRow = true) (hi : (P.info? ty).map (·.size) = some cs.length)
  (h : wpList P ops Q rest (a.put o.dst (.agg cs.toArray)) w) : wpList P ops Q (o :: rest) a w := wpList_load_mid hg ty x ho b n hx cs d hc hu hd hi h
theorem ol_cell (hg : o.guard = none) {ty : TypeId} {x : Operand} (ho : o.op = .load ty x) {b n : Nat} {v : Value} {d : TypeDesc} (hx : a.eval x = .pointer (some ⟨b, n, none⟩)) (hc : w.cell? ⟨b, n, none⟩ = some v) (hu : P.underlying ty = some d) (hd : d.isRow = false)
  (h : wpList P ops Q rest (a.put o.dst v) w) : wpList P ops Q (o :: rest) a w :=
 ol_val hg (by
  unfold execOp
  rw [ho]
  simp only [hx]
  have hagg : (isAgg ty).run P w = .ok false w := by
   unfold isAgg
   rw [Sem.run_bind, run_underlying hu w]
   cases d <;> simp_all [TypeDesc.isRow]
  simp [Instr.loadAt, Instr.sureAddr, loadVar, hagg, hc]) h
theorem ol_alloc (hg : o.guard = none) {ty : TypeId} (ho : o.op = .alloc ty) {z : Value} {n : Nat} (hi : (P.info? ty).map (fun i => (i.zero, i.size)) = some (some z, n)) (h : wpList P ops Q rest (a.put o.dst (.pointer (some ⟨w.heap.size, 0, none⟩))) (w.alloc (.cells z.cells ty))) : wpList P ops Q (o :: rest) a w :=
 ol_val hg (by
  unfold execOp
  rw [ho]
  cases hq : P.info? ty with
  | none => simp [hq] at hi
  | some i =>
   have hz : i.zero = some z := by simp [hq] at hi; exact hi.1
   simp [Instr.alloc, zeroValue, typeInfo, hq, hz, newVar, newRow]) h
theorem ol_box (hg : o.guard = none) {ty : TypeId} {x : Operand} (ho : o.op = .box ty x) {v : Value} (hx : a.eval x = v) (h : wpList P ops Q rest (a.put o.dst (.pointer (some ⟨w.heap.size, 0, none⟩))) (w.alloc (.cells v.cells ty))) : wpList P ops Q (o :: rest) a w :=
 ol_val hg (by unfold execOp; rw [ho]; simp only [hx]; simp [Instr.box, newVar, newRow]) h
theorem ol_build (hg : o.guard = none) {ty : TypeId} {ps : Array (Nat × Operand)} (ho : o.op = .build ty ps) {Z : Array Value} (hb : P.built ty (ps.map fun q => (q.1, a.eval q.2)).toList = some Z) (h : wpList P ops Q rest (a.put o.dst (.agg Z)) w) : wpList P ops Q (o :: rest) a w :=
 ol_val hg (by unfold execOp; rw [ho]; simp only; rw [Sem.run_bind, run_build w ty _ Z hb]; rfl) h
end
theorem wp_append_run {P : Program} {w : World} {o : Oper} {a : Act} {K : Act → World → Prop} {Q : Exit → Act → World → Prop} (s x : Operand) (t : TypeId) (ho : o.op = .call { callee := .builtin .append, args := #[s, x], argTypes := #[t, t] })
  (v1 v2 v : Value) (w' : World) (hs : a.eval s = v1) (hx : a.eval x = v2) (hr : (Builtin.append_ #[t, t] o.type #[v1, v2]).run P w = .ok v w') (h : K (a.put o.dst v) w') : o.wp P a w K Q := by
 unfold Oper.wp execOp
 simp only [ho, resolve, invoke, builtin, Sem.run_bind, Sem.run_pure, Result.andThen_ok, List.map_toArray, List.map_cons, List.map_nil, hs, hx, hr]
 exact h
theorem wpList_append_run {P : Program} {w : World} {ops : Array Oper} {rest : List Oper} {o : Oper} {a : Act} {Q : Exit → Act → World → Prop} (hgd : o.guard = none) (s x : Operand) (t : TypeId) (ho : o.op = .call { callee := .builtin .append, args := #[s, x], argTypes := #[t, t] })
  (v1 v2 v : Value) (w' : World) (hs : a.eval s = v1) (hx : a.eval x = v2) (hr : (Builtin.append_ #[t, t] o.type #[v1, v2]).run P w = .ok v w') (h : wpList P ops Q rest (a.put o.dst v) w') : wpList P ops Q (o :: rest) a w :=
 wpList_plain hgd fun _ hK => wp_append_run s x t ho v1 v2 v w' hs hx hr (hK _ _ h)
theorem infoSeatG : (Tryz.prog.info? 208).map (fun i => (i.zero, i.size, i.bytes)) = some (some (.agg #[.int .i64 0, .int .i64 0]), 2, 16) := by kernel_rfl
theorem info_partsJ {P : Program} {t : TypeId} {z : Value} {n b : Nat} (h : (P.info? t).map (fun i => (i.zero, i.size, i.bytes)) = some (some z, n, b)) : ∃ i, P.info? t = some i ∧ i.zero = some z ∧ i.size = n ∧ i.bytes = b := by
 cases hi : P.info? t with
 | none => rw [hi] at h; cases h
 | some i =>
  rw [hi] at h
  simp only [Option.map_some, Option.some.injEq, Prod.mk.injEq] at h
  exact ⟨i, rfl, h.1, h.2.1, h.2.2⟩
theorem slice_shape {w : World} {lo : Nat} {e : TypeId} {sz n : Nat} {v : Value} {xs : List Value} (h : w.ownsRow lo e sz v n xs) : ∃ la lc, v = .slice la n lc := by
 rcases h.2 with ⟨rfl, rfl⟩ | ⟨g, cap, cur, rfl, _⟩
 ·exact ⟨none, 0, rfl⟩
 ·exact ⟨_, _, rfl⟩
theorem app_one (w : World) (base : Nat) (t e : TypeId) (z : Value) (size bytes : Nat) (ht : Tryz.prog.underlying t = some (.slice e)) (hi : (Tryz.prog.info? e).map (fun i => (i.zero, i.size, i.bytes)) = some (some z, size, bytes)) (hzs : z.cells.size = size) (hsz : 0 < size) (hby : bytes ≤ 1000)
  (v : Value) (n : Nat) (xs : List Value) (hown : w.ownsRow base e size v n xs) (hn : n ≤ 1000000) (news : Array Value) (hl : news.size = size) (h1 : ∀ u ∈ news.toList, u.oneCell' = true) (hb : base ≤ w.heap.size) :
  ∃ v' w', (Builtin.append_ #[t, t] t #[v, .slice (some ⟨w.heap.size, 0, none⟩) 1 1]).run Tryz.prog (w.alloc (.cells news e)) = .ok v' w' ∧ w'.ownsRow base e size v' (n + 1) (xs ++ news.toList) ∧ (w.alloc (.cells news e)).grownBy w' v.ownBlock ∧ (v'.ownBlock = v.ownBlock ∨ v'.ownBlock = some (w.alloc (.cells news e)).heap.size) := by
 obtain ⟨i, hi1, hi2, hi3, hi4⟩ := info_partsJ hi
 have kn := Blk.new w news e
 have ho : (w.alloc (.cells news e)).ownsRow base e size v n xs := by
  refine ⟨hown.1, ?_⟩
  rcases hown.2 with q | ⟨g, cap, cur, e1, e2, e3, e4⟩
  ·exact .inl q
  ·exact .inr ⟨g, cap, cur, e1, e2, by
    have hlt := (Array.getElem?_eq_some_iff.1 e3).1
    rw [Below.heap_alloc _ _ _ hlt]; exact e3, e4⟩
 have hby2 : (n + 1) * bytes ≤ 140737488355328 := Nat.le_trans (Nat.mul_le_mul (by omega : n + 1 ≤ 1000001) hby) (by omega)
 obtain ⟨v', w', h2, h3, h4, _, h5⟩ := run_append_own_at (P := Tryz.prog) (w.alloc (.cells news e)) base t t e i z size bytes ht hi1 hi2 hi3 hi4 hzs hsz v n xs ho ⟨w.heap.size, 0, none⟩ 1 1 news.toList (by simp [hl]) (fun j u hj => by
  have q := kn.cell j
  rw [← Array.getElem?_toList, hj] at q
  have e0 : (⟨w.heap.size, 0, none⟩ : Addr).add j = ⟨w.heap.size, j, none⟩ := by simp [Addr.add]; omega
  rw [e0]
  exact q) h1 (by unfold maxLen; omega) hby2 (by simp; omega)
 exact ⟨v', w', h2, h3, h4, h5⟩
def hdv (a : Array Value) : Value := a.toList.headD (.int .i64 0)
set_option maxRecDepth 4000 in
set_option maxHeartbeats 1600000 in
theorem gbench_got (gb : Nat) (B : List UInt8) (a : Nat) (E : Int) (w : World) (k : Gt w gb B a E) (ha : a ≤ B.length) (hL : B.length ≤ 1099511627000) :
  Calls Tryz.prog 63 #[.pointer (some ⟨gb, 0, none⟩)] w fun e w' => GotS gb B hdv [.list 7 pairSc] a E w e w' := by
 have hgw : Hid (gb < w.heap.size) := Blk.lt k
 go_enter Tryz.func63, Tryz.ntmps63
 go_wp2_with fail
 refine (gupTo_any gb B a E 7 w k ha (by omega) hL).mono ?_
 rintro e w1 ⟨n, a1, E1, rfl, k1, B1, P1⟩
 have hn : 0 ≤ n ∧ n ≤ 7 := by
  have q : Sc.fits (.num 7) (.i n) := get_fits (pg_num (by omega) P1).2 0 rfl rfl
  rw [Sc.fits] at q
  exact q
 have P0 : Hid (Pg B 0 (numP 7 (B.drop a)) E n a1 E1) := P1
 have L0 : Hid (Lf gb w.heap.size B pairSc 208 2 n.toNat (B.drop a1) E1 w (.slice none 0 0) [] a1 E1 w1) := ⟨k1, RowG.nil _ _ _ _, hgw.out, B1, rfl, fun d hd => (by cases hd), PgL.nil _ _ P1.1⟩
 clear k k1 B1 P1 ha
 go_wp2
 go_loopw [3, 5] (fun lv iv wv => ∃ (es : List (List Fld)) (la : Option Addr) (lc ai : Nat) (Ei : Int), iv = .int .i64 es.length ∧ lv = .slice la es.length lc ∧ Hid (Lf gb w.heap.size B pairSc 208 2 n.toNat (B.drop a1) E1 w (.slice la es.length lc) es ai Ei wv)) (fun _ iv _ => n.toNat - (intOf iv).toNat)
 case atStart => exact ⟨[], none, 0, a1, E1, rfl, rfl, L0⟩
 case round =>
  obtain ⟨es, la, lc, ai, Ei, rfl, rfl, L⟩ := hrel
  clear L0
  by_cases hlt : es.length < n.toNat
  ·have hlt' : (es.length : Int) < n := by omega
   have bA : Below wr.heap.size wr (wr.alloc (.cells #[.int .i64 0, .int .i64 0] 208)) := (Below.refl _ _).alloc (Nat.le_refl _) _
   have S0 : Hid (Sf gb wr.heap.size B (B.drop ai) Ei wr #[.int .i64 0, .int .i64 0] 208 [] [] ai Ei (wr.alloc (.cells #[.int .i64 0, .int .i64 0] 208))) := ⟨L.out.g.below bA, Blk.new _ _ _, Blk.lt L.out.g, Nat.le_refl _, But.of_below bA, by simp [fitsAll], lieAll.nil _ _, PgS.nil Ei L.out.pg.1⟩
   go_wp2_with fail
   refine (gnum_any gb B ai Ei _ S0.out.g S0.out.pg.1 hL).mono ?_
   rintro e u1 ⟨v0, a2, E2, rfl, g1, b1, p1⟩
   obtain ⟨xx, xf, xz⟩ := S0.out.cell b1 0 (Nat.le_refl _) (z := .int .i64 0) rfl
   have q1 := pg_num (by omega) p1
   have S1 : Hid (Sf gb wr.heap.size B (B.drop ai) Ei wr #[.int .i64 0, .int .i64 0] 208 ([] ++ [numC]) ([] ++ [Fld.i v0]) a2 E2 (u1.setCell ⟨wr.heap.size, 0, none⟩ (.int .i64 v0))) := S0.out.step g1 b1 (lie_i (by omega) q1.2 _ _) q1 (but_set _ _ _ _) (fun c1 hc => hc.set 0 _)
   clear g1 b1 p1 q1 S0 bA
   go_wp2_with fail
   clear xx xf xz
   generalize u1.setCell ⟨wr.heap.size, 0, none⟩ (.int .i64 v0) = W1 at *
   refine (gnum_any gb B a2 E2 W1 S1.out.g S1.out.pg.1 hL).mono ?_
   rintro e u2 ⟨v1, a3, E3, rfl, g2, b2, p2⟩
   obtain ⟨xx, xf, xz⟩ := S1.out.cell b2 1 (Nat.le_refl _) (z := .int .i64 0) rfl
   have q2 := pg_num (by omega) p2
   have S2 : Hid (Sf gb wr.heap.size B (B.drop ai) Ei wr #[.int .i64 0, .int .i64 0] 208 (([] ++ [numC]) ++ [numC]) (([] ++ [Fld.i v0]) ++ [Fld.i v1]) a3 E3 (u2.setCell ⟨wr.heap.size, 1, none⟩ (.int .i64 v1))) := S1.out.step g2 b2 (lie_i (by omega) q2.2 _ _) q2 (but_set _ _ _ _) (fun c1 hc => hc.set 1 _)
   clear g2 b2 p2 q2 S1
   have kx : Blk (u2.setCell ⟨wr.heap.size, 1, none⟩ (.int .i64 v1)) wr.heap.size #[.int .i64 v0, .int .i64 v1] 208 := by
    have q := S2.out.x
    rw [putAt_all (by simp)] at q
    exact q
   have y0 : u2.cell? ⟨wr.heap.size, 0, none⟩ = some (.int .i64 v0) := cell_back kx (by omega) rfl
   obtain ⟨W2, hW2⟩ : ∃ W2, u2.setCell ⟨wr.heap.size, 1, none⟩ (.int .i64 v1) = W2 := ⟨_, rfl⟩
   rw [hW2] at S2
   have hwr : w.heap.size ≤ wr.heap.size := L.out.but.size
   have r2 : RowG w.heap.size 208 2 (.slice la es.length lc) es W2 := L.out.row.hi (Hi.of_but S2.out.but (fun k q => by have := hgw.out; omega))
   obtain ⟨v', w3, hrun, hown, hgrow, hat⟩ := app_one W2 w.heap.size 46 208 (.agg #[.int .i64 0, .int .i64 0]) 2 16 Tryz.underlying46 infoSeatG rfl (by omega) (by omega) (.slice la es.length lc) es.length (flatV es) r2.own (by omega) #[.int .i64 v0, .int .i64 v1] rfl (by intro u hu; simp at hu; rcases hu with rfl | rfl <;> rfl) (Nat.le_trans hwr S2.out.but.size)
   have bB : Below W2.heap.size W2 (W2.alloc (.cells #[.int .i64 v0, .int .i64 v1] 208)) := (Below.refl _ _).alloc (Nat.le_refl _) _
   have L2 : Hid (Lf gb w.heap.size B pairSc 208 2 n.toNat (B.drop a1) E1 w v' (es ++ [[.i v0, .i v1]]) a3 E3 w3) := L.out.step hlt (S2.out.g.below bB) (S2.out.but.trans (But.of_below bB)) ((S2.out.lie.hi (Hi.of_below bB)).mono (by omega)) ⟨S2.out.pg, S2.out.fit⟩ rfl hown hgrow hat
   obtain ⟨la', lc', rfl⟩ := slice_shape L2.out.row.own
   clear hown hgrow hat r2 bB S2 kx L
   subst hW2
   have hsz2 : (u2.setCell ⟨wr.heap.size, 1, none⟩ (.int .i64 v1)).heap.size = u2.heap.size := by simp
   rw [hsz2] at hrun
   clear hsz2
   go_wp2_with (at_builtin; refine wpList_append_run rfl _ _ 46 rfl _ _ _ w3 rfl rfl hrun ?_)
   refine ⟨⟨es ++ [[.i v0, .i v1]], la', lc', a3, E3, ?_, by simp, L2⟩, ?_⟩
   ·rw [List.length_append]
    first | go_num | simp
   ·simp [intOf]
    omega
  ·have he : es.length = n.toNat := by have := L.out.pg.2.1; omega
   have hge : ¬ (es.length : Int) < n := by omega
   have HE : Hid (GotS gb B hdv [.list 7 pairSc] a E w (.returned (.slice la es.length lc)) wr) := by
    obtain ⟨la2, lc2, e1, l1⟩ := L.out.row.fld
    have q := PgL.done la2 lc2 (by omega) P0.out L.out.pg (.inl he) L.out.fit
    exact ⟨[.l la2 lc2 es], ai, Ei, by rw [e1]; rfl, L.out.g, L.out.but, fun f hf => by rw [List.mem_singleton.1 hf]; exact l1, q.1, q.2⟩
   clear L he hlt
   go_wp2
   refine bodyPost_ret (v := .slice la es.length lc) (by simp [results, Tryz.results63, go_sem]) rfl ?_
   exact HE.out
end Go.Proofs.YtackcbpabjhmpaaGreat
