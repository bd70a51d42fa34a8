import Derived.OrdersHeld
import Derived.Test.YtemjajljpoaioaaDoorSWk3
namespace Go.Proofs.YtemjajljpoaioaaDoor
open Go.RowKit
set_option linter.unusedVariables false
set_option linter.unusedSimpArgs false
set_option maxRecDepth 20000
set_option maxHeartbeats 8000000
variable {P : Program} {md : Region.Mode} {ops ops' : Array Oper} {Q : Exit → Act → World → Prop}
section
variable {P : Program} {md : Region.Mode} {ops ops0 : Array Oper} {Q : Exit → Act → World → Prop} {S : World → Prop} {a : Act} {w w0 : World} {o : Oper} {N : Nat} {L : List (Nat × Value)} {fuel : Nat} {listed : Array Bool}
theorem sd_val (F : Fm N L a) (i : Nat) {d : Nat} {v : Value} (hi : ops[i]? = some o) (hs : Region.noSelect ops = true) (hf : Region.free md ops listed i = true) (hr : (Region.ready md ops listed).contains i = true) (hQ : ∀ c a w, Q (.panic c) (a.put (some d) v) w → Q (.panic c) a w)
  (hd : o.dst = some d) (hg : o.guard = none) (hb : Nat.blt d N = true) (hy : ∀ w, S w → (execOp a.eval o).run P w = .ok (.value v) w) (hS : S w) (K : ∀ a', Fm N ((d, v) :: L) a' → wpAnyH P md ops Q S fuel (listed.setIfInBounds i true) a' w) : wpAnyH P md ops Q S (fuel + 1) listed a w :=
 wpAnyH_take hi hs hf hr (fun c a w => by rw [hd]; exact hQ c a w) (.inl ⟨by unfold Region.wanted; rw [hg], hy⟩) hS (by rw [hd]; exact K _ (F.put hb))
theorem sd_move (F : Fm N L a) (i : Nat) {d : Nat} {x : Operand} {v : Value} (hi : ops[i]? = some o) (h : Is o (some d) (.move x)) (hv : opv L x = some v) (hs : Region.noSelect ops = true) (hf : Region.free md ops listed i = true) (hr : (Region.ready md ops listed).contains i = true) (hQ : ∀ c a w, Q (.panic c) (a.put (some d) v) w → Q (.panic c) a w)
  (hb : Nat.blt d N = true) (hS : S w) (K : ∀ a', Fm N ((d, v) :: L) a' → wpAnyH P md ops Q S fuel (listed.setIfInBounds i true) a' w) : wpAnyH P md ops Q S (fuel + 1) listed a w :=
 sd_val F i hi hs hf hr hQ h.1 h.2.2 hb (fun w _ => by unfold execOp; rw [h.2.1]; simp only [F.ev hv]; rfl) hS K
theorem sd_fld (F : Fm N L a) (i n : Nat) {d s k b f m : Nat} {x : Operand} (hi : ops[i]? = some o) (h : Is o (some d) (.fieldAddr s x k)) (hv : opv L x = some (.pointer (some ⟨b, f, none⟩))) (hn : fldOff P s k = some n) (hm : f + n = m) (hs : Region.noSelect ops = true) (hf : Region.free md ops listed i = true) (hr : (Region.ready md ops listed).contains i = true) (hQ : ∀ c a w, Q (.panic c) (a.put (some d) (.pointer (some ⟨b, m, none⟩))) w → Q (.panic c) a w)
  (hb : Nat.blt d N = true) (hS : S w) (K : ∀ a', Fm N ((d, .pointer (some ⟨b, m, none⟩)) :: L) a' → wpAnyH P md ops Q S fuel (listed.setIfInBounds i true) a' w) : wpAnyH P md ops Q S (fuel + 1) listed a w := by
 subst hm
 exact sd_val F i hi hs hf hr hQ h.1 h.2.2 hb (fun w _ => by unfold execOp; rw [h.2.1]; simp only [F.ev hv]; simp [Sem.run_bind, run_fldo hn]) hS K
theorem run_cell {t : TypeId} {x : Operand} {b n : Nat} {v : Value} {d : TypeDesc} (ho : o.op = .load t x) (hx : a.eval x = .pointer (some ⟨b, n, none⟩)) (hc : w.cell? ⟨b, n, none⟩ = some v) (hu : P.underlying t = some d) (hd : d.isRow = false) : (execOp a.eval o).run P w = .ok (.value v) w := by
 unfold execOp
 rw [ho]
 simp only [hx]
 have hagg : (isAgg t).run P w = .ok false w := by
  unfold isAgg
  rw [Sem.run_bind, run_underlying hu w]
  cases d <;> simp_all [TypeDesc.isRow]
 simp [Instr.loadAt, Instr.sureAddr, loadVar, hagg, hc]
theorem sd_cell (F : Fm N L a) (i : Nat) {d : Nat} {t : TypeId} {x : Operand} {b n : Nat} {v : Value} (hi : ops[i]? = some o) (h : Is o (some d) (.load t x)) (hv : opv L x = some (.pointer (some ⟨b, n, none⟩))) (ht : cellT P t = true) (hc : ∀ w, S w → w.cell? ⟨b, n, none⟩ = some v) (hs : Region.noSelect ops = true) (hf : Region.free md ops listed i = true) (hr : (Region.ready md ops listed).contains i = true) (hQ : ∀ c a w, Q (.panic c) (a.put (some d) v) w → Q (.panic c) a w)
  (hb : Nat.blt d N = true) (hS : S w) (K : ∀ a', Fm N ((d, v) :: L) a' → wpAnyH P md ops Q S fuel (listed.setIfInBounds i true) a' w) : wpAnyH P md ops Q S (fuel + 1) listed a w := by
 obtain ⟨ds, hu, hd⟩ := cellT_out ht
 exact sd_val F i hi hs hf hr hQ h.1 h.2.2 hb (fun w hw => run_cell h.2.1 (F.ev hv) (hc w hw) hu hd) hS K
theorem oper_then {o : Oper} {a : Act} {w : World} {K : Act → World → Prop} {Q : Exit → Act → World → Prop} (hh : o.wp P a w K (Exit.then K Q)) : o.wp P a w K Q := by
 unfold Oper.wp at hh ⊢
 generalize (execOp a.eval o).run P w = r at hh ⊢
 cases r with
 | ok n w' =>
  cases n with
  | value v => exact hh
  | skip => exact hh
  | defer d => exact hh
  | enter f args =>
   refine Calls.mono (R := _) hh fun e w'' he => ?_
   cases e with
   | returned v => exact he
   | panicked c => exact he
   | outgrown => exact he
  | row r args => exact Rows.mono hh fun _ _ he => he
  | _ => exact hh
 | halt x w' => cases x <;> exact hh
theorem sd_one (i : Nat) (hi : ops[i]? = some o) (hr : Region.ready md ops listed = [i]) (hg : o.guard = none) (h : wpList P ops (Exit.then (fun a w => S w ∧ wpAnyH P md ops Q S fuel (listed.setIfInBounds i true) a w) Q) [o] a w) : wpAnyH P md ops Q S (fuel + 1) listed a w :=
 wpAnyH_all hr (by simp) fun j hj => by
  have hj : j = i := by simpa using hj
  subst hj
  have hw : ∀ t, Region.wanted o t = true := fun t => by simp [Region.wanted, hg]
  unfold wpList at h
  rw [if_pos (hw _)] at h
  unfold wpOp
  simp only [hi]
  rw [if_pos (hw _)]
  rcases h with h | ⟨h1, h2⟩
  ·exact .inl (oper_then h)
  ·exact .inr ⟨h1, h2⟩
end
section
variable {σ : Type} {X : σ → World → Prop} {T : Nat → Prop} {w0 w : World} {E : List Ent} {s : σ}
theorem Mm.drew (M : Mm X T w0 E s w) : Mm X T w0 E s w.drew := M.own ((Below.refl _ _).drew) (M.mem.hi (Hi.of_below ((Below.refl w.heap.size w).drew)))
theorem Mm.cell (M : Mm X T w0 E s w) (k : Nat) {x n : Nat} {cs : List Value} {t : TypeId} {v : Value} (hk : E[k]? = some (.box x cs t)) (hc : cs[n]? = some v) : w.cell? ⟨x, n, none⟩ = some v := ((M.mem.box hk).1.cell n).trans (by simpa using hc)
theorem Mem.rowlie {base : Nat} {L : List Ent} {w : World} (M : Mem base L w) (k : Nat) {la : Option Addr} {n lc : Nat} {e : TypeId} {sz : Nat} {es : List (List Fld)} (h : L[k]? = some (.row (.slice la n lc) e sz es)) : (Fld.l la lc es).lies base w := by
 obtain ⟨la', lc', e1, h1⟩ := M.rowval h
 injection e1 with e1 e2 e3
 subst e1 e3
 exact h1
theorem Mem.vallie {base : Nat} {L : List Ent} {w : World} (M : Mem base L w) (k : Nat) {f : Fld} (h : L[k]? = some (.val [f])) : f.lies base w := M.val h f (by simp)
theorem lie_nil (lo : Nat) (w : World) : lieAll lo w [] := fun f hf => by cases hf
theorem lie_cons {lo : Nat} {w : World} {f : Fld} {fs : List Fld} (h : f.lies lo w) (g : lieAll lo w fs) : lieAll lo w (f :: fs) := fun x hx => by
 rcases List.mem_cons.1 hx with rfl | hx
 ·exact h
 ·exact g x hx
theorem lie_i {lo : Nat} {w : World} {n : Int} (h : -9223372036854775808 ≤ n ∧ n ≤ 9223372036854775807) : (Fld.i n).lies lo w := h
theorem lies_nil (lo : Nat) (w : World) : (Fld.l none 0 []).lies lo w := ⟨by simp, by unfold maxLen; omega, .inl rfl⟩
end
theorem run_app0 {P : Program} {t ety : TypeId} {w : World} {la lb : Option Addr} {n lc c : Nat} {sz : Nat} (hu : P.underlying t = some (.slice ety)) (hi : (P.info? ety).map (·.size) = some sz) (hn : n ≤ lc) : (Builtin.append_ #[t, t] t #[.slice la n lc, .slice lb 0 c]).run P w = .ok (.slice la n lc) w := by
 cases hq : P.info? ety with
 | none => rw [hq] at hi; cases hi
 | some ii =>
  have : ii.size = sz := by rw [hq] at hi; simpa using hi
  cases la <;> cases lb <;> simp [Builtin.append_, run_underlying hu, sizeOf, typeInfo, hq, Builtin.lenOf, Builtin.firstCells, hn, loadCells, loadCellsFrom, storeCells]
section
variable {ops : Array Oper} {Q : Exit → Act → World → Prop} {a : Act} {w w' w0 : World} {rest : List Oper} {o : Oper} {N : Nat} {L : List (Nat × Value)}
variable {σ : Type} {X : σ → World → Prop} {T : Nat → Prop} {E : List Ent} {s : σ}
theorem sw_appG (F : Fm N L a) (M : Mm X T w0 E s w) (k : Nat) {i sz : Nat} {ty ety : TypeId} {x xs : Operand} {z v : Value} {es gss : List (List Fld)} {ad : Addr} {c : Nat} (h2 : Is o (some i) (.call { callee := .builtin .append, args := #[xs, x], argTypes := #[ty, ty] })) (ht : o.type = ty)
  (hx : opv L x = some (.slice (some ad) gss.length c)) (hs : opv L xs = some v) (kk : E[k]? = some (.row v ety sz es)) (hu : Tryd.prog.underlying ty = some (.slice ety)) (hi : (Tryd.prog.info? ety).map (fun i => (i.zero, i.size, decide (i.bytes ≤ 1000))) = some (some z, sz, true)) (hzs : z.cells.size = sz) (h0 : 0 < sz)
  (src : ∀ j u, (flatV gss)[j]? = some u → w.cell? (ad.add j) = some u) (hl : ∀ g ∈ gss, g.length = sz ∧ lieAll w0.heap.size w g) (hga : ∀ (i : Nat) (f : Ent) (b : Nat), E[i]? = some f → f.mut b → ∀ g ∈ gss, apartAll b g) (hn : es.length + gss.length ≤ 1000001) (hb : Nat.blt i N = true)
  (K : ∀ la lc a' w', Fm N ((i, .slice la (es ++ gss).length lc) :: L) a' → Mm X T w0 (E.set k (.row (.slice la (es ++ gss).length lc) ety sz (es ++ gss))) s w' → wpList Tryd.prog ops Q rest a' w') : wpList Tryd.prog ops Q (o :: rest) a w := by
 obtain ⟨la, lc, w', hrun, M2, hbel⟩ := M.mem.append (gss := gss) (a := ad) (c := c) kk hu hi hzs h0 src hl hga hn
 refine wpList_append_run h2.2.2 xs x ty h2.2.1 v (.slice (some ad) gss.length c) (.slice la (es.length + gss.length) lc) w' (F.ev hs) (F.ev hx) (by rw [ht]; exact hrun) ?_
 rw [h2.1]
 rw [← List.length_append] at M2 ⊢
 exact K la lc _ _ (F.put hb) (M.own hbel M2)
set_option maxRecDepth 20000 in
theorem sw_appRow (F : Fm N L a) (M : Mm X T w0 E s w) (k j : Nat) {i sz : Nat} {ty ety : TypeId} {x xs : Operand} {z v : Value} {es gss : List (List Fld)} {xb m c : Nat} (h2 : Is o (some i) (.call { callee := .builtin .append, args := #[xs, x], argTypes := #[ty, ty] })) (ht : o.type = ty)
  (hx : opv L x = some (.slice (some ⟨xb, 0, none⟩) m c)) (hs : opv L xs = some v) (hkj : k ≠ j) (kk : E[k]? = some (.row v ety sz es)) (jj : E[j]? = some (.row (.slice (some ⟨xb, 0, none⟩) m c) ety sz gss)) (hm : m = gss.length) (hu : Tryd.prog.underlying ty = some (.slice ety)) (hi : (Tryd.prog.info? ety).map (fun i => (i.zero, i.size, decide (i.bytes ≤ 1000))) = some (some z, sz, true)) (hzs : z.cells.size = sz) (h0 : Nat.blt 0 sz = true)
  (hn : es.length + gss.length ≤ 1000001) (hb : Nat.blt i N = true)
  (K : ∀ la lc a' w', Fm N ((i, .slice la (es ++ gss).length lc) :: L) a' → Mm X T w0 (E.set k (.row (.slice la (es ++ gss).length lc) ety sz (es ++ gss))) s w' → wpList Tryd.prog ops Q rest a' w') : wpList Tryd.prog ops Q (o :: rest) a w := by
 subst hm
 have r : RowG w0.heap.size ety sz (.slice (some ⟨xb, 0, none⟩) gss.length c) gss w := M.mem.at_ j _ jj
 refine sw_appG F M k h2 ht hx hs kk hu hi hzs (by simpa [Nat.blt_eq] using h0) (fun q u hq => ?_) (fun g hg => ⟨r.len g hg, r.lie g hg⟩) (fun i f b hf hm g hg => ?_) hn hb K
 ·rcases r.own.2 with ⟨e, _⟩ | ⟨g, cap, cur, e1, e2, e3, e4, e5, e6, e7⟩
  ·cases e
  ·injection e1 with e1 _ _
   injection e1 with e1
   injection e1 with e1 _ _
   subst e1
   have e0 : (⟨xb, 0, none⟩ : Addr).add q = ⟨xb, q, none⟩ := by simp [Addr.add]; omega
   rw [e0]
   have : cur.toList[q]? = some u := by
    rw [← e7] at hq
    rw [List.getElem?_take] at hq
    split at hq
    ·exact hq
    ·cases hq
   simp [World.cell?, e3]
   simpa using this
 ·by_cases hij : i = j
  ·subst hij
   rw [jj] at hf
   injection hf with hf
   subst hf
   exact r.out b hm g hg
  ·exact (M.mem.sep i j f _ b hij hf jj hm).2 g hg
end
theorem wrapJ (n : Int) (h1 : -9223372036854775808 ≤ n) (h2 : n ≤ 9223372036854775807) : IntKind.i64.wrap n = n := by
 simp [IntKind.wrap, IntKind.min, IntKind.max, IntKind.signed, IntKind.bits]
 omega
section
variable {P : Program} {ops ops0 : Array Oper} {Q : Exit → Act → World → Prop} {S : World → Prop} {a : Act} {w w0 : World} {rest : List Oper} {o : Oper} {N : Nat} {L : List (Nat × Value)} {md : Region.Mode} {fuel : Nat} {listed : Array Bool}
variable {σ : Type} {X : σ → World → Prop} {T : Nat → Prop} {E : List Ent} {s : σ}
theorem sw_callR {f : FuncId} {vs : List Value} {R : Ending → World → Prop} (hE : enters P f = true) (hc : Calls P f vs.toArray w R) (F : Fm N L a) {i : Nat} {xs : Array Operand} {ts : Array TypeId} (h : Is o (some i) (.call { callee := .value (.func f), args := xs, argTypes := ts })) (hv : opvs L xs.toList = some vs) (hi : Nat.blt i N = true)
  (K : ∀ e w', R e w' → ∃ v, e = .returned v ∧ ∀ a', Fm N ((i, v) :: L) a' → wpList P ops Q rest a' w') : wpList P ops Q (o :: rest) a w := by
 have e : xs.map a.eval = vs.toArray := by rw [← F.evs hv, ← List.map_toArray]
 refine ol_call h.2.2 hE h.2.1 e hc ?_
 intro e w' hR
 obtain ⟨v, rfl, hk⟩ := K e w' hR
 refine ⟨v, rfl, ?_⟩
 rw [h.1]
 exact hk _ (F.put hi)
theorem run_addi {t u : TypeId} {x y : Operand} {m n : Int} (ho : o.op = .binOp .add t x y u) (hx : a.eval x = .int .i64 m) (hy : a.eval y = .int .i64 n) (hb : -9223372036854775808 ≤ m + n ∧ m + n ≤ 9223372036854775807) : (execOp a.eval o).run P w = .ok (.value (.int .i64 (m + n))) w := by
 unfold execOp
 rw [ho]
 have hw : IntKind.i64.wrap (m + n) = m + n := wrapJ (m + n) (by omega) (by omega)
 simp [hx, hy, eqGuard_add, binOp_add, Op.intArith, hw]
theorem sw_add (F : Fm N L a) {i t u : Nat} {x y : Operand} {m n : Int} (h : Is o (some i) (.binOp .add t x y u)) (h1 : opv L x = some (.int .i64 m)) (h2 : opv L y = some (.int .i64 n)) (hb : -9223372036854775808 ≤ m + n ∧ m + n ≤ 9223372036854775807) (hi : Nat.blt i N = true) (K : ∀ a', Fm N ((i, .int .i64 (m + n)) :: L) a' → wpList P ops Q rest a' w) : wpList P ops Q (o :: rest) a w :=
 sw_val F h.1 h.2.2 hi (run_addi h.2.1 (F.ev h1) (F.ev h2) hb) K
end
end Go.Proofs.YtemjajljpoaioaaDoor
