import Derived.Test.YtpofgnlkhkednaaGreatDoorM20
namespace Go.Proofs.YtpofgnlkhkednaaGreatDoor
open Go.RowKit
set_option linter.unusedVariables false
set_option linter.unusedSimpArgs false
set_option maxRecDepth 20000
set_option maxHeartbeats 8000000
theorem rowsLie_src {lo : Nat} {w : World} {rb : Nat} : ∀ {es : List (List Fld)} {ro : Nat}, rowsLie lo w rb ro es → (∀ j u, (flatV es)[j]? = some u → w.cell? ⟨rb, ro + j, none⟩ = some u) ∧ ∀ d ∈ es, lieAll lo w d
 | [], ro, _ => ⟨fun j u h => by simp [flatV] at h, fun d hd => by cases hd⟩
 | e :: es, ro, h => by
  have cl : ∀ (fs : List Fld) (o : Nat), cellsLie lo w rb o fs → (∀ j u, (fs.map Fld.val)[j]? = some u → w.cell? ⟨rb, o + j, none⟩ = some u) ∧ lieAll lo w fs := by
   intro fs
   induction fs with
   | nil => intro o _; exact ⟨fun j u h => by simp at h, lie_nil _ _⟩
   | cons f fs ih =>
    intro o h;obtain ⟨h1, h2, h3⟩ := h;obtain ⟨q1, q2⟩ := ih (o + 1) h3;refine ⟨fun j u hj => ?_, lie_cons h2 q2⟩
    cases j with
    | zero => simp at hj; subst hj; exact h1
    | succ j =>
     have := q1 j u (by simpa using hj)
     rwa [show o + (j + 1) = o + 1 + j by omega]
  obtain ⟨a1, a2⟩ := cl e ro h.1;obtain ⟨b1, b2⟩ := rowsLie_src h.2;refine ⟨fun j u hj => ?_, fun d hd => ?_⟩
  ·rw [flatV] at hj
   by_cases hl : j < (e.map Fld.val).length
   ·rw [List.getElem?_append_left hl] at hj;exact a1 j u hj
   ·rw [List.getElem?_append_right (by omega)] at hj;have := b1 _ u hj;rw [List.length_map] at this hl
    rwa [show ro + e.length + (j - e.length) = ro + j by omega] at this
  ·rcases List.mem_cons.1 hd with rfl | hd
   ·exact a2
   ·exact b2 d hd
theorem rowsApart_of {b : Nat} : ∀ {es : List (List Fld)}, rowsApart b es → ∀ d ∈ es, apartAll b d
 | [], _, d, hd => by cases hd
 | e :: es, h, d, hd => by
  have cl : ∀ fs : List Fld, cellsApart b fs → apartAll b fs := by
   intro fs
   induction fs with
   | nil => intro _ f hf; cases hf
   | cons f fs ih =>
    intro h g hg;rcases List.mem_cons.1 hg with rfl | hg
    ·exact h.1
    ·exact ih h.2 g hg
  rcases List.mem_cons.1 hd with rfl | hd
  ·exact cl _ h.1
  ·exact rowsApart_of h.2 d hd
theorem run_app0 {P : Program} {t ety : TypeId} {w : World} {la lb : Option Addr} {n lc c : Nat} {sz : Nat} (hu : P.underlying t = some (.slice ety)) (hi : (P.info? ety).map (·.size) = some sz) (hn : n ≤ lc) : (Builtin.append_ #[t, t] t #[.slice la n lc, .slice lb 0 c]).run P w = .ok (.slice la n lc) w := by
 cases hq : P.info? ety with
 | none => rw [hq] at hi; cases hi
 | some ii =>
  have : ii.size = sz := by rw [hq] at hi; simpa using hi
  cases la <;> cases lb <;> simp [Builtin.append_, run_underlying hu, sizeOf, typeInfo, hq, Builtin.lenOf, Builtin.firstCells, hn, loadCells, loadCellsFrom, storeCells]
section
variable {ops : Array Oper} {Q : Exit → Act → World → Prop} {a : Act} {w w' w0 : World} {rest : List Oper} {o : Oper} {N : Nat} {L : List (Nat × Value)}
variable {σ : Type} {X : σ → World → Prop} {T : Nat → Prop} {E : List Ent} {s : σ}
theorem sw_appG (F : Fm N L a) (M : Mm X T w0 E s w) (k : Nat) {i sz : Nat} {ty ety : TypeId} {x xs : Operand} {z v : Value} {es gss : List (List Fld)} {ad : Addr} {c : Nat} (h2 : Is o (some i) (.call { callee := .builtin .append, args := #[xs, x], argTypes := #[ty, ty] })) (ht : o.type = ty)
  (hx : opv L x = some (.slice (some ad) gss.length c)) (hs : opv L xs = some v) (kk : E[k]? = some (.row v ety sz es)) (hu : Tryz.prog.underlying ty = some (.slice ety)) (hi : (Tryz.prog.info? ety).map (fun i => (i.zero, i.size, decide (i.bytes ≤ 1000))) = some (some z, sz, true)) (hzs : z.cells.size = sz) (h0 : 0 < sz)
  (src : ∀ j u, (flatV gss)[j]? = some u → w.cell? (ad.add j) = some u) (hl : ∀ g ∈ gss, g.length = sz ∧ lieAll w0.heap.size w g) (hga : ∀ (i : Nat) (f : Ent) (b : Nat), E[i]? = some f → f.mut b → ∀ g ∈ gss, apartAll b g) (hn : es.length + gss.length ≤ 1000001) (hb : Nat.blt i N = true)
  (K : ∀ la lc a' w', Fm N ((i, .slice la (es ++ gss).length lc) :: L) a' → Mm X T w0 (E.set k (.row (.slice la (es ++ gss).length lc) ety sz (es ++ gss))) s w' → wpList Tryz.prog ops Q rest a' w') : wpList Tryz.prog ops Q (o :: rest) a w := by
 obtain ⟨la, lc, w', hrun, M2, hbel⟩ := M.mem.append (gss := gss) (a := ad) (c := c) kk hu hi hzs h0 src hl hga hn;refine wpList_append_run h2.2.2 xs x ty h2.2.1 v (.slice (some ad) gss.length c) (.slice la (es.length + gss.length) lc) w' (F.ev hs) (F.ev hx) (by rw [ht]; exact hrun) ?_;rw [h2.1];rw [← List.length_append] at M2 ⊢;exact K la lc _ _ (F.put hb) (M.own hbel M2)
theorem sw_appRow (F : Fm N L a) (M : Mm X T w0 E s w) (k j : Nat) {i sz : Nat} {ty ety : TypeId} {x xs : Operand} {z v : Value} {es gss : List (List Fld)} {xb m c : Nat} (h2 : Is o (some i) (.call { callee := .builtin .append, args := #[xs, x], argTypes := #[ty, ty] })) (ht : o.type = ty)
  (hx : opv L x = some (.slice (some ⟨xb, 0, none⟩) m c)) (hs : opv L xs = some v) (hkj : k ≠ j) (kk : E[k]? = some (.row v ety sz es)) (jj : E[j]? = some (.row (.slice (some ⟨xb, 0, none⟩) m c) ety sz gss)) (hm : m = gss.length) (hu : Tryz.prog.underlying ty = some (.slice ety)) (hi : (Tryz.prog.info? ety).map (fun i => (i.zero, i.size, decide (i.bytes ≤ 1000))) = some (some z, sz, true)) (hzs : z.cells.size = sz) (h0 : Nat.blt 0 sz = true)
  (hn : es.length + gss.length ≤ 1000001) (hb : Nat.blt i N = true)
  (K : ∀ la lc a' w', Fm N ((i, .slice la (es ++ gss).length lc) :: L) a' → Mm X T w0 (E.set k (.row (.slice la (es ++ gss).length lc) ety sz (es ++ gss))) s w' → wpList Tryz.prog ops Q rest a' w') : wpList Tryz.prog ops Q (o :: rest) a w := by
 subst hm;have r : RowG w0.heap.size ety sz (.slice (some ⟨xb, 0, none⟩) gss.length c) gss w := M.mem.at_ j _ jj;refine sw_appG F M k h2 ht hx hs kk hu hi hzs (by simpa [Nat.blt_eq] using h0) (fun q u hq => ?_) (fun g hg => ⟨r.len g hg, r.lie g hg⟩) (fun i f b hf hm g hg => ?_) hn hb K
 ·rcases r.own.2 with ⟨e, _⟩ | ⟨g, cap, cur, e1, e2, e3, e4, e5, e6, e7⟩
  ·cases e
  ·injection e1 with e1 _ _
   injection e1 with e1
   injection e1 with e1 _ _
   subst e1;have e0 : (⟨xb, 0, none⟩ : Addr).add q = ⟨xb, q, none⟩ := by simp [Addr.add]; omega
   rw [e0]
   have : cur.toList[q]? = some u := by
    rw [← e7] at hq;rw [List.getElem?_take] at hq
    split at hq
    ·exact hq
    ·cases hq
   simp [World.cell?, e3]
   simpa using this
 ·by_cases hij : i = j
  ·subst hij;rw [jj] at hf;injection hf with hf
   subst hf;exact r.out b hm g hg
  ·exact (M.mem.sep i j f _ b hij hf jj hm).2 g hg
theorem sw_appVal (F : Fm N L a) (M : Mm X T w0 E s w) (k j : Nat) {i sz : Nat} {ty ety : TypeId} {x xs : Operand} {z : Value} {es gss : List (List Fld)} {lv : Option Addr} {nv cv : Nat} {lb : Option Addr} {m c : Nat} (h2 : Is o (some i) (.call { callee := .builtin .append, args := #[xs, x], argTypes := #[ty, ty] })) (ht : o.type = ty)
  (hx : opv L x = some (.slice lb m c)) (hs : opv L xs = some (.slice lv nv cv)) (kk : E[k]? = some (.row (.slice lv nv cv) ety sz es)) (jj : E[j]? = some (.val [.l lb c gss])) (hm : m = gss.length) (hu : Tryz.prog.underlying ty = some (.slice ety)) (hi : (Tryz.prog.info? ety).map (fun i => (i.zero, i.size, decide (i.bytes ≤ 1000))) = some (some z, sz, true)) (hzs : z.cells.size = sz) (h0 : Nat.blt 0 sz = true)
  (hlen : ∀ g ∈ gss, g.length = sz) (hn : es.length + gss.length ≤ 1000001) (hb : Nat.blt i N = true)
  (K : ∀ la lc a' w', Fm N ((i, .slice la (es ++ gss).length lc) :: L) a' → Mm X T w0 (E.set k (.row (.slice la (es ++ gss).length lc) ety sz (es ++ gss))) s w' → wpList Tryz.prog ops Q rest a' w') : wpList Tryz.prog ops Q (o :: rest) a w := by
 subst hm;have h0 : 0 < sz := by simpa [Nat.blt_eq] using h0
 obtain ⟨q1, q2, q3⟩ := M.mem.vallie j jj;have r : RowG w0.heap.size ety sz (.slice lv nv cv) es w := M.mem.at_ k _ kk
 have hnv : nv = es.length ∧ nv ≤ cv := by
  rcases r.own.2 with ⟨e, e'⟩ | ⟨g, cap, cur, e1, e2, e3, e4, e5⟩
  ·injection e with e1 e2 e3
   omega
  ·injection e1 with e1 e2 e3
   omega
 by_cases hg : gss = []
 ·subst hg;obtain ⟨ii, ii1, ii2, ii3, ii4⟩ := info_parts3 hi;refine wpList_append_run h2.2.2 xs x ty h2.2.1 (.slice lv nv cv) (.slice lb 0 c) (.slice lv nv cv) w (F.ev hs) (F.ev hx) (by rw [ht]; exact run_app0 hu (by rw [ii1]; rfl) hnv.2) ?_;rw [h2.1];have Kx := K lv cv (a.put (some i) (.slice lv nv cv)) w;rw [List.append_nil, ← hnv.1] at Kx;refine Kx (F.put hb) ?_
  have e : E.set k (.row (.slice lv nv cv) ety sz es) = E := by
   obtain ⟨hkl, hke⟩ := List.getElem?_eq_some_iff.1 kk;rw [← hke];exact List.set_getElem_self hkl
  rw [e];exact M
 ·rcases q3 with q3 | ⟨rb, ro, rfl, q4, q5, q6⟩
  ·exact absurd q3 hg
  ·obtain ⟨s1, s2⟩ := rowsLie_src q6;refine sw_appG F M k h2 ht hx hs kk hu hi hzs h0 (fun q u hq => ?_) (fun g hg => ⟨hlen g hg, s2 g hg⟩) (fun i f b hf hm g hgm => ?_) hn hb K
   ·have e0 : (⟨rb, ro, none⟩ : Addr).add q = ⟨rb, ro + q, none⟩ := by simp [Addr.add]
    rw [e0];exact s1 q u hq
   ·have := (M.mem.vals j jj).2 i f b hf hm (.l (some ⟨rb, ro, none⟩) c gss) (by simp);rcases this with e | ⟨rb', ro', e1, e2, e3⟩
    ·exact absurd e hg
    ·exact rowsApart_of e3 g hgm
end
theorem wrapJ (n : Int) (h1 : -9223372036854775808 ≤ n) (h2 : n ≤ 9223372036854775807) : IntKind.i64.wrap n = n := by
 simp [IntKind.wrap, IntKind.min, IntKind.max, IntKind.signed, IntKind.bits];omega
section
variable {P : Program} {ops ops0 : Array Oper} {Q : Exit → Act → World → Prop} {S : World → Prop} {a : Act} {w w0 : World} {rest : List Oper} {o : Oper} {N : Nat} {L : List (Nat × Value)} {md : Region.Mode} {fuel : Nat} {listed : Array Bool}
variable {σ : Type} {X : σ → World → Prop} {T : Nat → Prop} {E : List Ent} {s : σ}
theorem sw_mkf (F : Fm N L a) {i : Nat} {f : Fn} {xs ys : Array Operand} {vs : List Value} (h : Is o (some i) (.makeFunc f xs ys)) (hv : opvs L xs.toList = some vs) (hy : ys = #[]) (hi : Nat.blt i N = true) (K : ∀ a', Fm N ((i, .func f vs.toArray #[]) :: L) a' → wpList P ops Q rest a' w) : wpList P ops Q (o :: rest) a w := by
 subst hy;refine sw_val F h.1 h.2.2 hi ?_ K;unfold execOp;rw [h.2.1];have e : xs.map a.eval = vs.toArray := by rw [← F.evs hv, ← List.map_toArray]
 simp [Instr.makeFunc, e]
theorem sw_callv {f : FuncId} {v0 : List Value} {vs : List Value} {Post : Value → List Fld → σ → Prop} (hM : Meth P X T f (v0 ++ vs) s Post) (F : Fm N L a) (M : Mm X T w0 E s w) {i : Nat} {x : Operand} {xs : Array Operand} {ts : Array TypeId} (h : Is o (some i) (.call { callee := .value x, args := xs, argTypes := ts })) (hx : opv L x = some (.func (.func f) v0.toArray #[])) (hv : opvs L xs.toList = some vs) (hi : Nat.blt i N = true)
  (K : ∀ v fs s' a' w', Post v fs s' → Fm N ((i, v) :: L) a' → Mm X T w0 (.val fs :: E) s' w' → wpList P ops Q rest a' w') : wpList P ops Q (o :: rest) a w := by
 have e : xs.map a.eval = vs.toArray := by rw [← F.evs hv, ← List.map_toArray]
 have e2 := F.ev hx;refine wpList_plain h.2.2 fun KK hK => ?_
 have hrun : (execOp a.eval o).run P w = .ok (.enter f (v0 ++ vs).toArray) w := by
  unfold execOp;rw [h.2.1];simp [resolve, Deferred.ofValue, invoke, e2, e, run_enters hM.1]
 unfold Oper.wp;rw [hrun, Oper.upon_enter];refine (hM.2 w M.st (fun k q => Nat.lt_of_lt_of_le (M.lt k q) M.mem.le)).mono ?_;rintro e w' ⟨v, fs, s', rfl, hb, hx, hl, hp⟩;refine hK _ _ ?_;rw [h.1];exact K v fs s' _ w' hp (F.put hi) (M.ret hb hx hl)
theorem sw_callR {f : FuncId} {vs : List Value} {R : Ending → World → Prop} (hE : enters P f = true) (hc : Calls P f vs.toArray w R) (F : Fm N L a) {i : Nat} {xs : Array Operand} {ts : Array TypeId} (h : Is o (some i) (.call { callee := .value (.func f), args := xs, argTypes := ts })) (hv : opvs L xs.toList = some vs) (hi : Nat.blt i N = true)
  (K : ∀ e w', R e w' → ∃ v, e = .returned v ∧ ∀ a', Fm N ((i, v) :: L) a' → wpList P ops Q rest a' w') : wpList P ops Q (o :: rest) a w := by
 have e : xs.map a.eval = vs.toArray := by rw [← F.evs hv, ← List.map_toArray]
 refine ol_call h.2.2 hE h.2.1 e hc ?_;intro e w' hR;obtain ⟨v, rfl, hk⟩ := K e w' hR;refine ⟨v, rfl, ?_⟩;rw [h.1];exact hk _ (F.put hi)
theorem run_addi {t u : TypeId} {x y : Operand} {m n : Int} (ho : o.op = .binOp .add t x y u) (hx : a.eval x = .int .i64 m) (hy : a.eval y = .int .i64 n) (hb : -9223372036854775808 ≤ m + n ∧ m + n ≤ 9223372036854775807) : (execOp a.eval o).run P w = .ok (.value (.int .i64 (m + n))) w := by
 unfold execOp;rw [ho];have hw : IntKind.i64.wrap (m + n) = m + n := wrapJ (m + n) (by omega) (by omega);simp [hx, hy, eqGuard_add, binOp_add, Op.intArith, hw]
theorem sw_add (F : Fm N L a) {i t u : Nat} {x y : Operand} {m n : Int} (h : Is o (some i) (.binOp .add t x y u)) (h1 : opv L x = some (.int .i64 m)) (h2 : opv L y = some (.int .i64 n)) (hb : -9223372036854775808 ≤ m + n ∧ m + n ≤ 9223372036854775807) (hi : Nat.blt i N = true) (K : ∀ a', Fm N ((i, .int .i64 (m + n)) :: L) a' → wpList P ops Q rest a' w) : wpList P ops Q (o :: rest) a w :=
 sw_val F h.1 h.2.2 hi (run_addi h.2.1 (F.ev h1) (F.ev h2) hb) K
theorem sd_add (F : Fm N L a) (j : Nat) {i t u : Nat} {x y : Operand} {m n : Int} (hj : ops[j]? = some o) (h : Is o (some i) (.binOp .add t x y u)) (h1 : opv L x = some (.int .i64 m)) (h2 : opv L y = some (.int .i64 n)) (hb : -9223372036854775808 ≤ m + n ∧ m + n ≤ 9223372036854775807) (hs : Region.noSelect ops = true) (hf : Region.free md ops listed j = true) (hr : (Region.ready md ops listed).contains j = true) (hQ : ∀ c a w, Q (.panic c) (a.put (some i) (.int .i64 (m + n))) w → Q (.panic c) a w)
  (hi : Nat.blt i N = true) (hS : S w) (K : ∀ a', Fm N ((i, .int .i64 (m + n)) :: L) a' → wpAnyH P md ops Q S fuel (listed.setIfInBounds j true) a' w) : wpAnyH P md ops Q S (fuel + 1) listed a w :=
 sd_val F j hj hs hf hr hQ h.1 h.2.2 hi (fun w _ => run_addi h.2.1 (F.ev h1) (F.ev h2) hb) hS K
theorem sd_len (F : Fm N L a) (j : Nat) {i : Nat} {x : Operand} {t e : TypeId} {la : Option Addr} {n c : Nat} (hj : ops[j]? = some o) (h : Is o (some i) (.call { callee := .builtin .len, args := #[x], argTypes := #[t] })) (hv : opv L x = some (.slice la n c)) (hu : P.underlying t = some (.slice e)) (hs : Region.noSelect ops = true) (hf : Region.free md ops listed j = true) (hr : (Region.ready md ops listed).contains j = true) (hQ : ∀ c a w, Q (.panic c) (a.put (some i) (.int .i64 n)) w → Q (.panic c) a w)
  (hi : Nat.blt i N = true) (hS : S w) (K : ∀ a', Fm N ((i, .int .i64 n) :: L) a' → wpAnyH P md ops Q S fuel (listed.setIfInBounds j true) a' w) : wpAnyH P md ops Q S (fuel + 1) listed a w :=
 sd_val F j hj hs hf hr hQ h.1 h.2.2 hi (fun w _ => by
  unfold execOp;rw [h.2.1]
  simp [resolve, F.ev hv, invoke, builtin, Builtin.len_, run_underlying hu, goInt]) hS K
end
end Go.Proofs.YtpofgnlkhkednaaGreatDoor
