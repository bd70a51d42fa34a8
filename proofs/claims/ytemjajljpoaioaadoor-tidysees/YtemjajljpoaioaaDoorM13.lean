import Derived.Test.YtemjajljpoaioaaDoorM11
import Derived.Test.YtemjajljpoaioaaDoorSShp
namespace Go.Proofs.YtemjajljpoaioaaDoor
open Go.RowKit
set_option linter.unusedVariables false
set_option linter.unusedSimpArgs false
set_option maxRecDepth 20000
set_option maxHeartbeats 8000000
def Bx (w0 : World) : Unit → World → Prop := fun _ u => Below w0.heap.size w0 u
theorem bx_begin {w0 w : World} (h : Bx w0 () w) : Mm (Bx w0) (fun _ => False) w [] () w :=
 Mm.begin h (fun _ q => q.elim) fun s u u' hb x => x.trans (hb.mono (by have := h.size; omega))
section
variable {ops : Array Oper} {Q : Exit → Act → World → Prop} {a : Act} {w w' : World} {rest : List Oper} {o : Oper} {N : Nat} {L : List (Nat × Value)} {i t u : Nat} {x y : Operand}
theorem run_ns {P : Program} {s : Key} (h : o.op = .binOp .neq t x y u) (h1 : a.eval x = .string (str s)) (h2 : a.eval y = .string (str s)) : (execOp a.eval o).run P w = .ok (.value (.bool false)) w := by
 unfold execOp; rw [h]; simp [h1, h2, eqGuard_at_string, binOp, Op.stringOp]
theorem run_nb {P : Program} {s : Bool} (hu : P.underlying t = some .bool) (h : o.op = .binOp .neq t x y u) (h1 : a.eval x = .bool s) (h2 : a.eval y = .bool s) : (execOp a.eval o).run P w = .ok (.value (.bool false)) w := by
 have n : (binOp .neq t (.bool s) (.bool s)).run P w = .ok (.bool false) w := by simp [go_sem, hu]
 unfold execOp; rw [h]; simp [h1, h2, eqGuard]; rw [n]; rfl
end
section
variable {P : Program} {md : Region.Mode} {ops : Array Oper} {Q : Exit → Act → World → Prop} {S : World → Prop} {a : Act} {w w0 : World} {o : Oper} {N : Nat} {L : List (Nat × Value)} {fuel : Nat} {listed : Array Bool} {rest : List Oper} {i t u : Nat} {x y : Operand}
theorem sw_ni {k : IntKind} {m : Int} (F : Fm N L a) (h : Is o (some i) (.binOp .neq t x y u)) (h1 : opv L x = some (.int k m)) (h2 : opv L y = some (.int k m)) (hi : Nat.blt i N = true) (K : ∀ a', Fm N ((i, .bool false) :: L) a' → wpList P ops Q rest a' w) : wpList P ops Q (o :: rest) a w :=
 sw_neq F h h1 h2 hi fun a' F' => K a' (by rw [show (m != m) = false from bne_self_eq_false m] at F'; exact F')
theorem sw_nn {k : IntKind} {m n : Int} (e : n = m) (F : Fm N L a) (h : Is o (some i) (.binOp .neq t x y u)) (h1 : opv L x = some (.int k m)) (h2 : opv L y = some (.int k n)) (hi : Nat.blt i N = true) (K : ∀ a', Fm N ((i, .bool false) :: L) a' → wpList P ops Q rest a' w) : wpList P ops Q (o :: rest) a w := by
 subst e
 exact sw_ni F h h1 h2 hi K
theorem sw_ns {s : Key} (F : Fm N L a) (h : Is o (some i) (.binOp .neq t x y u)) (h1 : opv L x = some (.string (str s))) (h2 : opv L y = some (.string (str s))) (hi : Nat.blt i N = true) (K : ∀ a', Fm N ((i, .bool false) :: L) a' → wpList P ops Q rest a' w) : wpList P ops Q (o :: rest) a w :=
 sw_val F h.1 h.2.2 hi (run_ns h.2.1 (F.ev h1) (F.ev h2)) K
theorem sw_nb {s : Bool} (hu : P.underlying t = some .bool) (F : Fm N L a) (h : Is o (some i) (.binOp .neq t x y u)) (h1 : opv L x = some (.bool s)) (h2 : opv L y = some (.bool s)) (hi : Nat.blt i N = true) (K : ∀ a', Fm N ((i, .bool false) :: L) a' → wpList P ops Q rest a' w) : wpList P ops Q (o :: rest) a w :=
 sw_val F h.1 h.2.2 hi (run_nb hu h.2.1 (F.ev h1) (F.ev h2)) K
theorem sd_rng (F : Fm N L a) (i : Nat) {d : Nat} {t : TypeId} {x : Operand} {b n : Nat} {cs : List Value} (hi : ops[i]? = some o) (h : Is o (some d) (.load t x)) (hv : opv L x = some (.pointer (some ⟨b, n, none⟩))) (ht : rowT P t = true) (hz : (P.info? t).map (·.size) = some cs.length) (hc : ∀ w, S w → w.rangeAt b n cs) (hs : Region.noSelect ops = true) (hf : Region.free md ops listed i = true) (hr : (Region.ready md ops listed).contains i = true) (hQ : ∀ c a w, Q (.panic c) (a.put (some d) (.agg cs.toArray)) w → Q (.panic c) a w)
  (hb : Nat.blt d N = true) (hS : S w) (K : ∀ a', Fm N ((d, .agg cs.toArray) :: L) a' → wpAnyH P md ops Q S fuel (listed.setIfInBounds i true) a' w) : wpAnyH P md ops Q S (fuel + 1) listed a w := by
 obtain ⟨ds, hu, hd⟩ := rowT_out ht
 exact sd_val F i hi hs hf hr hQ h.1 h.2.2 hb (fun w hw => by
  unfold execOp
  rw [h.2.1]
  have hld := run_loadVar_mid (P := P) w b n t cs ds (hc w hw) hu hd hz
  simp [F.ev hv, Instr.loadAt, Instr.sureAddr, hld]) hS K
end
theorem ShE.out {x : EV} (h : ShE x) : ∃ op n s es, x = exP op n s es ∧ ShL es := by
 cases h with
 | mk op n s es h => exact ⟨op, n, s, es, rfl, h⟩
def PaV (text : Key) (v : EV) (er : Int) : Prop :=
 (2048 < text.length ∧ v = ctP [] ([], [], []) ∧ er = 3) ∨
 (text.length ≤ 2048 ∧ ∃ (x : EV) (S' : ES), Rv parseM (st0 text) x S' ∧ ((S' = .error er ∧ er ≠ 0 ∧ v = ctP [] ([], [], [])) ∨ (∃ σ, S' = .ok σ ∧ er = 0 ∧ v = x)))
theorem PaV.one {text : Key} {v v' : EV} {er er' : Int} (h : PaV text v er) (k : PaV text v' er') : v = v' ∧ er = er' := by
 rcases h with ⟨h1, h2, h3⟩ | ⟨h1, x, S, h2, h3⟩
 ·rcases k with ⟨k1, k2, k3⟩ | ⟨k1, _⟩
  ·exact ⟨h2.trans k2.symm, h3.trans k3.symm⟩
  ·omega
 ·rcases k with ⟨k1, _⟩ | ⟨k1, y, T, k2, k3⟩
  ·omega
  ·obtain ⟨e1, e2⟩ := h2.det k2
   subst e1
   rcases h3 with ⟨rfl, h4, h5⟩ | ⟨σ, rfl, h4, h5⟩
   ·rcases k3 with ⟨k3, k4, k5⟩ | ⟨τ, k3, k4, k5⟩
    ·injection k3 with k3
     exact ⟨h5.trans k5.symm, k3⟩
    ·cases k3
   ·rcases k3 with ⟨k3, k4, k5⟩ | ⟨τ, k3, k4, k5⟩
    ·cases k3
    ·exact ⟨h5.trans ((e2 σ rfl).trans k5.symm), h4.trans k4.symm⟩
theorem sh_zero : ShC (ctP [] ([], [], [])) := ⟨[], [], [], [], rfl, AllP.nil, AllP.nil, AllP.nil⟩
theorem PaV.shape {text : Key} {v : EV} {er : Int} (h : PaV text v er) : ShC v := by
 rcases h with ⟨_, rfl, _⟩ | ⟨_, x, S, h2, ⟨_, _, rfl⟩ | ⟨σ, rfl, _, rfl⟩⟩
 ·exact sh_zero
 ·exact sh_zero
 ·exact Has.rv h2 parse_has
theorem PaE.out {text : Key} {w w' : World} {e : Ending} (h : PaE text w e w') : Below w.heap.size w w' ∧ ∃ nm a1 c1 e1 a2 c2 e2 a3 c3 e3 er, e = .returned (.tuple #[.agg ((ctF nm a1 c1 e1 a2 c2 e2 a3 c3 e3).map Fld.val).toArray, .int .i64 er]) ∧ lieAll w.heap.size w' (ctF nm a1 c1 e1 a2 c2 e2 a3 c3 e3) ∧ PaV text (pvAll (ctF nm a1 c1 e1 a2 c2 e2 a3 c3 e3)) er := by
 obtain ⟨hb, h⟩ := h
 refine ⟨hb, ?_⟩
 have hz : lieAll w.heap.size w' (ctF [] none 0 [] none 0 [] none 0 []) := lie_cons trivial (lie_cons (lies_nil _ _) (lie_cons (lies_nil _ _) (lie_cons (lies_nil _ _) (lie_nil _ _))))
 rcases h with ⟨h1, rfl⟩ | ⟨h1, x, S', h2, ⟨er, he, rfl, rfl⟩ | ⟨σ, nm, a1, c1, e1, a2, c2, e2, a3, c3, e3, rfl, rfl, rfl, hl⟩⟩
 ·exact ⟨[], none, 0, [], none, 0, [], none, 0, [], 3, rfl, hz, .inl ⟨h1, rfl, rfl⟩⟩
 ·exact ⟨[], none, 0, [], none, 0, [], none, 0, [], er, rfl, hz, .inr ⟨h1, x, _, h2, .inl ⟨rfl, he, rfl⟩⟩⟩
 ·exact ⟨nm, a1, c1, e1, a2, c2, e2, a3, c3, e3, 0, rfl, hl, .inr ⟨h1, _, _, h2, .inr ⟨σ, rfl, rfl, rfl⟩⟩⟩
theorem Mm.after {σ : Type} {X : σ → World → Prop} {T : Nat → Prop} {w0 w w' : World} {E : List Ent} {s : σ} (M : Mm X T w0 E s w) (hb : Below w.heap.size w w') : Mm X T w0 E s w' := M.own (hb.mono M.mem.le) (M.mem.hi (Hi.of_below hb))
theorem sw_extr {P : Program} {ops : Array Oper} {Q : Exit → Act → World → Prop} {a : Act} {w : World} {rest : List Oper} {o : Oper} {N : Nat} {L : List (Nat × Value)} (F : Fm N L a) {i j : Nat} {x : Operand} {vs : Array Value} {v : Value} (h : Is o (some i) (.extract x j)) (hx : opv L x = some (.tuple vs)) (hv : vs[j]? = some v) (hi : Nat.blt i N = true) (K : ∀ a', Fm N ((i, v) :: L) a' → wpList P ops Q rest a' w) : wpList P ops Q (o :: rest) a w :=
 ol_extract h.2.2 h.2.1 (F.ev hx) hv (by rw [h.1]; exact K _ (F.put hi))
theorem putAt_allY {vs : List Value} {cs : Array Value} (h : vs.length = cs.size) : putAt cs 0 vs = vs.toArray := by
 apply Array.ext_getElem?
 intro i
 by_cases hi : i < vs.length
 ·have := putAt_in vs cs 0 i (by omega) hi
  rw [Nat.zero_add] at this
  rw [this]
  simp
 ·rw [Array.getElem?_eq_none (by rw [putAt_size]; omega), Array.getElem?_eq_none (by simp; omega)]
theorem putAt_foldY : ∀ (l : List Value) (k : Nat) (cells : Array Value), (l.zipIdx k).foldl (fun cs (x : Value × Nat) => cs.setIfInBounds (0 + x.2) x.1) cells = putAt cells k l
 | [], k, cells => rfl
 | v :: r, k, cells => by
  rw [List.zipIdx_cons, List.foldl_cons, putAt_foldY r (k + 1)]
  rw [Nat.zero_add]
  rfl
theorem fold_allY (V cells : Array Value) (h : V.size = cells.size) : V.zipIdx.foldl (fun cs (x : Value × Nat) => cs.setIfInBounds (0 + x.2) x.1) cells = V := by
 rw [← Array.foldl_toList, Array.toList_zipIdx, putAt_foldY, putAt_allY (by simpa using h), Array.toArray_toList]
theorem run_slice1Y {P : Program} {w : World} {t e : TypeId} {z : Value} {n : Nat} (V : Value) (hu : P.underlying t = some (.slice e)) (hi : (P.info? e).map (fun i => (i.zero, i.size, decide (i.bytes ≤ 1000))) = some (some z, n, true)) (hzs : z.cells.size = n) (hn : 0 < n ∧ n ≤ 1000) (hV : V.cells.size = n) :
  (Instr.buildSlice t 1 #[(0, V)]).run P w = .ok (.slice (some ⟨w.heap.size, 0, none⟩) 1 1) (w.alloc (.cells V.cells e)) := by
 obtain ⟨i, hi1, hi2, hi3, hi4⟩ := info_parts3 hi
 have hf : Instr.fill (fun j => some (j * n, n)) ((Array.range (1 * n)).map (z.cells[· % z.cells.size]!)) [(0, V)] = some V.cells := by
  have hsz : ((Array.range (1 * n)).map (z.cells[· % z.cells.size]!)).size = n := by simp
  generalize (Array.range (1 * n)).map (z.cells[· % z.cells.size]!) = cells at hsz
  unfold Instr.fill
  simp only [Nat.zero_mul]
  rw [if_neg (by simp [hV, hsz])]
  unfold Instr.fill
  rw [fold_allY V.cells cells (by omega)]
 have h2 : ¬ (1 * n > 2 ^ 24) := by omega
 have h3 : ¬ (1 * n = 0) := by omega
 simp only [Instr.buildSlice, Sem.run_bind, run_underlying hu, Result.andThen_ok, sizeOf, typeInfo, zeroValue, run_program, hi1, hi2, hi3, Sem.run_pure, if_neg h2, if_neg h3, hf]
 simp [newRow]
structure RxOk (sz c : Nat) (es : List (List Fld)) (zs : List Value) : Prop where
 len : (flatV es ++ zs).length = c * sz
 each : ∀ d ∈ es, d.length = sz
 most : c ≤ maxLen
theorem RxOk.fits {sz c : Nat} {es : List (List Fld)} {zs : List Value} (h : RxOk sz c es zs) (h0 : 0 < sz) : es.length ≤ c := by
 have h1 := flatV_len h.each
 have h2 := h.len
 rw [List.length_append, h1] at h2
 exact Nat.le_of_mul_le_mul_right (show es.length * sz ≤ c * sz by omega) h0
theorem RxOk.zero (sz : Nat) : RxOk sz 0 [] [] := ⟨by simp [flatV], (fun d h => by cases h), by unfold maxLen; omega⟩
theorem flatVx_at {sz : Nat} : ∀ (es : List (List Fld)) (j : Nat) (d : List Fld), (∀ d ∈ es, d.length = sz) → es[j]? = some d → ∀ q v, (d.map Fld.val)[q]? = some v → (flatV es)[j * sz + q]? = some v
 | [], j, d, _, h => by simp at h
 | e :: es, 0, d, _, h => fun q v hq => by
  simp only [List.getElem?_cons_zero, Option.some.injEq] at h
  subst h
  rw [flatV, Nat.zero_mul, Nat.zero_add, List.getElem?_append_left (List.getElem?_eq_some_iff.1 hq).1]
  exact hq
 | e :: es, j + 1, d, hs, h => fun q v hq => by
  have hl := hs e (List.mem_cons_self ..)
  have := flatVx_at es j d (fun x hx => hs x (List.mem_cons_of_mem _ hx)) (by simpa using h) q v hq
  rw [flatV, List.getElem?_append_right (by rw [List.length_map, hl, Nat.add_mul]; omega), List.length_map, hl]
  rw [show (j + 1) * sz + q - sz = j * sz + q by rw [Nat.add_mul]; omega]
  exact this
theorem RxOk.set {sz c : Nat} {es : List (List Fld)} {zs : List Value} {j : Nat} {d d' : List Fld} (h : RxOk sz c es zs) (hj : es[j]? = some d) (hd : d'.length = sz) : RxOk sz c (es.set j d') zs := by
 have hm : ∀ x ∈ es.set j d', x.length = sz := fun x hx => by
  rcases List.mem_or_eq_of_mem_set hx with q | q
  ·exact h.each x q
  ·rw [q]; exact hd
 refine ⟨?_, hm, h.most⟩
 rw [List.length_append, flatV_len hm, List.length_set, ← flatV_len h.each, ← List.length_append]
 exact h.len
theorem Mem.appX {base : Nat} {L : List Ent} {w : World} {k sz c c2 g : Nat} {t ety : TypeId} {z : Value} {es gss : List (List Fld)} {zs : List Value} {ad : Addr} (M : Mem base L w) (kk : L[k]? = some (.box g (flatV es ++ zs) ety)) (ok : RxOk sz c es zs) (hu : Tryd.prog.underlying t = some (.slice ety)) (hi : (Tryd.prog.info? ety).map (fun i => (i.zero, i.size, decide (i.bytes ≤ 1000))) = some (some z, sz, true)) (hzs : z.cells.size = sz) (h0 : 0 < sz)
  (src : ∀ j u, (flatV gss)[j]? = some u → w.cell? (ad.add j) = some u) (hl : ∀ d ∈ gss, d.length = sz) (hn : es.length + gss.length ≤ 100000000000) :
  ∃ g' c' zs' w', (Builtin.append_ #[t, t] t #[.slice (some ⟨g, 0, none⟩) es.length c, .slice (some ad) gss.length c2]).run Tryd.prog w = .ok (.slice (some ⟨g', 0, none⟩) (es ++ gss).length c') w' ∧ RxOk sz c' (es ++ gss) zs' ∧ Mem base (L.set k (.box g' (flatV (es ++ gss) ++ zs') ety)) w' ∧ Below base w w' := by
 obtain ⟨ii, ii1, ii2, ii3, ii4⟩ := info_parts3 hi
 obtain ⟨kb, hb⟩ := M.box kk
 have hfl := flatV_len ok.each
 have own : w.ownsRow base ety sz (.slice (some ⟨g, 0, none⟩) es.length c) es.length (flatV es) := by
  refine ⟨hfl, .inr ⟨g, c, (flatV es ++ zs).toArray, rfl, hb, kb, ok.fits h0, ok.most, by simpa using ok.len, ?_⟩⟩
  rw [← hfl]
  simp
 have hby : (es.length + gss.length) * ii.bytes ≤ 140737488355328 := Nat.le_trans (Nat.mul_le_mul hn (of_decide_eq_true ii4)) (by omega)
 obtain ⟨v', w', h2, h3, h4, hnil, h5⟩ := run_append_own_at (P := Tryd.prog) w base t t ety ii z sz ii.bytes hu ii1 ii2 ii3 rfl hzs h0 _ es.length (flatV es) own ad gss.length c2 (flatV gss) (flatV_len hl) src flatV_one (by unfold maxLen; omega) hby M.le
 rcases h3.2 with ⟨q, _⟩ | ⟨g', c', cur, e1, e2, e3, e4, e5, e6, e7⟩
 ·have := (hnil.1 q).1
  cases this
 ·subst e1
  have hcur : flatV (es ++ gss) ++ cur.toList.drop ((es.length + gss.length) * sz) = cur.toList := by
   rw [flatV_app, ← e7, List.take_append_drop]
  have hgg : g' = g ∨ g' = w.heap.size := by
   rcases h5 with q | q
   ·exact .inl (Option.some.inj (show some g' = some g from q))
   ·exact .inr (Option.some.inj (show some g' = some w.heap.size from q))
  refine ⟨g', c', cur.toList.drop ((es.length + gss.length) * sz), w', ?_, ⟨?_, ?_, e5⟩, M.upd kk h4.size ⟨e2, ?_⟩ (fun j hj hm => h4.block j hj fun q => hm (by
   exact (Option.some.inj (show some j = some g from q)).symm)) (fun b hb => ?_) fun i f b hik hf hm => ?_, ⟨h4.os, h4.tape, h4.output, h4.size, fun j hj => h4.block j (by have := M.le; omega) fun q => ?_⟩⟩
  ·rw [List.length_append]
   exact h2
  ·rw [hcur]
   simpa using e6
  ·intro d hd
   rcases List.mem_append.1 hd with hd | hd
   ·exact ok.each d hd
   ·exact hl d hd
  ·rw [hcur]
   exact e3
  ·have hb : g' = b := hb
   rcases hgg with q | q
   ·exact .inl (q.symm.trans hb)
   ·exact .inr (by omega)
  ·show g' ≠ b
   rcases hgg with q | q
   ·rw [q]
    exact M.sep i k f _ b hik hf kk hm
   ·have := (Ent.mut_lt (M.at_ i f hf) hm).2
    omega
  ·have q : j = g := Option.some.inj (show some j = some g from q)
   omega
theorem rx_range {base : Nat} {L : List Ent} {w : World} {k sz c g j : Nat} {ety : TypeId} {es : List (List Fld)} {zs : List Value} {d : List Fld} (M : Mem base L w) (kk : L[k]? = some (.box g (flatV es ++ zs) ety)) (ok : RxOk sz c es zs) (hd : es[j]? = some d) : w.rangeAt g (0 + j * sz) (d.map Fld.val) := fun q v hv => by
 obtain ⟨kb, _⟩ := M.box kk
 have h1 := flatVx_at es j d ok.each hd q v hv
 rw [Nat.zero_add, kb.cell (j * sz + q)]
 rw [List.getElem?_toArray, List.getElem?_append_left (List.getElem?_eq_some_iff.1 h1).1]
 exact h1
theorem run_build0 {P : Program} (w : World) {t e : TypeId} {ie : TypeInfo} (hu : P.underlying t = some (.slice e)) (hie : P.info? e = some ie) : (Instr.buildSlice t 0 #[]).run P w = .ok (.slice (some ⟨w.heap.size, 0, none⟩) 0 0) (w.alloc (.cells #[] e)) := by
 have e0 : ∀ f : Nat → Value, (Array.range 0).map f = #[] := fun f => Array.eq_empty_of_size_eq_zero (by simp)
 simp [Instr.buildSlice, run_underlying hu, sizeOf, typeInfo, hie, Instr.fill, newRow]
 rw [e0]
section
variable {ops : Array Oper} {Q : Exit → Act → World → Prop} {a : Act} {w w' w0 : World} {rest : List Oper} {o : Oper} {N : Nat} {L : List (Nat × Value)}
variable {σ : Type} {X : σ → World → Prop} {T : Nat → Prop} {E : List Ent} {s : σ}
theorem sw_new0 (F : Fm N L a) (M : Mm X T w0 E s w) {i : Nat} {ty ety : TypeId} (h : Is o (some i) (.buildSlice ty 0 #[])) (hu : Tryd.prog.underlying ty = some (.slice ety)) (hi : (Tryd.prog.info? ety).isSome = true) (hb : Nat.blt i N = true) (K : ∀ x a' w', Fm N ((i, .slice (some ⟨x, 0, none⟩) 0 0) :: L) a' → Mm X T w0 (.box x [] ety :: E) s w' → wpList Tryd.prog ops Q rest a' w') : wpList Tryd.prog ops Q (o :: rest) a w := by
 obtain ⟨ie, hie⟩ := Option.isSome_iff_exists.1 hi
 refine wpList_plain h.2.2 fun KK hK => ?_
 unfold Oper.wp execOp
 rw [h.2.1]
 simp only [Array.map_empty, List.map_toArray, List.map_nil, Sem.run_bind, run_build0 w hu hie, Result.andThen_ok, Sem.run_pure]
 refine hK _ _ ?_
 rw [h.1]
 exact K w.heap.size _ _ (F.put hb) (M.own ((Below.refl _ _).alloc M.mem.le _) (M.mem.new [] ety))
theorem sw_appX (F : Fm N L a) (M : Mm X T w0 E s w) (k : Nat) {i sz c c2 g n m : Nat} {ty ety : TypeId} {x xs : Operand} {z : Value} {es gss : List (List Fld)} {zs : List Value} {ad : Addr} (h2 : Is o (some i) (.call { callee := .builtin .append, args := #[xs, x], argTypes := #[ty, ty] })) (ht : o.type = ty) (kk : E[k]? = some (.box g (flatV es ++ zs) ety)) (ok : RxOk sz c es zs)
  (hx : opv L x = some (.slice (some ad) m c2)) (hs : opv L xs = some (.slice (some ⟨g, 0, none⟩) n c)) (hn : n = es.length) (hm : m = gss.length) (hu : Tryd.prog.underlying ty = some (.slice ety)) (hi : (Tryd.prog.info? ety).map (fun i => (i.zero, i.size, decide (i.bytes ≤ 1000))) = some (some z, sz, true)) (hzs : z.cells.size = sz) (h0 : Nat.blt 0 sz = true)
  (src : ∀ j u, (flatV gss)[j]? = some u → w.cell? (ad.add j) = some u) (hl : ∀ d ∈ gss, d.length = sz) (hb9 : es.length + gss.length ≤ 100000000000) (hb : Nat.blt i N = true)
  (K : ∀ g' c' zs' a' w', RxOk sz c' (es ++ gss) zs' → Fm N ((i, .slice (some ⟨g', 0, none⟩) (es ++ gss).length c') :: L) a' → Mm X T w0 (E.set k (.box g' (flatV (es ++ gss) ++ zs') ety)) s w' → wpList Tryd.prog ops Q rest a' w') : wpList Tryd.prog ops Q (o :: rest) a w := by
 subst hn hm
 obtain ⟨g', c', zs', w', hrun, ok', M2, hbel⟩ := M.mem.appX (gss := gss) (ad := ad) (c2 := c2) kk ok hu hi hzs (by simpa [Nat.blt_eq] using h0) src hl hb9
 refine wpList_append_run h2.2.2 xs x ty h2.2.1 _ _ _ w' (F.ev hs) (F.ev hx) (by rw [ht]; exact hrun) ?_
 rw [h2.1]
 exact K g' c' zs' _ _ ok' (F.put hb) (M.own hbel M2)
end
end Go.Proofs.YtemjajljpoaioaaDoor
