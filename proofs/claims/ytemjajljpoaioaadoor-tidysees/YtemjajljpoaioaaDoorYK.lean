import Derived.Test.YtemjajljpoaioaaDoorM13
import Derived.Test.YtemjajljpoaioaaDoorYS
import Derived.Test.YtemjajljpoaioaaDoorCPiece
namespace Go.Proofs.YtemjajljpoaioaaDoor
open Go.RowKit
set_option linter.unusedVariables false
set_option linter.unusedSimpArgs false
set_option maxRecDepth 20000
set_option maxHeartbeats 8000000
section
variable {P : Program} {ops : Array Oper} {Q : Exit → Act → World → Prop} {a : Act} {w w0 : World} {rest : List Oper} {o : Oper} {N : Nat} {L : List (Nat × Value)} {i t u : Nat} {x y : Operand} {σ : Type} {X : σ → World → Prop} {T : Nat → Prop} {E : List Ent} {s : σ}
theorem sw_rowtake (F : Fm N L a) {la : Option Addr} {lc n k sz e : Nat} {hi : Operand} (h : Is o (some i) (.slice t x none (some hi) none)) (h1 : opv L x = some (.slice la n lc)) (h2 : opv L hi = some (.int .i64 (k : Int))) (hk : k ≤ n) (hn : n ≤ lc) (hu : P.underlying t = some (.slice e)) (hz : (P.info? e).map (·.size) = some sz) (hi : Nat.blt i N = true) (K : ∀ a', Fm N ((i, .slice la k lc) :: L) a' → wpList P ops Q rest a' w) : wpList P ops Q (o :: rest) a w :=
 sw_val F h.1 h.2.2 hi (by
  unfold execOp; rw [h.2.1]
  cases hq : P.info? e with
  | none => rw [hq] at hz; cases hz
  | some ii =>
   rw [hq] at hz
   have hz : ii.size = sz := by injection hz
   have hkc : k ≤ lc := by omega
   by_cases h0 : lc = 0
   ·obtain rfl : k = 0 := by omega
    subst h0
    simp [F.ev h1, F.ev h2, Instr.sliceAt, Instr.slice, Instr.sliceBounds, Instr.sliceBound, asIntOf, run_underlying hu, hk, sizeOf, typeInfo, hq, hz]
   ·cases la <;> simp [F.ev h1, F.ev h2, Instr.sliceAt, Instr.slice, Instr.sliceBounds, Instr.sliceBound, asIntOf, run_underlying hu, hk, hkc, h0, sizeOf, typeInfo, hq, hz, Addr.add]) K
theorem sw_rowsub (F : Fm N L a) {g lc n k m sz e : Nat} {lo hi : Operand} (h : Is o (some i) (.slice t x (some lo) (some hi) none)) (h1 : opv L x = some (.slice (some ⟨g, 0, none⟩) n lc)) (h3 : opv L lo = some (.int .i64 (m : Int))) (h2 : opv L hi = some (.int .i64 (k : Int))) (hm : m ≤ k) (hml : m < lc) (hk : k ≤ lc) (hu : P.underlying t = some (.slice e)) (hz : (P.info? e).map (·.size) = some sz) (hi : Nat.blt i N = true) (K : ∀ a', Fm N ((i, .slice (some ⟨g, m * sz, none⟩) (k - m) (lc - m)) :: L) a' → wpList P ops Q rest a' w) : wpList P ops Q (o :: rest) a w :=
 sw_val F h.1 h.2.2 hi (by
  unfold execOp; rw [h.2.1]
  cases hq : P.info? e with
  | none => rw [hq] at hz; cases hz
  | some ii =>
   rw [hq] at hz
   have hz : ii.size = sz := by injection hz
   have hne : ¬ lc = m := by omega
   simp [F.ev h1, F.ev h2, F.ev h3, Instr.sliceAt, Instr.slice, Instr.sliceBounds, Instr.sliceBound, asIntOf, run_underlying hu, hk, hm, hne, sizeOf, typeInfo, hq, hz, Addr.add]
   try (intro q; exact q.symm)) K
theorem sw_sub (F : Fm N L a) {m n : Int} (h : Is o (some i) (.binOp .sub t x y u)) (h1 : opv L x = some (.int .i64 m)) (h2 : opv L y = some (.int .i64 n)) (hb : -9223372036854775808 ≤ m - n ∧ m - n ≤ 9223372036854775807) (hi : Nat.blt i N = true) (K : ∀ a', Fm N ((i, .int .i64 (m - n)) :: L) a' → wpList P ops Q rest a' w) : wpList P ops Q (o :: rest) a w :=
 sw_subw F h h1 h2 hi fun a' F' => K a' (by rw [wrapJ _ hb.1 hb.2] at F'; exact F')
theorem sw_atI (F : Fm N L a) (sz : Nat) {e : TypeId} {rb ro n c : Nat} {k : Int} (h : Is o (some i) (.indexAddr t x y)) (hx : opv L x = some (.slice (some ⟨rb, ro, none⟩) n c)) (hy : opv L y = some (.int .i64 k)) (hk : 0 ≤ k ∧ k.toNat < n) (hu : P.underlying t = some (.slice e)) (hs : (P.info? e).map (·.size) = some sz) (hi : Nat.blt i N = true) (K : ∀ a', Fm N ((i, .pointer (some ⟨rb, ro + k.toNat * sz, none⟩)) :: L) a' → wpList P ops Q rest a' w) : wpList P ops Q (o :: rest) a w :=
 sw_at F sz h hx (k := k.toNat) (by rw [hy, Int.toNat_of_nonneg hk.1]) hk.2 hu hs hi K
theorem sw_bget (F : Fm N L a) (M : Mm X T w0 E s w) (k : Nat) {b n : Nat} {ld : List Bool} {ty : TypeId} {z : Bool} (h : Is o (some i) (.load t x)) (hx : opv L x = some (.pointer (some ⟨b, n, none⟩))) (hk : E[k]? = some (.box b (ld.map Value.bool) ty)) (hc : ld[n]? = some z) (ht : cellT P t = true) (hi : Nat.blt i N = true) (K : ∀ a', Fm N ((i, .bool z) :: L) a' → wpList P ops Q rest a' w) : wpList P ops Q (o :: rest) a w :=
 sw_cell F M k h hx hk (by rw [List.getElem?_map, hc]; rfl) ht hi K
theorem sw_bset (F : Fm N L a) (M : Mm X T w0 E s w) (k : Nat) {b n : Nat} {ld : List Bool} {ty : TypeId} {z : Bool} (h : Is o none (.store t x y)) (hx : opv L x = some (.pointer (some ⟨b, n, none⟩))) (hv : opv L y = some (.bool z)) (hk : E[k]? = some (.box b (ld.map Value.bool) ty)) (hi : (P.info? t).map (·.size) = some 1) (hn : n < ld.length) (K : ∀ w', Mm X T w0 (E.set k (.box b ((ld.set n z).map Value.bool) ty)) s w' → wpList P ops Q rest a w') : wpList P ops Q (o :: rest) a w :=
 sw_set F M k h hx hv hk hi (by simpa [Nat.blt_eq] using hn) rfl rfl fun w' M' => K w' (by rw [List.map_set]; exact M')
theorem sw_iget (F : Fm N L a) (M : Mm X T w0 E s w) (k : Nat) {b n : Nat} {ld : List Nat} {ty : TypeId} {z : Nat} (h : Is o (some i) (.load t x)) (hx : opv L x = some (.pointer (some ⟨b, n, none⟩))) (hk : E[k]? = some (.box b (nats ld) ty)) (hc : ld[n]? = some z) (ht : cellT P t = true) (hi : Nat.blt i N = true) (K : ∀ a', Fm N ((i, .int .i64 (z : Int)) :: L) a' → wpList P ops Q rest a' w) : wpList P ops Q (o :: rest) a w :=
 sw_cell F M k h hx hk (by rw [nats, List.getElem?_map, hc]; rfl) ht hi K
theorem sw_iset (F : Fm N L a) (M : Mm X T w0 E s w) (k : Nat) {b n : Nat} {ld : List Nat} {ty : TypeId} {z : Nat} (h : Is o none (.store t x y)) (hx : opv L x = some (.pointer (some ⟨b, n, none⟩))) (hv : opv L y = some (.int .i64 (z : Int))) (hk : E[k]? = some (.box b (nats ld) ty)) (hi : (P.info? t).map (·.size) = some 1) (hn : n < ld.length) (K : ∀ w', Mm X T w0 (E.set k (.box b (nats (ld.set n z)) ty)) s w' → wpList P ops Q rest a w') : wpList P ops Q (o :: rest) a w :=
 sw_set F M k h hx hv hk hi (by simpa [Nat.blt_eq, nats] using hn) rfl rfl fun w' M' => K w' (by rw [nats, List.map_set]; exact M')
end
theorem RowG.take {lo : Nat} {e : TypeId} {sz : Nat} {la : Option Addr} {n lc : Nat} {es : List (List Fld)} {w : World} (h : RowG lo e sz (.slice la n lc) es w) (m : Nat) (hm : m ≤ n) : RowG lo e sz (.slice la m lc) (es.take m) w := by
 have hob : ∀ j, (Value.slice la j lc).ownBlock = (Value.slice la n lc).ownBlock := fun j => by cases la <;> rfl
 have hn : n = es.length := by
  rcases h.own.2 with ⟨q, q2⟩ | ⟨g, cap, cur, q, _⟩
  ·simp only [Value.slice.injEq] at q
   omega
  ·simp only [Value.slice.injEq] at q
   exact q.2.1
 subst hn
 have hl : (es.take m).length = m := by rw [List.length_take]; omega
 have hf : (flatV es).take (m * sz) = flatV (es.take m) := by
  have e1 : flatV es = flatV (es.take m) ++ flatV (es.drop m) := by rw [← flatV_app, List.take_append_drop]
  have e2 : (flatV (es.take m)).length = m * sz := by rw [flatV_len (sz := sz) fun d hd => h.len d (List.mem_of_mem_take hd), hl]
  rw [e1, List.take_append_of_le_length (by omega), List.take_of_length_le (by omega)]
 refine ⟨⟨?_, ?_⟩, fun d hd => h.lie d (List.mem_of_mem_take hd), fun b hb d hd => h.out b (by rw [← hob m]; exact hb) d (List.mem_of_mem_take hd), fun d hd => h.len d (List.mem_of_mem_take hd)⟩
 ·rw [hl, flatV_len (sz := sz) fun d hd => h.len d (List.mem_of_mem_take hd), hl]
 ·rw [hl]
  rcases h.own.2 with ⟨q, q2⟩ | ⟨g, cap, cur, q, e2, e3, e4, e5, e6, e7⟩
  ·left
   simp only [Value.slice.injEq] at q
   obtain ⟨rfl, _, rfl⟩ := q
   obtain rfl : m = 0 := by omega
   exact ⟨rfl, rfl⟩
  ·right
   simp only [Value.slice.injEq] at q
   obtain ⟨rfl, _, rfl⟩ := q
   refine ⟨g, lc, cur, rfl, e2, e3, by omega, e5, e6, ?_⟩
   rw [← hf, ← e7, List.take_take, Nat.min_eq_left (Nat.mul_le_mul_right sz hm)]
theorem Mm.takeR {σ : Type} {X : σ → World → Prop} {T : Nat → Prop} {w w0 : World} {E : List Ent} {s : σ} (M : Mm X T w0 E s w) (k m : Nat) {la : Option Addr} {n lc : Nat} {e : TypeId} {sz : Nat} {es : List (List Fld)} (h : E[k]? = some (.row (.slice la n lc) e sz es)) (hm : m ≤ n) : Mm X T w0 (E.set k (.row (.slice la m lc) e sz (es.take m))) s w := by
 have hob : (Value.slice la m lc).ownBlock = (Value.slice la n lc).ownBlock := by cases la <;> rfl
 have r : RowG w0.heap.size e sz (.slice la n lc) es w := M.mem.at_ k _ h
 exact M.own (Below.refl _ _) (M.mem.upd h (Nat.le_refl _) (r.take m hm) (fun _ _ _ => rfl) (fun b hb => .inl (by show (Value.slice la n lc).ownBlock = some b; rw [← hob]; exact hb)) fun j f b hj hf hb => by
  have := M.mem.sep j k f _ b hj hf h hb
  exact ⟨by rw [hob]; exact this.1, fun d hd => this.2 d (List.mem_of_mem_take hd)⟩)
theorem Mm.rowat {σ : Type} {X : σ → World → Prop} {T : Nat → Prop} {w w0 : World} {E : List Ent} {s : σ} (M : Mm X T w0 E s w) (k : Nat) {la : Option Addr} {n lc : Nat} {e : TypeId} {sz : Nat} {es : List (List Fld)} (h : E[k]? = some (.row (.slice la n lc) e sz es)) {j : Nat} {d : List Fld} (hj : es[j]? = some d) : ∃ g, la = some ⟨g, 0, none⟩ ∧ w.rangeAt g (0 + j * sz) (d.map Fld.val) := by
 have r : RowG w0.heap.size e sz (.slice la n lc) es w := M.mem.at_ k _ h
 rcases r.own.2 with ⟨q, q2⟩ | ⟨g, cap, cur, q, e2, e3, e4, e5, e6, e7⟩
 ·rw [List.length_eq_zero_iff.1 q2] at hj
  cases hj
 ·simp only [Value.slice.injEq] at q
  refine ⟨g, q.1, fun i v hv => ?_⟩
  have := flatVx_at es j d r.len hj i v hv
  rw [← e7, List.getElem?_take] at this
  split at this
  ·rw [Nat.zero_add]
   have hc : cur[j * sz + i]? = some v := by simpa using this
   simp [World.cell?, e3, hc]
  ·cases this
theorem Mm.rowlen {σ : Type} {X : σ → World → Prop} {T : Nat → Prop} {w w0 : World} {E : List Ent} {s : σ} (M : Mm X T w0 E s w) (k : Nat) {la : Option Addr} {n lc : Nat} {e : TypeId} {sz : Nat} {es : List (List Fld)} (h : E[k]? = some (.row (.slice la n lc) e sz es)) : n = es.length ∧ n ≤ lc := by
 have r : RowG w0.heap.size e sz (.slice la n lc) es w := M.mem.at_ k _ h
 rcases r.own.2 with ⟨q, q2⟩ | ⟨g, cap, cur, q, e2, e3, e4, _⟩
 ·simp only [Value.slice.injEq] at q; omega
 ·simp only [Value.slice.injEq] at q; omega
theorem Mm.unrow {σ : Type} {X : σ → World → Prop} {T : Nat → Prop} {w w0 : World} {E : List Ent} {s : σ} (M : Mm X T w0 E s w) (k : Nat) {la : Option Addr} {n lc : Nat} {e : TypeId} {sz : Nat} {es : List (List Fld)} (h : E[k]? = some (.row (.slice la n lc) e sz es)) (hne : es ≠ []) : ∃ g zs, la = some ⟨g, 0, none⟩ ∧ RxOk sz lc es zs ∧ Mm X T w0 (E.set k (.box g (flatV es ++ zs) e)) s w := by
 have r : RowG w0.heap.size e sz (.slice la n lc) es w := M.mem.at_ k _ h
 rcases r.own.2 with ⟨q, q2⟩ | ⟨g, cap, cur, q, e2, e3, e4, e5, e6, e7⟩
 ·exact absurd (List.length_eq_zero_iff.1 q2) hne
 ·simp only [Value.slice.injEq] at q
  obtain ⟨rfl, _, rfl⟩ := q
  have hc : flatV es ++ cur.toList.drop (es.length * sz) = cur.toList := by rw [← e7, List.take_append_drop]
  refine ⟨g, cur.toList.drop (es.length * sz), rfl, ⟨by rw [hc]; simpa using e6, r.len, e5⟩, M.own (Below.refl _ _) (M.mem.upd h (Nat.le_refl _) ⟨e2, by rw [hc]; simpa [Blk] using e3⟩ (fun _ _ _ => rfl) (fun b hb => .inl ?_) fun j f b hj hf hb => ?_)⟩
  ·obtain rfl : g = b := hb
   rfl
  ·have := (M.mem.sep j k f _ b hj hf h hb).1
   exact fun q => this (by rw [q]; rfl)
structure Body (w : World) (rb ro : Nat) (xs : List Ins) : Prop where
 lt : rb < w.heap.size
 at_ : ∀ (k : Nat) (i : Ins), xs[k]? = some i → w.rangeAt rb (ro + k * 3) [.int .i64 i.op, .int .i64 i.a, .int .i64 i.b]
 le : xs.length ≤ 2048
theorem Body.bx {w w' : World} {rb ro : Nat} {xs : List Ins} (h : Body w rb ro xs) (hb : Bx w () w') : Body w' rb ro xs :=
 ⟨Nat.lt_of_lt_of_le h.lt hb.size, fun k i hi j v hv => by rw [hb.cell (p := ⟨rb, _, none⟩) h.lt]; exact h.at_ k i hi j v hv, h.le⟩
theorem Mm.aft {w0 w w' : World} {E : List Ent} (M : Mm (Bx w0) (fun _ => False) w0 E () w) (hb : Below w.heap.size w w') : Mm (Bx w0) (fun _ => False) w0 E () w' :=
 M.unit (But.of_below hb) (M.st.trans (hb.mono M.mem.le))
theorem sw_two {P : Program} {a : Act} {w : World} {N : Nat} {L : List (Nat × Value)} (F : Fm N L a) {fn : Func} {i j : Nat} {v1 v2 : Value} {R : Ending → World → Prop} (hres : fn.results = #[.tmp i, .tmp j]) (h1 : lk i L = some v1) (h2 : lk j L = some v2) (hR : R (.returned (.tuple #[v1, v2])) w) : bodyPost P fn R .ret a w := by
 have at_ : ∀ q u, lk q L = some u → a.tmps[q]?.getD undef = u := fun q u hq => by
  have := F.2.2 q _ hq
  unfold Act.eval at this
  rw [← Array.getD_eq_getD_getElem?]
  exact this
 refine bodyPost_ret (v := .tuple #[v1, v2]) ?_ F.2.1 hR
 simp [results, hres, at_ i _ h1, at_ j _ h2]
section
variable {ops : Array Oper} {Q : Exit → Act → World → Prop} {a : Act} {w w0 : World} {rest : List Oper} {o : Oper} {N : Nat} {L : List (Nat × Value)} {i : Nat} {x y : Operand} {σ : Type} {X : σ → World → Prop} {T : Nat → Prop} {E : List Ent} {s : σ}
theorem sw_makeints (F : Fm N L a) (M : Mm X T w0 E s w) {n : Nat} (h : Is o (some i) (.makeSlice 37 x y)) (h1 : opv L x = some (.int .i64 ((n : Nat) : Int))) (hy : x = y) (hn : n ≤ 2049) (hi : Nat.blt i N = true) (K : ∀ g a' w', Fm N ((i, .slice (some ⟨g, 0, none⟩) n n) :: L) a' → Mm X T w0 (.box g (nats (List.replicate n 0)) 3 :: E) s w' → wpList Tryd.prog ops Q rest a' w') : wpList Tryd.prog ops Q (o :: rest) a w := by
 subst hy
 have e : nats (List.replicate n 0) = ints (List.replicate n 0) := by simp [nats, ints]
 have hr : (Instr.makeSlice 37 (.int .i64 n) (.int .i64 n)).run Tryd.prog w = .ok (.slice (some ⟨w.heap.size, 0, none⟩) n n) (w.alloc (.cells (ints (List.replicate n 0)).toArray 3)) := by
  obtain ⟨i0, hinf, hz0, hz1, hz2⟩ := info_parts infoInt
  have := run_make (P := Tryd.prog) w 37 3 i0 (.int .i64 0) Tryd.underlying37 hinf hz0 .i64 .i64 n n (by omega) (Int.le_refl _) (by rw [hz2]; omega) (by omega)
  rw [this, hz1]
  simp only [Int.toNat_natCast]
  rw [made_zero]
 refine sw_val F h.1 h.2.2 hi ?_ fun a' F' => K _ a' _ F' (by rw [e]; exact M.own ((Below.refl _ _).alloc M.mem.le _) (M.mem.new _ _))
 unfold execOp; rw [h.2.1]
 simp only [F.ev h1]
 rw [Sem.run_bind, hr]
 rfl
theorem infoBool : (Tryd.prog.info? 4).map (fun i => (i.zero, i.size, i.bytes)) = some (some (.bool false), 1, 1) := by kernel_rfl
theorem made_no (n : Nat) : madeCells (Value.bool false).cells (n * 1) = ((List.replicate n false).map Value.bool).toArray := by
 apply Array.ext
 ·simp [madeCells]
 ·intro i h1 h2
  simp [madeCells, Value.cells, Nat.mod_one]
theorem sw_makebools (F : Fm N L a) (M : Mm X T w0 E s w) {n : Nat} (h : Is o (some i) (.makeSlice 47 x y)) (h1 : opv L x = some (.int .i64 ((n : Nat) : Int))) (hy : x = y) (hn : n ≤ 2049) (hi : Nat.blt i N = true) (K : ∀ g a' w', Fm N ((i, .slice (some ⟨g, 0, none⟩) n n) :: L) a' → Mm X T w0 (.box g ((List.replicate n false).map Value.bool) 4 :: E) s w' → wpList Tryd.prog ops Q rest a' w') : wpList Tryd.prog ops Q (o :: rest) a w := by
 subst hy
 have hr : (Instr.makeSlice 47 (.int .i64 n) (.int .i64 n)).run Tryd.prog w = .ok (.slice (some ⟨w.heap.size, 0, none⟩) n n) (w.alloc (.cells ((List.replicate n false).map Value.bool).toArray 4)) := by
  obtain ⟨i0, hinf, hz0, hz1, hz2⟩ := info_parts infoBool
  have := run_make (P := Tryd.prog) w 47 4 i0 (.bool false) Tryd.underlying47 hinf hz0 .i64 .i64 n n (by omega) (Int.le_refl _) (by rw [hz2]; omega) (by omega)
  rw [this, hz1]
  simp only [Int.toNat_natCast]
  rw [made_no]
 refine sw_val F h.1 h.2.2 hi ?_ fun a' F' => K _ a' _ F' (M.own ((Below.refl _ _).alloc M.mem.le _) (M.mem.new _ _))
 unfold execOp; rw [h.2.1]
 simp only [F.ev h1]
 rw [Sem.run_bind, hr]
 rfl
end
end Go.Proofs.YtemjajljpoaioaaDoor
