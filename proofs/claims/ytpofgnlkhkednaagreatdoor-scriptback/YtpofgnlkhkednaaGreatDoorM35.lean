import Derived.Test.YtpofgnlkhkednaaGreatDoorM34
namespace Go.Proofs.YtpofgnlkhkednaaGreatDoor
open Go.RowKit
set_option linter.unusedVariables false
set_option linter.unusedSimpArgs false
set_option maxRecDepth 20000
set_option maxHeartbeats 8000000
def bysV (s : Key) : List Value := s.map fun b => .int .u8 b.toNat
theorem bysV_app (s t : Key) : bysV (s ++ t) = bysV s ++ bysV t := by simp [bysV]
theorem bysV_len (s : Key) : (bysV s).length = s.length := by simp [bysV]
theorem bys_str (s : Key) : Lib.strCells (str s) = bysV s := by simp [Lib.strCells, bysV, str]
theorem run_app_str {P : Program} {t u ty e : TypeId} {i : TypeInfo} (w : World) (ht : P.underlying t = some (.slice e)) (hu : P.underlying u = some .string) (hi : P.info? e = some i) (hz : i.zero = some (.int .u8 0)) (hsize : i.size = 1) (hby : i.bytes = 1)
  (base : Nat) (v : Value) (n : Nat) (xs : List Value) (hown : w.ownsRow base e 1 v n xs) (s : ByteArray) (hb : n + s.size ≤ 140737488355328) (hbase : base ≤ w.heap.size) :
  ∃ v' w', (Builtin.append_ #[t, u] ty #[v, .string s]).run P w = .ok v' w' ∧ w'.ownsRow base e 1 v' (n + s.size) (xs ++ Lib.strCells s) ∧ w.grownBy w' v.ownBlock ∧ ∀ b, v'.ownBlock = some b → v.ownBlock = some b ∨ w.heap.size ≤ b := by
 have h63 : n + s.size ≤ maxLen := by unfold maxLen; omega
 obtain ⟨v', w', hr, h1, h2, h3⟩ := Lib.run_append_own_string (P := P) w base t u ty e i ht hu hi hz hsize hby v n xs hown s h63 hb hbase;refine ⟨v', w', hr, h1, h2, fun b q => ?_⟩;have hxl : xs.length = n := by simpa using hown.1
 rcases hown.2 with ⟨rfl, rfl⟩ | ⟨g, cap, cur, rfl, hbg, hg, hnc, hcm, hcs, htake⟩
 ·have hx : xs = [] := List.eq_nil_of_length_eq_zero (by simpa using hxl);subst hx;obtain ⟨v2, w2, hr2, g1, _⟩ := Lib.run_append_own_string (P := P) w w.heap.size t u ty e i ht hu hi hz hsize hby _ 0 [] (World.ownsRow_nil w w.heap.size e 1) s h63 hb (Nat.le_refl _);rw [hr] at hr2;injection hr2 with e1 e2
  subst e1;exact .inr (raw_blk g1 q).1
 ·by_cases hroom : n + s.size ≤ cap
  ·have hcs' : cur.size = cap := by simpa using hcs
   have hr2 := Lib.run_append_room_string (P := P) w t u ty e i ht hu hi hsize g n cap cur hg s hroom (by omega);rw [hr] at hr2;injection hr2 with e1 e2
   subst e1;exact .inl q
  ·have holds : ∀ j u, xs[j]? = some u → w.cell? ((⟨g, 0, none⟩ : Addr).add j) = some u := hown.cells (g := g) rfl;have hs : n + s.size ≤ 9223372036854775807 := by omega
   have hr2 := Lib.run_append_grow_string (P := P) w t u ty e i (.int .u8 0) ht hu hi hz ⟨g, 0, none⟩ n cap xs (by rw [hsize]; simpa using hxl) holds s (by omega) (by omega) (by rw [hby]; exact growslice_fits (by omega) (by omega));rw [hr] at hr2;injection hr2 with e1 e2
   subst e1;have q : some w.heap.size = some b := q;injection q with q
   exact .inr (by omega)
theorem Mem.appRaw {base : Nat} {L : List Ent} {w w' : World} {k : Nat} {v v' : Value} {e : TypeId} {cs cs' : List Value} (M : Mem base L w) (kk : L[k]? = some (.raw v e cs)) (hown : w'.ownsRow base e 1 v' cs'.length cs') (hg : w.grownBy w' v.ownBlock) (hat : ∀ b, v'.ownBlock = some b → v.ownBlock = some b ∨ w.heap.size ≤ b) : Mem base (L.set k (.raw v' e cs')) w' ∧ Below base w w' := by
 have own : w.ownsRow base e 1 v cs.length cs := M.at_ k _ kk;refine ⟨M.upd kk hg.size hown (fun j hj hm => hg.block j hj fun q => hm q.symm) hat fun i f b hik hf hm q => ?_, ⟨hg.os, hg.tape, hg.output, hg.size, fun j hj => ?_⟩⟩
 ·rcases hat b q with q' | q'
  ·exact M.sep i k f (.raw v e cs) b hik hf kk hm q'
  ·have := (Ent.mut_lt (M.at_ i f hf) hm).2;omega
 ·have hle := M.le;refine hg.block j (by omega) fun q => ?_;have := (raw_blk own q.symm).1;omega
theorem raw_form {w : World} {base : Nat} {e : TypeId} {v : Value} {n : Nat} {xs : List Value} (h : w.ownsRow base e 1 v n xs) : ∃ a c, v = .slice a n c := by
 rcases h.2 with ⟨rfl, rfl⟩ | ⟨g, cap, cur, rfl, _⟩
 ·exact ⟨none, 0, rfl⟩
 ·exact ⟨_, _, rfl⟩
theorem info_raw {e : TypeId} (hi : (Tryz.prog.info? e).map (fun i => (i.zero, i.size, i.bytes)) = some (some (.int .u8 0), 1, 1)) : ∃ i, Tryz.prog.info? e = some i ∧ i.zero = some (.int .u8 0) ∧ i.size = 1 ∧ i.bytes = 1 := by
 cases h : Tryz.prog.info? e with
 | none => rw [h] at hi; cases hi
 | some i =>
  rw [h] at hi;simp only [Option.map_some, Option.some.injEq, Prod.mk.injEq] at hi;exact ⟨i, rfl, hi.1, hi.2.1, hi.2.2⟩
section
variable {ops : Array Oper} {Q : Exit → Act → World → Prop} {a : Act} {w w' w0 : World} {rest : List Oper} {o o1 o2 : Oper} {N : Nat} {L : List (Nat × Value)}
variable {σ : Type} {X : σ → World → Prop} {T : Nat → Prop} {E : List Ent} {s : σ}
theorem sw_appS (F : Fm N L a) (M : Mm X T w0 E s w) (k : Nat) {i n : Nat} {x y : Operand} {ty u ety : TypeId} {la : Option Addr} {lc : Nat} {t r : Key} (h : Is o (some i) (.call { callee := .builtin .append, args := #[x, y], argTypes := #[ty, u] })) (hx : opv L x = some (.slice la n lc)) (hy : opv L y = some (.string (str r))) (kk : E[k]? = some (.raw (.slice la t.length lc) ety (bysV t))) (hn : n = t.length) (hu : Tryz.prog.underlying ty = some (.slice ety)) (hs : Tryz.prog.underlying u = some .string) (hi : (Tryz.prog.info? ety).map (fun i => (i.zero, i.size, i.bytes)) = some (some (.int .u8 0), 1, 1)) (hb : t.length + r.length ≤ 140737488355328) (hN : Nat.blt i N = true)
  (K : ∀ la' lc' a' w', Fm N ((i, .slice la' (t ++ r).length lc') :: L) a' → Mm X T w0 (E.set k (.raw (.slice la' (t ++ r).length lc') ety (bysV (t ++ r)))) s w' → wpList Tryz.prog ops Q rest a' w') : wpList Tryz.prog ops Q (o :: rest) a w := by
 subst hn;obtain ⟨ii, i1, i2, i3, i4⟩ := info_raw hi;have own : w.ownsRow w0.heap.size ety 1 (.slice la t.length lc) (bysV t).length (bysV t) := M.mem.at_ k _ kk;rw [bysV_len] at own;obtain ⟨v', w', hr, h1, h2, h3⟩ := run_app_str (P := Tryz.prog) (ty := o.type) w hu hs i1 i2 i3 i4 _ _ _ _ own (str r) (by rw [str_size]; exact hb) M.mem.le;rw [str_size, bys_str, ← bysV_app, ← List.length_append] at h1;obtain ⟨la', lc', rfl⟩ := raw_form h1;refine wpList_plain h.2.2 fun K2 hK => ?_;unfold Oper.wp execOp;simp only [h.2.1, resolve, invoke, builtin, Sem.run_bind, Sem.run_pure, Result.andThen_ok, List.map_toArray, List.map_cons, List.map_nil, F.ev hx, F.ev hy, hr];refine hK _ _ ?_;rw [h.1];have q := M.mem.appRaw (cs' := bysV (t ++ r)) kk (by rw [bysV_len]; exact h1) h2 h3;exact K la' lc' _ _ (F.put hN) (M.own q.2 q.1)
theorem sw_appB (F : Fm N L a) (M : Mm X T w0 E s w) (k : Nat) (c : UInt8) {i1 i2 n : Nat} {x y : Operand} {ty ety : TypeId} {la : Option Addr} {lc : Nat} {t : Key} (h1 : Is o1 (some i1) (.buildSlice ty 1 #[(0, y)])) (h2 : Is o2 (some i2) (.call { callee := .builtin .append, args := #[x, .tmp i1], argTypes := #[ty, ty] })) (hx : ∀ u, opv ((i1, u) :: L) x = some (.slice la n lc)) (hy : opv L y = some (.int .u8 c.toNat)) (kk : E[k]? = some (.raw (.slice la t.length lc) ety (bysV t))) (hn : n = t.length) (hu : Tryz.prog.underlying ty = some (.slice ety)) (hi : (Tryz.prog.info? ety).map (fun i => (i.zero, i.size, i.bytes)) = some (some (.int .u8 0), 1, 1)) (hb : t.length + 1 ≤ 140737488355328) (hN : (Nat.blt i1 N && Nat.blt i2 N) = true)
  (K : ∀ la' lc' u a' w', Fm N ((i2, .slice la' (t ++ [c]).length lc') :: (i1, u) :: L) a' → Mm X T w0 (E.set k (.raw (.slice la' (t ++ [c]).length lc') ety (bysV (t ++ [c])))) s w' → wpList Tryz.prog ops Q rest a' w') : wpList Tryz.prog ops Q (o1 :: o2 :: rest) a w := by
 subst hn;obtain ⟨ii, i1', i2', i3, i4⟩ := info_raw hi;rw [Bool.and_eq_true] at hN;refine wpList_buildSlice h1.2.2 ty ety 1 _ h1.2.1 #[.int .u8 c.toNat] ii (.int .u8 0) hu i1' i2' (by rw [i3]; omega) (by rw [i3]; omega) ?_ ?_
 ·have e : ((#[(0, y)] : Array (Nat × Operand)).map fun (i, x) => (i, a.eval x)).toList = [(0, .int .u8 c.toNat)] := by
   simp [F.ev hy]
  rw [e, i3]
  have h : ∀ v : Value, Instr.fill (fun i => some (i * 1, 1)) (Array.map (fun x => (Value.int IntKind.u8 0).cells[x % (Value.int IntKind.u8 0).cells.size]!) (Array.range (1 * 1))) [(0, v)] = some (#[v] : Array Value) ∨ v.cells ≠ #[v] := fun v => by
   by_cases hv : v.cells = #[v]
   ·refine .inl ?_;simp [Instr.fill, hv];apply Array.ext
    ·simp
    ·intro i h1 h2;simp at h2;subst h2;simp
   ·exact .inr hv
  rcases h (.int .u8 c.toNat) with h | h
  ·exact h
  ·exact absurd rfl h
 rw [h1.1];have F1 := F.put (v := .slice (some ⟨w.heap.size, 0, none⟩) 1 1) hN.1
 generalize a.put (some i1) (.slice (some ⟨w.heap.size, 0, none⟩) 1 1) = a1 at *
 have bA : Below w.heap.size w (w.alloc (.cells #[.int .u8 c.toNat] ety)) := (Below.refl _ _).alloc (Nat.le_refl _) _;have kn := Blk.new w #[.int .u8 c.toNat] ety;have M1 := M.own ((Below.refl _ _).alloc M.mem.le (.cells #[.int .u8 c.toNat] ety)) (M.mem.hi (Hi.of_below bA));have e1 : a1.eval (.tmp i1) = .slice (some ⟨w.heap.size, 0, none⟩) 1 1 := F1.ev (by simp [opv, lk]);have own : (w.alloc (.cells #[.int .u8 c.toNat] ety)).ownsRow w0.heap.size ety 1 (.slice la t.length lc) (bysV t).length (bysV t) := M1.mem.at_ k _ kk;rw [bysV_len] at own
 obtain ⟨v', w', hr, g1, g2, _, g3⟩ := run_append_own_at (P := Tryz.prog) _ w0.heap.size ty o2.type ety ii (.int .u8 0) 1 1 hu i1' i2' i3 i4 rfl (by decide) _ t.length (bysV t) own ⟨w.heap.size, 0, none⟩ 1 1 [.int .u8 c.toNat] rfl (fun j u hj => by
  have q := kn.cell j;have e0 : (⟨w.heap.size, 0, none⟩ : Addr).add j = ⟨w.heap.size, j, none⟩ := by simp [Addr.add]; omega
  rw [e0, q]
  simpa using hj) (by intro u hu; rw [List.mem_singleton.1 hu]; rfl) (by unfold maxLen; omega) (by omega) M1.mem.le
 rw [show ([.int .u8 c.toNat] : List Value) = bysV [c] from rfl, ← bysV_app, show t.length + 1 = (t ++ [c]).length by simp] at g1;obtain ⟨la', lc', rfl⟩ := raw_form g1;refine wpList_plain h2.2.2 fun K2 hK => ?_;unfold Oper.wp execOp;simp only [h2.2.1, resolve, invoke, builtin, Sem.run_bind, Sem.run_pure, Result.andThen_ok, List.map_toArray, List.map_cons, List.map_nil, F1.ev (hx _), e1, hr];refine hK _ _ ?_;rw [h2.1]
 have q := M1.mem.appRaw (cs' := bysV (t ++ [c])) kk (by rw [bysV_len]; exact g1) g2 (fun b hb => by
  rcases g3 with z | z
  ·exact .inl (z.symm.trans hb)
  ·rw [z] at hb;injection hb with hb
   exact .inr (by omega))
 exact K la' lc' _ _ _ (F1.put hN.2) (M1.own q.2 q.1)
end
theorem Mem.rot {base : Nat} {a b c : Ent} {L : List Ent} {w : World} (M : Mem base (a :: b :: c :: L) w) : Mem base (b :: c :: a :: L) w := by
 have key : ∀ (j : Nat) (f : Ent), (b :: c :: a :: L)[j]? = some f → (a :: b :: c :: L)[if j = 0 then 1 else if j = 1 then 2 else if j = 2 then 0 else j]? = some f := fun j f h => by
  match j, h with
  | 0, h => simpa using h
  | 1, h => simpa using h
  | 2, h => simpa using h
  | j + 3, h => simpa using h
 refine ⟨M.le, fun i e h => M.at_ _ e (key i e h), fun i j e f x hij hi hj hm => M.sep _ _ e f x (fun q => hij ?_) (key i e hi) (key j f hj) hm⟩
 split at q <;> split at q <;> (try split at q) <;> (try split at q) <;> (try split at q) <;> (try split at q) <;> omega
theorem Mm.rot {σ : Type} {X : σ → World → Prop} {T : Nat → Prop} {w0 w : World} {a b c : Ent} {E : List Ent} {s : σ} (M : Mm X T w0 (a :: b :: c :: E) s w) : Mm X T w0 (b :: c :: a :: E) s w := ⟨M.lt, M.stb, M.but, M.mem.rot, M.st⟩
def wrC (la : Option Addr) (lc : Nat) (t : Key) (p : PS) : List Value := [.slice la t.length lc, .int .i64 p.lv, .bool p.fr, .bool (decide (32 < p.mx))]
def WrI (b : Nat) (W0 w0 : World) (E : List Ent) (p : PS) (la : Option Addr) (lc : Nat) (t : Key) (w : World) : Prop := Mm (Bx W0) (fun _ => False) w0 (.box b (wrC la lc t p) 45 :: .raw (.slice la t.length lc) 5 (bysV t) :: E) () w
def WrS (b : Nat) (W0 w0 : World) (E : List Ent) (p : PS) (w : World) : Prop := ∃ la lc t, WrI b W0 w0 E p la lc t w ∧ TxOk t p.tx
theorem WrS.bx {b : Nat} {W0 w0 : World} {E : List Ent} {p : PS} {w : World} (R : WrS b W0 w0 E p w) : Bx W0 () w := by
 obtain ⟨la, lc, t, M, _⟩ := R;exact M.st
theorem WrS.tl {b : Nat} {W0 w0 : World} {e : Ent} {E : List Ent} {p : PS} {w : World} (R : WrS b W0 w0 (e :: E) p w) : WrS b W0 w0 E p w := by
 obtain ⟨la, lc, t, M, h⟩ := R;exact ⟨la, lc, t, M.drop 2 rfl, h⟩
def WrM (b : Nat) (W0 : World) (f : FuncId) (vs : List Value) (l : List PEv) : Prop := enters Tryz.prog f = true ∧ ∀ w0 E p w, WrS b W0 w0 E p w → Fit p l → Calls Tryz.prog f vs.toArray w fun e w' => e = .returned (.tuple #[]) ∧ WrS b W0 w0 E (p.run l) w'
section
variable {ops : Array Oper} {Q : Exit → Act → World → Prop} {a : Act} {w w' w0 W0 : World} {rest : List Oper} {o o1 o2 : Oper} {N : Nat} {L : List (Nat × Value)} {E : List Ent} {b : Nat} {p : PS}
theorem sw_callW {f : FuncId} {vs : List Value} {l : List PEv} (hM : WrM b W0 f vs l) (F : Fm N L a) (R : WrS b W0 w0 E p w) (ft : Fit p l) {i : Nat} {xs : Array Operand} {ts : Array TypeId} (h : Is o (some i) (.call { callee := .value (.func f), args := xs, argTypes := ts })) (hv : opvs L xs.toList = some vs) (hi : Nat.blt i N = true)
  (K : ∀ a' w', Fm N ((i, .tuple #[]) :: L) a' → WrS b W0 w0 E (p.run l) w' → wpList Tryz.prog ops Q rest a' w') : wpList Tryz.prog ops Q (o :: rest) a w := by
 have e : xs.map a.eval = vs.toArray := by
  rw [← F.evs hv, ← List.map_toArray]
 refine ol_call h.2.2 hM.1 h.2.1 e (hM.2 w0 E p w R ft) ?_;rintro e w' ⟨rfl, R'⟩;refine ⟨_, rfl, ?_⟩;rw [h.1];exact K _ w' (F.put hi) R'
end
theorem long_m (b : Nat) (W0 : World) : enters Tryz.prog 12 = true ∧ ∀ w0 E p la lc t w, WrI b W0 w0 E p la lc t w → Calls Tryz.prog 12 ([ptr b] : List Value).toArray w fun e w' => e = .returned (.bool (decide ((2048 : Int) < (t.length : Int)))) ∧ WrI b W0 w0 E p la lc t w' := by
 refine ⟨by kernel_rfl, fun w0 E p la lc t w M => ?_⟩;unfold WrI wrC at M;refine sw_fn Tryz.func12 rfl 9 Tryz.ntmps12 rfl fun A F => ?_;refine sq (rg ?_);refine as1 F fun A F=>?_;refine en (sq (rg ?_));refine mv F fun A F=>?_;refine ni F fun A F=>?_;refine fl F 0 fun A F=>?_;refine ce F M 0 fun A F=>?_;refine sw_len F ⟨rfl, rfl, rfl⟩ rfl Tryz.underlying43 rfl fun A F => ?_;refine gti F fun A F=>?_;refine as1 F fun A F=>?_;refine en (wp_ret ?_);repeat first|refine tr ?_|refine br ?_
 exact sw_rettmp F Tryz.results12 rfl ⟨rfl, M⟩
theorem run_room (p : PS) (m n : Int) : p.run (if n < m then farV else []) = ⟨p.tx, p.lv, p.mx, p.fr || decide (n < m), p.od⟩ := by
 by_cases h : n < m
 ·rw [if_pos h, decide_eq_true h, Bool.or_true]; rfl
 ·rw [if_neg h, decide_eq_false h, Bool.or_false]; rfl
theorem wroom_m (b : Nat) (W0 : World) (m n : Int) : WrM b W0 29 [ptr b, .int .i64 m, .int .i64 n] (if n < m then farV else []) := by
 refine ⟨by kernel_rfl, fun w0 E p w R ft => ?_⟩;obtain ⟨la, lc, t, M, ht⟩ := R;unfold WrI wrC at M;refine sw_fn Tryz.func29 rfl 18 Tryz.ntmps29 rfl fun A F => ?_;refine rg ?_;refine mv F fun A F=>?_;refine mv F fun A F=>?_;refine ni F fun A F=>?_;refine fl F 2 fun A F=>?_;refine ce F M 0 fun A F=>?_;refine mv F fun A F=>?_
 cases c1 : (p.fr) with
 | true =>
  rw [c1] at F;refine off3 F 5 5 5 fun A F=>?_;refine pkT F fun A F=>?_;refine ni F fun A F=>?_;refine fl F 2 fun A F=>?_;refine st1 F M 0 fun w M=>?_;dsimp only [List.set] at M;refine sw_end ?_;repeat first|refine tn ?_|refine bn ?_
  exact sw_endnone F Tryz.results29 ⟨rfl, la, lc, t, by unfold WrI wrC; rw [run_room]; rw [show (p.fr || decide (n < m)) = true by rw [c1]; rfl]; exact M, by rw [run_room]; exact ht⟩
 | false =>
  rw [c1] at F;refine on' F 5 ?_;refine mv F fun A F=>?_;refine on' F 5 ?_;refine mv F fun A F=>?_;refine on' F 5 ?_;refine gti F fun A F=>?_;refine pkF F fun A F=>?_;refine ni F fun A F=>?_;refine fl F 2 fun A F=>?_;refine st1 F M 0 fun w M=>?_;dsimp only [List.set] at M;refine sw_end ?_;repeat first|refine tn ?_|refine bn ?_
  exact sw_endnone F Tryz.results29 ⟨rfl, la, lc, t, by unfold WrI wrC; rw [run_room]; rw [show (p.fr || decide (n < m)) = decide (n < m) by rw [c1]; rfl]; exact M, by rw [run_room]; exact ht⟩
theorem deeper_m (b : Nat) (W0 : World) : WrM b W0 70 [ptr b] upV := by
 refine ⟨by kernel_rfl, fun w0 E p w R ft => ?_⟩;obtain ⟨la, lc, t, M, ht⟩ := R;unfold WrI wrC at M;have hb0 : Rm p 0 := Rm.less ft (Nat.zero_le _);obtain ⟨_, hb1, hb2, hb3, hb4⟩ := hb0;refine sw_fn Tryz.func70 rfl 23 Tryz.ntmps70 rfl fun A F => ?_;refine sq (rg ?_);refine mv F fun A F=>?_;refine ni F fun A F=>?_;refine fl F 1 fun A F=>?_;refine ce F M 0 fun A F=>?_;refine sw_add F ⟨rfl, rfl, rfl⟩ rfl rfl (by omega) rfl fun A F => ?_;refine ni F fun A F=>?_;refine fl F 1 fun A F=>?_;refine st1 F M 0 fun w M=>?_;dsimp only [List.set] at M;refine en (rg ?_);refine mv F fun A F=>?_;refine mv F fun A F=>?_;refine ni F fun A F=>?_;refine fl F 3 fun A F=>?_;refine ce F M 0 fun A F=>?_;refine mv F fun A F=>?_
 cases c1 : (decide (32 < p.mx)) with
 | true =>
  rw [c1] at F;refine off4 F 5 5 5 5 fun A F=>?_;refine off F 5 fun A F=>?_;refine pkT F fun A F=>?_;refine ni F fun A F=>?_;refine fl F 3 fun A F=>?_;refine st1 F M 0 fun w M=>?_;dsimp only [List.set] at M;refine sw_end ?_;repeat first|refine tn ?_|refine bn ?_
  exact sw_endnone F Tryz.results70 ⟨rfl, la, lc, t, by unfold WrI wrC; rw [up_is]; rw [show decide ((32 : Int) < max p.mx (p.lv + 1)) = true by have q := of_decide_eq_true c1; exact decide_eq_true (by omega)]; exact M, ht⟩
 | false =>
  rw [c1] at F;refine on' F 5 ?_;refine mv F fun A F=>?_;refine on' F 5 ?_;refine ni F fun A F=>?_;refine on' F 5 ?_;refine fl F 1 fun A F=>?_;refine on' F 5 ?_;refine ce F M 0 fun A F=>?_;refine on' F 5 ?_;refine gti F fun A F=>?_;refine pkF F fun A F=>?_;refine ni F fun A F=>?_;refine fl F 3 fun A F=>?_;refine st1 F M 0 fun w M=>?_;dsimp only [List.set] at M;refine sw_end ?_;repeat first|refine tn ?_|refine bn ?_
  exact sw_endnone F Tryz.results70 ⟨rfl, la, lc, t, by unfold WrI wrC; rw [up_is]; rw [show decide ((32 : Int) < max p.mx (p.lv + 1)) = decide ((32 : Int) < p.lv + 1) by have q := of_decide_eq_false c1; rw [decide_eq_decide]; omega]; exact M, ht⟩
theorem tok_cell {base : Nat} {L : List Ent} {w : World} {j x n e k : Nat} {toks : List Key} {s : Key} (M : Mem base L w) (hj : L[j]? = some (.row (.slice (some ⟨x, 0, none⟩) n n) e 1 (toks.map fun s => [.s s]))) (hs : toks[k]? = some s) : w.cell? ⟨x, k, none⟩ = some (.string (str s)) := by
 have r : RowG base e 1 (.slice (some ⟨x, 0, none⟩) n n) (toks.map fun s => [.s s]) w := M.at_ j _ hj
 have f : ∀ l : List Key, flatV (l.map fun s => [.s s]) = l.map fun s => Value.string (str s) := fun l => by
  induction l with
  | nil => rfl
  | cons a l ih => rw [List.map_cons, flatV, ih]; rfl
 have q := r.own.cells (g := x) rfl k (.string (str s)) (by rw [f, List.getElem?_map, hs]; rfl);have e0 : (⟨x, 0, none⟩ : Addr).add k = ⟨x, k, none⟩ := by simp [Addr.add]; omega
 rw [e0] at q;exact q
theorem fit_tok {p : PS} {toks : List Key} (ft : Fit p (toks.map .tok)) {s : Key} (h : s ∈ toks) : s.length ≤ 1099511627776 := by
 have h1 := ft.1
 have : ∀ l : List Key, s ∈ l → s.length ≤ wtV (l.map .tok) := fun l => by
  induction l with
  | nil => intro h; cases h
  | cons a l ih =>
   intro h;show s.length ≤ (a.length + 1) + wtV (l.map .tok);rcases List.mem_cons.1 h with rfl | h
   ·omega
   ·have := ih h; omega
 have := this toks h;omega
theorem tok_same : ∀ (l : List Key) (p : PS), (p.run (l.map .tok)).lv = p.lv ∧ (p.run (l.map .tok)).mx = p.mx ∧ (p.run (l.map .tok)).fr = p.fr
 | [], p => ⟨rfl, rfl, rfl⟩
 | s :: l, p => by
  rw [List.map_cons, PS.run_cons];exact tok_same l (p.step (.tok s))
theorem wrC_tok (la : Option Addr) (lc : Nat) (t : Key) (p : PS) (l : List Key) : wrC la lc t (p.run (l.map .tok)) = wrC la lc t p := by
 obtain ⟨h1, h2, h3⟩ := tok_same l p;unfold wrC;rw [h1, h2, h3]
theorem say_next {p : PS} {toks : List Key} {k : Nat} {s t : Key} (hs : toks[k]? = some s) (h : TxOk t (p.run ((toks.take k).map .tok)).tx) (hl : ¬ 2048 < t.length) : TxOk (sayK t s) (p.run ((toks.take (k + 1)).map .tok)).tx := by
 rw [List.take_add_one, hs, List.map_append, PS.run_app];have := h.say s;rw [sayW, if_neg hl] at this;exact this
theorem long_run : ∀ (l : List Key) {p : PS} {t : Key}, TxOk t p.tx → 2048 < t.length → TxOk t (p.run (l.map .tok)).tx
 | [], p, t, h, _ => h
 | s :: l, p, t, h, hl => by
  rw [List.map_cons, PS.run_cons];refine long_run l (p := p.step (.tok s)) ?_ hl;have := h.say s;rw [sayW, if_pos hl] at this;exact this
theorem say_rest {p : PS} {toks : List Key} {k : Nat} {t : Key} (h : TxOk t (p.run ((toks.take k).map .tok)).tx) (hl : 2048 < t.length) : TxOk t (p.run (toks.map .tok)).tx := by
 have := long_run (toks.drop k) h hl;rw [← PS.run_app, ← List.map_append, List.take_append_drop] at this;exact this
theorem say_m (b : Nat) (W0 : World) (toks : List Key) (x n : Nat) (hn : toks.length = n) (hn9 : n ≤ 1000) : enters Tryz.prog 30 = true ∧ ∀ w0 E p w, WrS b W0 w0 (.row (.slice (some ⟨x, 0, none⟩) n n) 9 1 (toks.map fun s => [.s s]) :: E) p w → Fit p (toks.map .tok) → Calls Tryz.prog 30 ([ptr b, .slice (some ⟨x, 0, none⟩) n n] : List Value).toArray w fun e w' => e = .returned (.tuple #[]) ∧ WrS b W0 w0 (.row (.slice (some ⟨x, 0, none⟩) n n) 9 1 (toks.map fun s => [.s s]) :: E) (p.run (toks.map .tok)) w' := by
 refine ⟨by kernel_rfl, fun w0 E p w R ft => ?_⟩;obtain ⟨la, lc, t, M, ht⟩ := R;unfold WrI wrC at M;refine sw_fn Tryz.func30 rfl 39 Tryz.ntmps30 rfl fun A F => ?_;refine sq (rg ?_);refine mv F fun A F=>?_;refine sw_len F ⟨rfl, rfl, rfl⟩ rfl Tryz.underlying92 rfl fun A F => ?_;refine mv F fun A F=>?_;refine en (wp_block ?_);refine wp_loop (fun A w => ∃ (k : Nat) (la : Option Addr) (lc : Nat) (t : Key), k ≤ n ∧ Fm 39 [(8, .int .i64 (k : Int)), (7, .int .i64 (n : Int)), (6, .slice (some ⟨x, 0, none⟩) n n), (0, ptr b)] A ∧ WrI b W0 w0 (.row (.slice (some ⟨x, 0, none⟩) n n) 9 1 (toks.map fun s => [.s s]) :: E) p la lc t w ∧ TxOk t (p.run ((toks.take k).map .tok)).tx) (fun A _ => n - (intOf (A.eval (.tmp 8))).toNat) ?_ ?_
 ·exact ⟨0, la, lc, t, Nat.zero_le _, F.keep [8, 7, 6, 0] rfl, M, ht⟩
 repeat clear F
 repeat clear M
 clear ht la lc t;rintro A w ⟨k, la, lc, t, hk, F, M, ht⟩;unfold WrI wrC at M;have hA4 : A.eval (.tmp 8) = .int .i64 (k : Int) := F.2.2 8 _ rfl;refine sq (rg ?_);refine lsi F fun A F=>?_;refine en (sq ?_);refine cd F (fun hc1=>?_) fun hc1=>?_
 ·replace hc1 := of_decide_eq_true hc1;have hkk : k < n := by omega
  obtain ⟨s, hs⟩ : ∃ s, toks[k]? = some s := ⟨_, List.getElem?_eq_getElem (by omega)⟩;refine wp_skip (sq ?_);refine wp_block ?_;refine sq (rg ?_);refine sw_at F 1 ⟨rfl, rfl, rfl⟩ rfl rfl hkk Tryz.underlying92 (by kernel_rfl) rfl fun A F => ?_;refine sw_ext F (show w.cell? ⟨x, 0 + k * 1, none⟩ = some (.string (str s)) by rw [Nat.zero_add, Nat.mul_one]; exact tok_cell (j := 2) M.mem rfl hs) ⟨rfl, rfl, rfl⟩ rfl (by kernel_rfl) rfl fun A F => ?_;refine as1 F fun A F=>?_;refine en (sq (sq (rg ?_)));refine mv F fun A F=>?_;refine sw_callR (long_m b W0).1 ((long_m b W0).2 w0 _ p la lc t w M) F ⟨rfl, rfl, rfl⟩ rfl rfl ?_;rintro e w ⟨rfl, M⟩;refine ⟨_, rfl, fun A F => ?_⟩;unfold WrI wrC at M;refine en (cd F (fun hc2=>?_) fun hc2=>?_)
  ·replace hc2 := of_decide_eq_true hc2;refine wp_ret ?_;repeat first|refine tr ?_|refine br ?_
   exact sw_retnone F Tryz.results30 ⟨rfl, la, lc, t, by unfold WrI; rw [wrC_tok]; exact M, say_rest ht (by omega)⟩
  replace hc2 := of_decide_eq_false hc2;refine wp_skip (sq (sq (rg ?_)));refine mv F fun A F=>?_;refine ni F fun A F=>?_;refine fl F 0 fun A F=>?_;refine ce F M 0 fun A F=>?_;refine sw_len F ⟨rfl, rfl, rfl⟩ rfl Tryz.underlying43 rfl fun A F => ?_;refine gti F fun A F=>?_;refine en (cd F (fun hc3=>?_) fun hc3=>?_)
  ·replace hc3 := of_decide_eq_true hc3;refine rg ?_;refine mv F fun A F=>?_;refine mv F fun A F=>?_;refine ni F fun A F=>?_;refine fl F 0 fun A F=>?_;refine ce F M 0 fun A F=>?_;refine sw_appB F M 1 32 ⟨rfl, rfl, rfl⟩ ⟨rfl, rfl, rfl⟩ (fun _ => rfl) rfl rfl rfl Tryz.underlying43 (by kernel_rfl) (by omega) rfl fun la4 lc5 _ A w F M => ?_;dsimp only [List.set] at M;refine ni F fun A F=>?_;refine fl F 0 fun A F=>?_;refine st1 F M 0 fun w M=>?_;dsimp only [List.set] at M;refine en (rg ?_);refine mv F fun A F=>?_;refine mv F fun A F=>?_;refine ni F fun A F=>?_;refine fl F 0 fun A F=>?_;refine ce F M 0 fun A F=>?_;refine mv F fun A F=>?_;refine sw_appS F M 1 ⟨rfl, rfl, rfl⟩ rfl rfl rfl rfl Tryz.underlying43 Tryz.underlying9 (by kernel_rfl) (by have := fit_tok ft (List.mem_of_getElem? hs); (try simp only [List.length_append, List.length_cons, List.length_nil]); omega) rfl fun la6 lc7 A w F M => ?_;dsimp only [List.set] at M;refine ni F fun A F=>?_;refine fl F 0 fun A F=>?_;refine st1 F M 0 fun w M=>?_;dsimp only [List.set] at M;refine en (rg ?_);refine sw_add F ⟨rfl, rfl, rfl⟩ rfl rfl (by omega) rfl fun A F => ?_;refine mv F fun A F=>?_;refine sw_end ?_
   have e2 : ((t ++ [32]) ++ s) = sayK t s := by
    rw [sayK, if_neg (by intro q; subst q; simp at hc3)]
   show _ ∧ _;refine ⟨⟨k + 1, la6, lc7, ((t ++ [32]) ++ s), by omega, F.keep [8, 7, 6, 0] rfl, M, by rw [e2]; exact say_next hs ht (by omega)⟩, ?_⟩;rw [(F.keep (N := 39) (L' := [(8, .int .i64 ((k + 1 : Nat) : Int))]) [8] rfl).2.2 8 (.int .i64 ((k + 1 : Nat) : Int)) rfl, hA4];simp only [intOf];omega
  replace hc3 := of_decide_eq_false hc3;refine wp_skip (rg ?_);refine mv F fun A F=>?_;refine mv F fun A F=>?_;refine ni F fun A F=>?_;refine fl F 0 fun A F=>?_;refine ce F M 0 fun A F=>?_;refine mv F fun A F=>?_;refine sw_appS F M 1 ⟨rfl, rfl, rfl⟩ rfl rfl rfl rfl Tryz.underlying43 Tryz.underlying9 (by kernel_rfl) (by have := fit_tok ft (List.mem_of_getElem? hs); (try simp only [List.length_append, List.length_cons, List.length_nil]); omega) rfl fun la8 lc9 A w F M => ?_;dsimp only [List.set] at M;refine ni F fun A F=>?_;refine fl F 0 fun A F=>?_;refine st1 F M 0 fun w M=>?_;dsimp only [List.set] at M;refine en (rg ?_);refine sw_add F ⟨rfl, rfl, rfl⟩ rfl rfl (by omega) rfl fun A F => ?_;refine mv F fun A F=>?_;refine sw_end ?_
  have e2 : (t ++ s) = sayK t s := by
   have q : t = [] := List.eq_nil_of_length_eq_zero (by omega);rw [sayK, if_pos q, q]
  show _ ∧ _;refine ⟨⟨k + 1, la8, lc9, (t ++ s), by omega, F.keep [8, 7, 6, 0] rfl, M, by rw [e2]; exact say_next hs ht (by omega)⟩, ?_⟩;rw [(F.keep (N := 39) (L' := [(8, .int .i64 ((k + 1 : Nat) : Int))]) [8] rfl).2.2 8 (.int .i64 ((k + 1 : Nat) : Int)) rfl, hA4];simp only [intOf];omega
 replace hc1 := of_decide_eq_false hc1;have hkn : k = n := by omega
 refine wp_exit ?_;repeat (first | refine then_exit ?_ | refine exit_block ?_ | refine exit_pass rfl ?_)
 repeat first|refine tn ?_|refine bn ?_
 exact sw_endnone F Tryz.results30 ⟨rfl, la, lc, t, by unfold WrI; rw [wrC_tok]; exact M, by rw [hkn, ← hn, List.take_length] at ht; exact ht⟩
end Go.Proofs.YtpofgnlkhkednaaGreatDoor
