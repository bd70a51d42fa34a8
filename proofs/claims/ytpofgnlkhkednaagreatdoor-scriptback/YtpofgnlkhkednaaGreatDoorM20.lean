import Derived.Test.YtpofgnlkhkednaaGreatDoorSWk2
import Derived.Test.YtpofgnlkhkednaaGreatDoorM10
namespace Go.Proofs.YtpofgnlkhkednaaGreatDoor
open Go.RowKit
set_option linter.unusedVariables false
set_option linter.unusedSimpArgs false
set_option maxRecDepth 20000
set_option maxHeartbeats 8000000
theorem flatV_len {sz : Nat} : ∀ {es : List (List Fld)}, (∀ e ∈ es, e.length = sz) → (flatV es).length = es.length * sz
 | [], _ => by simp [flatV]
 | e :: es, h => by
  have h1 := h e (by simp);have h2 := flatV_len (es := es) (fun d hd => h d (by simp [hd]));simp [flatV, h1, h2, Nat.add_mul];omega
theorem flatV_one {es : List (List Fld)} : ∀ u ∈ flatV es, u.oneCell' = true := by
 induction es with
 | nil => intro u hu; cases hu
 | cons e es ih =>
  intro u hu;rcases List.mem_append.1 hu with hu | hu
  ·exact flds_one e u (by simpa using hu)
  ·exact ih u hu
theorem RowG.addN {lo : Nat} {e : TypeId} {sz : Nat} {v v' : Value} {es gss : List (List Fld)} {w w' : World} (h : RowG lo e sz v es w) (hl : ∀ g ∈ gss, g.length = sz ∧ lieAll lo w g) (hga : ∀ b, v.ownBlock = some b → ∀ g ∈ gss, apartAll b g) (hown : w'.ownsRow lo e sz v' (es.length + gss.length) (flatV es ++ flatV gss)) (hg : w.grownBy w' v.ownBlock) (hat : v'.ownBlock = v.ownBlock ∨ v'.ownBlock = some w.heap.size) : RowG lo e sz v' (es ++ gss) w' := by
 have keep : ∀ d, lieAll lo w d → (∀ b, v.ownBlock = some b → apartAll b d) → lieAll lo w' d := fun d hd ha f hf => by
  cases hob : v.ownBlock with
  | none => exact Fld.lies_hi ⟨hg.size, fun k _ hk => hg.block k hk (by rw [hob]; simp)⟩ f (hd f hf)
  | some b => exact Fld.lies_off ⟨hg.size, fun k hk hne => hg.block k hk (by rw [hob]; simpa using hne)⟩ f (hd f hf) (ha b hob f hf)
 refine ⟨by simpa [flatV_app, flatV] using hown, fun d hd => ?_, fun b hb d hd => ?_, fun d hd => ?_⟩
 ·rcases List.mem_append.1 hd with hd | hd
  ·exact keep d (h.lie d hd) (fun b hb => h.out b hb d hd)
  ·exact keep d (hl d hd).2 (fun b hb => hga b hb d hd)
 ·rcases hat with q | q
  ·rw [q] at hb;rcases List.mem_append.1 hd with hd | hd
   ·exact h.out b hb d hd
   ·exact hga b hb d hd
  ·rw [q] at hb;injection hb with hb
   subst hb;rcases List.mem_append.1 hd with hd | hd
   ·exact fun f hf => Fld.lies_apart (.inr (Nat.le_refl _)) f (h.lie d hd f hf)
   ·exact fun f hf => Fld.lies_apart (.inr (Nat.le_refl _)) f ((hl d hd).2 f hf)
 ·rcases List.mem_append.1 hd with hd | hd
  ·exact h.len d hd
  ·exact (hl d hd).1
theorem Mem.append {base : Nat} {L : List Ent} {w : World} {k sz : Nat} {t ety : TypeId} {v z : Value} {es gss : List (List Fld)} {a : Addr} {c : Nat} (M : Mem base L w) (kk : L[k]? = some (.row v ety sz es)) (hu : Tryz.prog.underlying t = some (.slice ety)) (hi : (Tryz.prog.info? ety).map (fun i => (i.zero, i.size, decide (i.bytes ≤ 1000))) = some (some z, sz, true)) (hzs : z.cells.size = sz) (h0 : 0 < sz)
  (src : ∀ j u, (flatV gss)[j]? = some u → w.cell? (a.add j) = some u) (hl : ∀ g ∈ gss, g.length = sz ∧ lieAll base w g) (hga : ∀ (i : Nat) (f : Ent) (b : Nat), L[i]? = some f → f.mut b → ∀ g ∈ gss, apartAll b g) (hn : es.length + gss.length ≤ 1000001) :
  ∃ la lc w', (Builtin.append_ #[t, t] t #[v, .slice (some a) gss.length c]).run Tryz.prog w = .ok (.slice la (es.length + gss.length) lc) w' ∧ Mem base (L.set k (.row (.slice la (es.length + gss.length) lc) ety sz (es ++ gss))) w' ∧ Below base w w' := by
 obtain ⟨ii, ii1, ii2, ii3, ii4⟩ := info_parts3 hi;have r : RowG base ety sz v es w := M.at_ k _ kk;have hby2 : (es.length + gss.length) * ii.bytes ≤ 140737488355328 := Nat.le_trans (Nat.mul_le_mul hn (of_decide_eq_true ii4)) (by omega);obtain ⟨v', w', h2, h3, h4, _, h5⟩ := run_append_own_at (P := Tryz.prog) w base t t ety ii z sz ii.bytes hu ii1 ii2 ii3 rfl hzs h0 v es.length (flatV es) r.own a gss.length c (flatV gss) (flatV_len fun g hg => (hl g hg).1) src flatV_one (by unfold maxLen; omega) hby2 M.le;obtain ⟨la, lc, hv'⟩ := slice_shape h3;subst hv';have row := r.addN hl (fun b hb g hg => hga k (.row v ety sz es) b kk hb g hg) h3 h4 h5;refine ⟨la, lc, w', h2, M.upd kk h4.size row (fun j hj hm => h4.block j hj (fun q => hm q.symm)) (fun b hb => ?_) (fun i f b hik hf hm => ?_), ⟨h4.os, h4.tape, h4.output, h4.size, fun j hj => ?_⟩⟩
 ·have hb : Value.ownBlock (.slice la (es.length + gss.length) lc) = some b := hb;rcases h5 with q | q
  ·exact .inl (q.symm.trans hb)
  ·rw [q] at hb;injection hb with hb
   exact .inr (by omega)
 ·have hfree : Ent.free b (.row v ety sz es) := M.sep i k f (.row v ety sz es) b hik hf kk hm;refine ⟨fun q => ?_, fun d hd => ?_⟩
  ·rcases h5 with q' | q'
   ·exact hfree.1 (q'.symm.trans q)
   ·rw [q'] at q;injection q with q
    have := (Ent.mut_lt (M.at_ i f hf) hm).2;omega
  ·rcases List.mem_append.1 hd with hd | hd
   ·exact hfree.2 d hd
   ·exact hga i f b hf hm d hd
 ·have hle := M.le;refine h4.block j (by omega) (fun q => ?_);have := (RowG.blk r j q.symm).1;omega
theorem Mem.mkrow {base : Nat} {L : List Ent} {w : World} {sz : Nat} {ety : TypeId} {gss : List (List Fld)} (M : Mem base L w) (hn : gss.length ≤ 1000) (hl : ∀ g ∈ gss, g.length = sz ∧ lieAll base w g) (hga : ∀ (i : Nat) (f : Ent) (b : Nat), L[i]? = some f → f.mut b → ∀ g ∈ gss, apartAll b g) :
  Mem base (.row (.slice (some ⟨w.heap.size, 0, none⟩) gss.length gss.length) ety sz gss :: L) (w.alloc (.cells (flatV gss).toArray ety)) := by
 have bA : Below w.heap.size w (w.alloc (.cells (flatV gss).toArray ety)) := (Below.refl _ _).alloc (Nat.le_refl _) _;have hfl := flatV_len (es := gss) (fun g hg => (hl g hg).1);refine (M.hi (Hi.of_below bA)).push ⟨⟨hfl, .inr ⟨w.heap.size, gss.length, (flatV gss).toArray, rfl, M.le, Blk.new w _ ety, Nat.le_refl _, by unfold maxLen; omega, by simp [hfl], ?_⟩⟩, fun d hd => (hl d hd).2.hi (Hi.of_below bA), fun b hb d hd => ?_, fun d hd => (hl d hd).1⟩ (fun i f b hf hm => ?_) (fun i f b hf hm => ⟨fun q => ?_, fun d hd => hga i f b hf hm d hd⟩)
 ·rw [List.take_of_length_le (by simp [hfl])]
 ·have hb : w.heap.size = b := by injection hb
  exact fun f hf => Fld.lies_apart (.inr (by omega)) f ((hl d hd).2 f hf)
 ·have hm : w.heap.size = b := by have hm : some w.heap.size = some b := hm; injection hm
  exact Ent.free_new (M.at_ i f hf) (by omega)
 ·have := (Ent.mut_lt (M.at_ i f hf) hm).2;have q : some w.heap.size = some b := q;injection q with q
  omega
theorem Mem.vals {base : Nat} {L : List Ent} {w : World} (M : Mem base L w) (j : Nat) {g : List Fld} (hj : L[j]? = some (.val g)) : lieAll base w g ∧ ∀ (i : Nat) (f : Ent) (b : Nat), L[i]? = some f → f.mut b → apartAll b g := by
 refine ⟨M.at_ j _ hj, fun i f b hf hm => ?_⟩
 by_cases hij : i = j
 ·subst hij;rw [hj] at hf;injection hf with hf
  subst hf;exact hm.elim
 ·exact M.sep i j f (.val g) b hij hf hj hm
theorem Mem.two {base : Nat} {L : List Ent} {w : World} {g h : List Fld} (h1 : lieAll base w g ∧ ∀ (i : Nat) (f : Ent) (b : Nat), L[i]? = some f → f.mut b → apartAll b g) (h2 : lieAll base w h ∧ ∀ (i : Nat) (f : Ent) (b : Nat), L[i]? = some f → f.mut b → apartAll b h) : lieAll base w (g ++ h) ∧ ∀ (i : Nat) (f : Ent) (b : Nat), L[i]? = some f → f.mut b → apartAll b (g ++ h) :=
 ⟨h1.1.app h2.1, fun i f b hf hm x hx => (List.mem_append.1 hx).elim (h1.2 i f b hf hm x) (h2.2 i f b hf hm x)⟩
section
variable {ops : Array Oper} {Q : Exit → Act → World → Prop} {a : Act} {w w' w0 : World} {rest : List Oper} {o o1 o2 : Oper} {N : Nat} {L : List (Nat × Value)}
variable {σ : Type} {X : σ → World → Prop} {T : Nat → Prop} {E : List Ent} {s : σ}
theorem sw_mkrow (F : Fm N L a) (M : Mm X T w0 E s w) {i n sz : Nat} {ty ety : TypeId} {ps : Array (Nat × Operand)} {z : Value} (vs : List Value) (gss : List (List Fld)) (h : Is o (some i) (.buildSlice ty n ps)) (hv : opvs L (ps.toList.map (·.2)) = some vs) (hu : Tryz.prog.underlying ty = some (.slice ety)) (hi : (Tryz.prog.info? ety).map (fun i => (i.zero, i.size, decide (i.bytes ≤ 1000))) = some (some z, sz, true)) (h0 : (Nat.blt 0 (n * sz) && Nat.ble (n * sz) 1000) = true)
  (hf : Instr.fill (fun i => some (i * sz, sz)) ((Array.range (n * sz)).map (z.cells[· % z.cells.size]!)) ((ps.toList.map (·.1)).zip vs) = some (flatV gss).toArray) (hn : gss.length = n) (hl : ∀ g ∈ gss, g.length = sz ∧ lieAll w0.heap.size w g) (hga : ∀ (i : Nat) (f : Ent) (b : Nat), E[i]? = some f → f.mut b → ∀ g ∈ gss, apartAll b g) (hb : Nat.blt i N = true)
  (K : ∀ x a' w', Fm N ((i, .slice (some ⟨x, 0, none⟩) n n) :: L) a' → Mm X T w0 (.row (.slice (some ⟨x, 0, none⟩) n n) ety sz gss :: E) s w' → wpList Tryz.prog ops Q rest a' w') : wpList Tryz.prog ops Q (o :: rest) a w := by
 obtain ⟨ii, ii1, ii2, ii3, ii4⟩ := info_parts3 hi;subst ii3;rw [Bool.and_eq_true] at h0;have q1 : 0 < n * ii.size := by simpa [Nat.blt_eq] using h0.1
 have q2 : n * ii.size ≤ 1000 := by simpa [Nat.ble_eq] using h0.2
 have e := F.evs hv
 have e2 : (ps.map fun (i, x) => (i, a.eval x)).toList = (ps.toList.map (·.1)).zip vs := by
  rw [Array.toList_map, ← e, List.map_map];generalize ps.toList = l
  induction l with
  | nil => rfl
  | cons q r ih => simp only [List.map_cons, List.zip_cons_cons, ih]; rfl
 refine wpList_buildSlice h.2.2 ty ety n ps h.2.1 (flatV gss).toArray ii z hu ii1 ii2 (by omega) (by omega) (by rw [e2]; exact hf) ?_;rw [h.1]
 have hgl : gss.length ≤ 1000 := by
  rw [hn];have : 0 < ii.size := by cases hz : ii.size with | zero => rw [hz] at q1; simp at q1 | succ m => omega
  have : n * 1 ≤ n * ii.size := Nat.mul_le_mul (Nat.le_refl _) this;omega
 have M2 := Mem.mkrow (ety := ety) M.mem hgl hl hga;rw [hn] at M2;exact K w.heap.size _ _ (F.put hb) (M.own ((Below.refl _ _).alloc M.mem.le _) M2)
theorem sw_app1 (F : Fm N L a) (M : Mm X T w0 E s w) (k j : Nat) {i1 i2 sz : Nat} {ty ety : TypeId} {x xs : Operand} {z v : Value} {es : List (List Fld)} {g : List Fld} (h1 : Is o1 (some i1) (.buildSlice ty 1 #[(0, x)])) (h2 : Is o2 (some i2) (.call { callee := .builtin .append, args := #[xs, .tmp i1], argTypes := #[ty, ty] })) (ht : o2.type = ty)
  (hx : opv L x = some (.agg (g.map Fld.val).toArray)) (hs : ∀ u, opv ((i1, u) :: L) xs = some v) (kk : E[k]? = some (.row v ety sz es)) (jj : E[j]? = some (.val g)) (hu : Tryz.prog.underlying ty = some (.slice ety)) (hi : (Tryz.prog.info? ety).map (fun i => (i.zero, i.size, decide (i.bytes ≤ 1000))) = some (some z, sz, true)) (hzs : z.cells.size = sz) (h0 : (Nat.blt 0 sz && Nat.ble sz 1000) = true)
  (hf : Instr.fill (fun i => some (i * sz, sz)) ((Array.range (1 * sz)).map (z.cells[· % z.cells.size]!)) [(0, .agg (g.map Fld.val).toArray)] = some (g.map Fld.val).toArray) (hg : g.length = sz) (hn : es.length ≤ 1000000) (hb : (Nat.blt i1 N && Nat.blt i2 N) = true)
  (K : ∀ la lc u a' w', Fm N ((i2, .slice la (es ++ [g]).length lc) :: (i1, u) :: L) a' → Mm X T w0 (E.set k (.row (.slice la (es ++ [g]).length lc) ety sz (es ++ [g]))) s w' → wpList Tryz.prog ops Q rest a' w') : wpList Tryz.prog ops Q (o1 :: o2 :: rest) a w := by
 obtain ⟨ii, ii1, ii2, ii3, ii4⟩ := info_parts3 hi;rw [Bool.and_eq_true] at h0 hb;have q1 : 0 < sz := by simpa [Nat.blt_eq] using h0.1
 have q2 : sz ≤ 1000 := by simpa [Nat.ble_eq] using h0.2
 refine wpList_buildSlice h1.2.2 ty ety 1 _ h1.2.1 (g.map Fld.val).toArray ii z hu ii1 ii2 (by rw [ii3]; omega) (by rw [ii3]; omega) ?_ ?_
 ·have e : ((#[(0, x)] : Array (Nat × Operand)).map fun (i, x) => (i, a.eval x)).toList = [(0, .agg (g.map Fld.val).toArray)] := by
   simp [F.ev hx]
  rw [e, ii3];exact hf
 rw [h1.1];have F1 := F.put (v := .slice (some ⟨w.heap.size, 0, none⟩) 1 1) hb.1
 generalize a.put (some i1) (.slice (some ⟨w.heap.size, 0, none⟩) 1 1) = a1 at *
 have bA : Below w.heap.size w (w.alloc (.cells (g.map Fld.val).toArray ety)) := (Below.refl _ _).alloc (Nat.le_refl _) _;have kn := Blk.new w (g.map Fld.val).toArray ety;have M1 := M.own ((Below.refl _ _).alloc M.mem.le (.cells (g.map Fld.val).toArray ety)) (M.mem.hi (Hi.of_below bA));have hval := M1.mem.vals j jj;have e1 : a1.eval (.tmp i1) = .slice (some ⟨w.heap.size, 0, none⟩) 1 1 := F1.ev (by simp [opv, lk])
 obtain ⟨la, lc, w', hrun, M2, hbel⟩ := M1.mem.append (gss := [g]) (a := ⟨w.heap.size, 0, none⟩) (c := 1) kk hu hi hzs q1 (fun j u hj => by
  have q := kn.cell j;have e0 : (⟨w.heap.size, 0, none⟩ : Addr).add j = ⟨w.heap.size, j, none⟩ := by simp [Addr.add]; omega
  rw [e0, q];have : (g.map Fld.val)[j]? = some u := by simpa [flatV] using hj
  simpa using this) (fun g' hg' => by rw [List.mem_singleton.1 hg']; exact ⟨hg, hval.1⟩) (fun i f b hf hm g' hg' => by rw [List.mem_singleton.1 hg']; exact hval.2 i f b hf hm) (by simp; omega)
 refine wpList_append_run h2.2.2 xs (.tmp i1) ty h2.2.1 v (.slice (some ⟨w.heap.size, 0, none⟩) 1 1) (.slice la (es.length + 1) lc) w' (F1.ev (hs _)) e1 (by rw [ht]; exact hrun) ?_;rw [h2.1];have e9 : es.length + 1 = (es ++ [g]).length := by simp
 have M3 := M1.own hbel M2;have M3 : Mm X T w0 (E.set k (.row (.slice la (es.length + 1) lc) ety sz (es ++ [g]))) s w' := M3;rw [e9] at M3 ⊢;exact K la lc _ _ _ (F1.put hb.2) M3
end
section
variable {P : Program} {md : Region.Mode} {ops ops0 : Array Oper} {Q : Exit → Act → World → Prop} {S : World → Prop} {a : Act} {w w0 : World} {o : Oper} {N : Nat} {L : List (Nat × Value)} {fuel : Nat} {listed : Array Bool}
theorem sd_val (F : Fm N L a) (i : Nat) {d : Nat} {v : Value} (hi : ops[i]? = some o) (hs : Region.noSelect ops = true) (hf : Region.free md ops listed i = true) (hr : (Region.ready md ops listed).contains i = true) (hQ : ∀ c a w, Q (.panic c) (a.put (some d) v) w → Q (.panic c) a w)
  (hd : o.dst = some d) (hg : o.guard = none) (hb : Nat.blt d N = true) (hy : ∀ w, S w → (execOp a.eval o).run P w = .ok (.value v) w) (hS : S w) (K : ∀ a', Fm N ((d, v) :: L) a' → wpAnyH P md ops Q S fuel (listed.setIfInBounds i true) a' w) : wpAnyH P md ops Q S (fuel + 1) listed a w :=
 wpAnyH_take hi hs hf hr (fun c a w => by rw [hd]; exact hQ c a w) (.inl ⟨by unfold Region.wanted; rw [hg], hy⟩) hS (by rw [hd]; exact K _ (F.put hb))
theorem sd_move (F : Fm N L a) (i : Nat) {d : Nat} {x : Operand} {v : Value} (hi : ops[i]? = some o) (h : Is o (some d) (.move x)) (hv : opv L x = some v) (hs : Region.noSelect ops = true) (hf : Region.free md ops listed i = true) (hr : (Region.ready md ops listed).contains i = true) (hQ : ∀ c a w, Q (.panic c) (a.put (some d) v) w → Q (.panic c) a w)
  (hb : Nat.blt d N = true) (hS : S w) (K : ∀ a', Fm N ((d, v) :: L) a' → wpAnyH P md ops Q S fuel (listed.setIfInBounds i true) a' w) : wpAnyH P md ops Q S (fuel + 1) listed a w :=
 sd_val F i hi hs hf hr hQ h.1 h.2.2 hb (fun w _ => by unfold execOp; rw [h.2.1]; simp only [F.ev hv]; rfl) hS K
theorem sd_nil (F : Fm N L a) (i : Nat) {d : Nat} {x : Operand} {p : Addr} (hi : ops[i]? = some o) (h : Is o (some d) (.nilCheck x)) (hv : opv L x = some (.pointer (some p))) (hs : Region.noSelect ops = true) (hf : Region.free md ops listed i = true) (hr : (Region.ready md ops listed).contains i = true) (hQ : ∀ c a w, Q (.panic c) (a.put (some d) (.pointer (some p))) w → Q (.panic c) a w)
  (hb : Nat.blt d N = true) (hS : S w) (K : ∀ a', Fm N ((d, .pointer (some p)) :: L) a' → wpAnyH P md ops Q S fuel (listed.setIfInBounds i true) a' w) : wpAnyH P md ops Q S (fuel + 1) listed a w :=
 sd_val F i hi hs hf hr hQ h.1 h.2.2 hb (fun w _ => by unfold execOp; rw [h.2.1]; simp only [F.ev hv]; rfl) hS K
theorem sd_fld (F : Fm N L a) (i n : Nat) {d s k b f m : Nat} {x : Operand} (hi : ops[i]? = some o) (h : Is o (some d) (.fieldAddr s x k)) (hv : opv L x = some (.pointer (some ⟨b, f, none⟩))) (hn : fldOff P s k = some n) (hm : f + n = m) (hs : Region.noSelect ops = true) (hf : Region.free md ops listed i = true) (hr : (Region.ready md ops listed).contains i = true) (hQ : ∀ c a w, Q (.panic c) (a.put (some d) (.pointer (some ⟨b, m, none⟩))) w → Q (.panic c) a w)
  (hb : Nat.blt d N = true) (hS : S w) (K : ∀ a', Fm N ((d, .pointer (some ⟨b, m, none⟩)) :: L) a' → wpAnyH P md ops Q S fuel (listed.setIfInBounds i true) a' w) : wpAnyH P md ops Q S (fuel + 1) listed a w := by
 subst hm;exact sd_val F i hi hs hf hr hQ h.1 h.2.2 hb (fun w _ => by unfold execOp; rw [h.2.1]; simp only [F.ev hv]; simp [Sem.run_bind, run_fldo hn]) hS K
theorem run_cell {t : TypeId} {x : Operand} {b n : Nat} {v : Value} {d : TypeDesc} (ho : o.op = .load t x) (hx : a.eval x = .pointer (some ⟨b, n, none⟩)) (hc : w.cell? ⟨b, n, none⟩ = some v) (hu : P.underlying t = some d) (hd : d.isRow = false) : (execOp a.eval o).run P w = .ok (.value v) w := by
 unfold execOp;rw [ho];simp only [hx]
 have hagg : (isAgg t).run P w = .ok false w := by
  unfold isAgg;rw [Sem.run_bind, run_underlying hu w];cases d <;> simp_all [TypeDesc.isRow]
 simp [Instr.loadAt, Instr.sureAddr, loadVar, hagg, hc]
theorem sd_cell (F : Fm N L a) (i : Nat) {d : Nat} {t : TypeId} {x : Operand} {b n : Nat} {v : Value} (hi : ops[i]? = some o) (h : Is o (some d) (.load t x)) (hv : opv L x = some (.pointer (some ⟨b, n, none⟩))) (ht : cellT P t = true) (hc : ∀ w, S w → w.cell? ⟨b, n, none⟩ = some v) (hs : Region.noSelect ops = true) (hf : Region.free md ops listed i = true) (hr : (Region.ready md ops listed).contains i = true) (hQ : ∀ c a w, Q (.panic c) (a.put (some d) v) w → Q (.panic c) a w)
  (hb : Nat.blt d N = true) (hS : S w) (K : ∀ a', Fm N ((d, v) :: L) a' → wpAnyH P md ops Q S fuel (listed.setIfInBounds i true) a' w) : wpAnyH P md ops Q S (fuel + 1) listed a w := by
 obtain ⟨ds, hu, hd⟩ := cellT_out ht;exact sd_val F i hi hs hf hr hQ h.1 h.2.2 hb (fun w hw => run_cell h.2.1 (F.ev hv) (hc w hw) hu hd) hS K
theorem oper_then {o : Oper} {a : Act} {w : World} {K : Act → World → Prop} {Q : Exit → Act → World → Prop} (hh : o.wp P a w K (Exit.then K Q)) : o.wp P a w K Q := by
 unfold Oper.wp at hh ⊢;generalize (execOp a.eval o).run P w = r at hh ⊢
 cases r with
 | ok n w' =>
  cases n with
  | value v => exact hh
  | skip => exact hh
  | defer d => exact hh
  | enter f args =>
   refine Calls.mono (R := _) hh fun e w'' he => ?_
   cases e with
   | returned v => exact he
   | panicked c => exact he
   | outgrown => exact he
  | row r args => exact Rows.mono hh fun _ _ he => he
  | _ => exact hh
 | halt x w' => cases x <;> exact hh
theorem sd_one (i : Nat) (hi : ops[i]? = some o) (hr : Region.ready md ops listed = [i]) (hg : o.guard = none) (h : wpList P ops (Exit.then (fun a w => S w ∧ wpAnyH P md ops Q S fuel (listed.setIfInBounds i true) a w) Q) [o] a w) : wpAnyH P md ops Q S (fuel + 1) listed a w :=
 wpAnyH_all hr (by simp) fun j hj => by
  have hj : j = i := by simpa using hj
  subst hj;have hw : ∀ t, Region.wanted o t = true := fun t => by simp [Region.wanted, hg]
  unfold wpList at h;rw [if_pos (hw _)] at h;unfold wpOp;simp only [hi];rw [if_pos (hw _)];rcases h with h | ⟨h1, h2⟩
  ·exact .inl (oper_then h)
  ·exact .inr ⟨h1, h2⟩
end
section
variable {σ : Type} {X : σ → World → Prop} {T : Nat → Prop} {w0 w : World} {E : List Ent} {s : σ}
theorem Mm.drew (M : Mm X T w0 E s w) : Mm X T w0 E s w.drew := M.own ((Below.refl _ _).drew) (M.mem.hi (Hi.of_below ((Below.refl w.heap.size w).drew)))
theorem Mm.cell (M : Mm X T w0 E s w) (k : Nat) {x n : Nat} {cs : List Value} {t : TypeId} {v : Value} (hk : E[k]? = some (.box x cs t)) (hc : cs[n]? = some v) : w.cell? ⟨x, n, none⟩ = some v := ((M.mem.box hk).1.cell n).trans (by simpa using hc)
theorem sw_call0 {P : Program} {ops : Array Oper} {Q : Exit → Act → World → Prop} {a : Act} {rest : List Oper} {o : Oper} {N : Nat} {L : List (Nat × Value)} {f : FuncId} {vs : List Value} {Post : Value → List Fld → σ → Prop} (hM : Meth P X T f vs s Post) (F : Fm N L a) (M : Mm X T w0 E s w) {i : Nat} {xs : Array Operand} {ts : Array TypeId} (h : Is o (some i) (.call { callee := .value (.func f), args := xs, argTypes := ts })) (hv : opvs L xs.toList = some vs) (hi : Nat.blt i N = true)
  (K : ∀ v s' a' w', (∃ fs, Post v fs s') → Fm N ((i, v) :: L) a' → Mm X T w0 E s' w' → wpList P ops Q rest a' w') : wpList P ops Q (o :: rest) a w :=
 sw_call hM F M h hv hi fun v fs s' a' w' p F' M' => K v s' a' w' ⟨fs, p⟩ F' M'.tl
theorem Mem.rowlie {base : Nat} {L : List Ent} {w : World} (M : Mem base L w) (k : Nat) {la : Option Addr} {n lc : Nat} {e : TypeId} {sz : Nat} {es : List (List Fld)} (h : L[k]? = some (.row (.slice la n lc) e sz es)) : (Fld.l la lc es).lies base w := by
 obtain ⟨la', lc', e1, h1⟩ := M.rowval h;injection e1 with e1 e2 e3
 subst e1 e3;exact h1
theorem Mem.vallie {base : Nat} {L : List Ent} {w : World} (M : Mem base L w) (k : Nat) {f : Fld} (h : L[k]? = some (.val [f])) : f.lies base w := M.val h f (by simp)
theorem lie_nil (lo : Nat) (w : World) : lieAll lo w [] := fun f hf => by cases hf
theorem lie_cons {lo : Nat} {w : World} {f : Fld} {fs : List Fld} (h : f.lies lo w) (g : lieAll lo w fs) : lieAll lo w (f :: fs) := fun x hx => by
 rcases List.mem_cons.1 hx with rfl | hx
 ·exact h
 ·exact g x hx
theorem lie_i {lo : Nat} {w : World} {n : Int} (h : -9223372036854775808 ≤ n ∧ n ≤ 9223372036854775807) : (Fld.i n).lies lo w := h
theorem lies_nil (lo : Nat) (w : World) : (Fld.l none 0 []).lies lo w := ⟨by simp, by unfold maxLen; omega, .inl rfl⟩
end
end Go.Proofs.YtpofgnlkhkednaaGreatDoor
