import Derived.Test.YtemjajljpoaioaaDoorSWk2
namespace Go.Proofs.YtemjajljpoaioaaDoor
open Go.RowKit
set_option linter.unusedVariables false
set_option linter.unusedSimpArgs false
set_option maxRecDepth 20000
set_option maxHeartbeats 8000000
theorem flatV_len {sz : Nat} : ∀ {es : List (List Fld)}, (∀ e ∈ es, e.length = sz) → (flatV es).length = es.length * sz
 | [], _ => by simp [flatV]
 | e :: es, h => by
  have h1 := h e (by simp)
  have h2 := flatV_len (es := es) (fun d hd => h d (by simp [hd]))
  simp [flatV, h1, h2, Nat.add_mul]
  omega
theorem flatV_one {es : List (List Fld)} : ∀ u ∈ flatV es, u.oneCell' = true := by
 induction es with
 | nil => intro u hu; cases hu
 | cons e es ih =>
  intro u hu
  rcases List.mem_append.1 hu with hu | hu
  ·exact flds_one e u (by simpa using hu)
  ·exact ih u hu
theorem RowG.addN {lo : Nat} {e : TypeId} {sz : Nat} {v v' : Value} {es gss : List (List Fld)} {w w' : World} (h : RowG lo e sz v es w) (hl : ∀ g ∈ gss, g.length = sz ∧ lieAll lo w g) (hga : ∀ b, v.ownBlock = some b → ∀ g ∈ gss, apartAll b g) (hown : w'.ownsRow lo e sz v' (es.length + gss.length) (flatV es ++ flatV gss)) (hg : w.grownBy w' v.ownBlock) (hat : v'.ownBlock = v.ownBlock ∨ v'.ownBlock = some w.heap.size) : RowG lo e sz v' (es ++ gss) w' := by
 have keep : ∀ d, lieAll lo w d → (∀ b, v.ownBlock = some b → apartAll b d) → lieAll lo w' d := fun d hd ha f hf => by
  cases hob : v.ownBlock with
  | none => exact Fld.lies_hi ⟨hg.size, fun k _ hk => hg.block k hk (by rw [hob]; simp)⟩ f (hd f hf)
  | some b => exact Fld.lies_off ⟨hg.size, fun k hk hne => hg.block k hk (by rw [hob]; simpa using hne)⟩ f (hd f hf) (ha b hob f hf)
 refine ⟨by simpa [flatV_app, flatV] using hown, fun d hd => ?_, fun b hb d hd => ?_, fun d hd => ?_⟩
 ·rcases List.mem_append.1 hd with hd | hd
  ·exact keep d (h.lie d hd) (fun b hb => h.out b hb d hd)
  ·exact keep d (hl d hd).2 (fun b hb => hga b hb d hd)
 ·rcases hat with q | q
  ·rw [q] at hb
   rcases List.mem_append.1 hd with hd | hd
   ·exact h.out b hb d hd
   ·exact hga b hb d hd
  ·rw [q] at hb
   injection hb with hb
   subst hb
   rcases List.mem_append.1 hd with hd | hd
   ·exact fun f hf => Fld.lies_apart (.inr (Nat.le_refl _)) f (h.lie d hd f hf)
   ·exact fun f hf => Fld.lies_apart (.inr (Nat.le_refl _)) f ((hl d hd).2 f hf)
 ·rcases List.mem_append.1 hd with hd | hd
  ·exact h.len d hd
  ·exact (hl d hd).1
theorem Mem.append {base : Nat} {L : List Ent} {w : World} {k sz : Nat} {t ety : TypeId} {v z : Value} {es gss : List (List Fld)} {a : Addr} {c : Nat} (M : Mem base L w) (kk : L[k]? = some (.row v ety sz es)) (hu : Tryd.prog.underlying t = some (.slice ety)) (hi : (Tryd.prog.info? ety).map (fun i => (i.zero, i.size, decide (i.bytes ≤ 1000))) = some (some z, sz, true)) (hzs : z.cells.size = sz) (h0 : 0 < sz)
  (src : ∀ j u, (flatV gss)[j]? = some u → w.cell? (a.add j) = some u) (hl : ∀ g ∈ gss, g.length = sz ∧ lieAll base w g) (hga : ∀ (i : Nat) (f : Ent) (b : Nat), L[i]? = some f → f.mut b → ∀ g ∈ gss, apartAll b g) (hn : es.length + gss.length ≤ 1000001) :
  ∃ la lc w', (Builtin.append_ #[t, t] t #[v, .slice (some a) gss.length c]).run Tryd.prog w = .ok (.slice la (es.length + gss.length) lc) w' ∧ Mem base (L.set k (.row (.slice la (es.length + gss.length) lc) ety sz (es ++ gss))) w' ∧ Below base w w' := by
 obtain ⟨ii, ii1, ii2, ii3, ii4⟩ := info_parts3 hi
 have r : RowG base ety sz v es w := M.at_ k _ kk
 have hby2 : (es.length + gss.length) * ii.bytes ≤ 140737488355328 := Nat.le_trans (Nat.mul_le_mul hn (of_decide_eq_true ii4)) (by omega)
 obtain ⟨v', w', h2, h3, h4, _, h5⟩ := run_append_own_at (P := Tryd.prog) w base t t ety ii z sz ii.bytes hu ii1 ii2 ii3 rfl hzs h0 v es.length (flatV es) r.own a gss.length c (flatV gss) (flatV_len fun g hg => (hl g hg).1) src flatV_one (by unfold maxLen; omega) hby2 M.le
 obtain ⟨la, lc, hv'⟩ := slice_shape h3
 subst hv'
 have row := r.addN hl (fun b hb g hg => hga k (.row v ety sz es) b kk hb g hg) h3 h4 h5
 refine ⟨la, lc, w', h2, M.upd kk h4.size row (fun j hj hm => h4.block j hj (fun q => hm q.symm)) (fun b hb => ?_) (fun i f b hik hf hm => ?_), ⟨h4.os, h4.tape, h4.output, h4.size, fun j hj => ?_⟩⟩
 ·have hb : Value.ownBlock (.slice la (es.length + gss.length) lc) = some b := hb
  rcases h5 with q | q
  ·exact .inl (q.symm.trans hb)
  ·rw [q] at hb
   injection hb with hb
   exact .inr (by omega)
 ·have hfree : Ent.free b (.row v ety sz es) := M.sep i k f (.row v ety sz es) b hik hf kk hm
  refine ⟨fun q => ?_, fun d hd => ?_⟩
  ·rcases h5 with q' | q'
   ·exact hfree.1 (q'.symm.trans q)
   ·rw [q'] at q
    injection q with q
    have := (Ent.mut_lt (M.at_ i f hf) hm).2
    omega
  ·rcases List.mem_append.1 hd with hd | hd
   ·exact hfree.2 d hd
   ·exact hga i f b hf hm d hd
 ·have hle := M.le
  refine h4.block j (by omega) (fun q => ?_)
  have := (RowG.blk r j q.symm).1
  omega
theorem Mem.mkrow {base : Nat} {L : List Ent} {w : World} {sz : Nat} {ety : TypeId} {gss : List (List Fld)} (M : Mem base L w) (hn : gss.length ≤ 1000) (hl : ∀ g ∈ gss, g.length = sz ∧ lieAll base w g) (hga : ∀ (i : Nat) (f : Ent) (b : Nat), L[i]? = some f → f.mut b → ∀ g ∈ gss, apartAll b g) :
  Mem base (.row (.slice (some ⟨w.heap.size, 0, none⟩) gss.length gss.length) ety sz gss :: L) (w.alloc (.cells (flatV gss).toArray ety)) := by
 have bA : Below w.heap.size w (w.alloc (.cells (flatV gss).toArray ety)) := (Below.refl _ _).alloc (Nat.le_refl _) _
 have hfl := flatV_len (es := gss) (fun g hg => (hl g hg).1)
 refine (M.hi (Hi.of_below bA)).push ⟨⟨hfl, .inr ⟨w.heap.size, gss.length, (flatV gss).toArray, rfl, M.le, Blk.new w _ ety, Nat.le_refl _, by unfold maxLen; omega, by simp [hfl], ?_⟩⟩, fun d hd => (hl d hd).2.hi (Hi.of_below bA), fun b hb d hd => ?_, fun d hd => (hl d hd).1⟩ (fun i f b hf hm => ?_) (fun i f b hf hm => ⟨fun q => ?_, fun d hd => hga i f b hf hm d hd⟩)
 ·rw [List.take_of_length_le (by simp [hfl])]
 ·have hb : w.heap.size = b := by injection hb
  exact fun f hf => Fld.lies_apart (.inr (by omega)) f ((hl d hd).2 f hf)
 ·have hm : w.heap.size = b := by have hm : some w.heap.size = some b := hm; injection hm
  exact Ent.free_new (M.at_ i f hf) (by omega)
 ·have := (Ent.mut_lt (M.at_ i f hf) hm).2
  have q : some w.heap.size = some b := q
  injection q with q
  omega
theorem Mem.vals {base : Nat} {L : List Ent} {w : World} (M : Mem base L w) (j : Nat) {g : List Fld} (hj : L[j]? = some (.val g)) : lieAll base w g ∧ ∀ (i : Nat) (f : Ent) (b : Nat), L[i]? = some f → f.mut b → apartAll b g := by
 refine ⟨M.at_ j _ hj, fun i f b hf hm => ?_⟩
 by_cases hij : i = j
 ·subst hij
  rw [hj] at hf
  injection hf with hf
  subst hf
  exact hm.elim
 ·exact M.sep i j f (.val g) b hij hf hj hm
theorem Mem.two {base : Nat} {L : List Ent} {w : World} {g h : List Fld} (h1 : lieAll base w g ∧ ∀ (i : Nat) (f : Ent) (b : Nat), L[i]? = some f → f.mut b → apartAll b g) (h2 : lieAll base w h ∧ ∀ (i : Nat) (f : Ent) (b : Nat), L[i]? = some f → f.mut b → apartAll b h) : lieAll base w (g ++ h) ∧ ∀ (i : Nat) (f : Ent) (b : Nat), L[i]? = some f → f.mut b → apartAll b (g ++ h) :=
 ⟨h1.1.app h2.1, fun i f b hf hm x hx => (List.mem_append.1 hx).elim (h1.2 i f b hf hm x) (h2.2 i f b hf hm x)⟩
section
variable {ops : Array Oper} {Q : Exit → Act → World → Prop} {a : Act} {w w' w0 : World} {rest : List Oper} {o o1 o2 : Oper} {N : Nat} {L : List (Nat × Value)}
variable {σ : Type} {X : σ → World → Prop} {T : Nat → Prop} {E : List Ent} {s : σ}
theorem sw_mkrow (F : Fm N L a) (M : Mm X T w0 E s w) {i n sz : Nat} {ty ety : TypeId} {ps : Array (Nat × Operand)} {z : Value} (vs : List Value) (gss : List (List Fld)) (h : Is o (some i) (.buildSlice ty n ps)) (hv : opvs L (ps.toList.map (·.2)) = some vs) (hu : Tryd.prog.underlying ty = some (.slice ety)) (hi : (Tryd.prog.info? ety).map (fun i => (i.zero, i.size, decide (i.bytes ≤ 1000))) = some (some z, sz, true)) (h0 : (Nat.blt 0 (n * sz) && Nat.ble (n * sz) 1000) = true)
  (hf : Instr.fill (fun i => some (i * sz, sz)) ((Array.range (n * sz)).map (z.cells[· % z.cells.size]!)) ((ps.toList.map (·.1)).zip vs) = some (flatV gss).toArray) (hn : gss.length = n) (hl : ∀ g ∈ gss, g.length = sz ∧ lieAll w0.heap.size w g) (hga : ∀ (i : Nat) (f : Ent) (b : Nat), E[i]? = some f → f.mut b → ∀ g ∈ gss, apartAll b g) (hb : Nat.blt i N = true)
  (K : ∀ x a' w', Fm N ((i, .slice (some ⟨x, 0, none⟩) n n) :: L) a' → Mm X T w0 (.row (.slice (some ⟨x, 0, none⟩) n n) ety sz gss :: E) s w' → wpList Tryd.prog ops Q rest a' w') : wpList Tryd.prog ops Q (o :: rest) a w := by
 obtain ⟨ii, ii1, ii2, ii3, ii4⟩ := info_parts3 hi
 subst ii3
 rw [Bool.and_eq_true] at h0
 have q1 : 0 < n * ii.size := by simpa [Nat.blt_eq] using h0.1
 have q2 : n * ii.size ≤ 1000 := by simpa [Nat.ble_eq] using h0.2
 have e := F.evs hv
 have e2 : (ps.map fun (i, x) => (i, a.eval x)).toList = (ps.toList.map (·.1)).zip vs := by
  rw [Array.toList_map, ← e, List.map_map]
  generalize ps.toList = l
  induction l with
  | nil => rfl
  | cons q r ih => simp only [List.map_cons, List.zip_cons_cons, ih]; rfl
 refine wpList_buildSlice h.2.2 ty ety n ps h.2.1 (flatV gss).toArray ii z hu ii1 ii2 (by omega) (by omega) (by rw [e2]; exact hf) ?_
 rw [h.1]
 have hgl : gss.length ≤ 1000 := by
  rw [hn]
  have : 0 < ii.size := by cases hz : ii.size with | zero => rw [hz] at q1; simp at q1 | succ m => omega
  have : n * 1 ≤ n * ii.size := Nat.mul_le_mul (Nat.le_refl _) this
  omega
 have M2 := Mem.mkrow (ety := ety) M.mem hgl hl hga
 rw [hn] at M2
 exact K w.heap.size _ _ (F.put hb) (M.own ((Below.refl _ _).alloc M.mem.le _) M2)
end
end Go.Proofs.YtemjajljpoaioaaDoor
