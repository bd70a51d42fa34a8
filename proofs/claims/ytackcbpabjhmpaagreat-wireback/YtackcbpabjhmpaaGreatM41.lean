import Derived.Test.YtackcbpabjhmpaaGreatM40
namespace Go.Proofs.YtackcbpabjhmpaaGreat
open Go.RowKit
set_option linter.unusedVariables false
set_option linter.unusedSimpArgs false
theorem map_cons' {α β : Type} {f : α → β} {l : List α} {a : β} {r : List β} (h : l.map f = a :: r) : ∃ x t, l = x :: t ∧ f x = a ∧ t.map f = r := by
 cases l with
 | nil => cases h
 | cons x t =>
  injection h with h1 h2
  exact ⟨x, t, rfl, h1, h2⟩
def Ct {σ : Type} (S : Nat → List σ → World → Prop) (R : Ending → World → Prop) (b xb off : Nat) (f : FuncId) (vs : List Value) (g : σ) (m : Nat) : Prop :=
 enters Tryz.prog f = true ∧ ∀ n segs w, S n (g :: segs) w → Calls Tryz.prog f (ptr b :: .pointer (some ⟨xb, off + n, none⟩) :: vs).toArray w fun e w' => (e = .returned (.tuple #[]) ∧ S (n + m) segs w') ∨ ∃ ch, e = .panicked ch ∧ R e w'
def Cm {σ : Type} (S : Nat → List σ → World → Prop) (R : Ending → World → Prop) (b xb off : Nat) (f : FuncId) (ety : TypeId) (g : σ) (m : Nat) : Prop :=
 enters Tryz.prog f = true ∧ ∀ n segs w w1, S n (g :: segs) w → Below w.heap.size w w1 → Blk w1 w.heap.size (ptrsA xb (off + n) m) ety → Calls Tryz.prog f #[ptr b, .slice (some ⟨w.heap.size, 0, none⟩) m m] w1 fun e w' => (e = .returned (.tuple #[]) ∧ S (n + m) segs w') ∨ ∃ ch, e = .panicked ch ∧ R e w'
section
variable {σ : Type} {S : Nat → List σ → World → Prop} {R : Ending → World → Prop} {b xb off : Nat} {f : FuncId} {vs : List Value} {g : σ} {m n : Nat} {segs : List σ} {N id i s k : Nat} {ops : Array Oper} {ts : Array TypeId} {L : List (Nat × Value)} {A : Act} {w : World} {Q : Exit → Act → World → Prop}
def subShape (i s k : Nat) (f : FuncId) (ex : List Operand) (ts : Array TypeId) : List Shp :=
 [(some i, .move (.tmp 0), none), (some (i + 1), .move (.tmp 1), none), (some (i + 2), .nilCheck (.tmp (i + 1)), none), (some (i + 3), .fieldAddr s (.tmp (i + 2)) k, none), (some (i + 4), .call { callee := .value (.func f), args := (.tmp i :: .tmp (i + 3) :: ex).toArray, argTypes := ts }, none)]
def passShape (i : Nat) (f : FuncId) (ex : List Operand) (ts : Array TypeId) : List Shp :=
 [(some i, .move (.tmp 0), none), (some (i + 1), .move (.tmp 1), none), (some (i + 2), .call { callee := .value (.func f), args := (.tmp i :: .tmp (i + 1) :: ex).toArray, argTypes := ts }, none)]
theorem ab_sub {ex : List Operand} (hC : Ct S R b xb off f vs g m) (hsh : ops.toList.map shp = subShape i s k f ex ts) (hev : ∀ A : Act, ex.map A.eval = vs) (hoff : fldOff Tryz.prog s k = some n) (chk : (ltAll i L && decide (i + 5 ≤ N)) = true) (hQ : ∀ ch (A' : Act) w', A'.defers = [] → R (.panicked ch) w' → Q (.panic ch) A' w')
  (m0 : (0, ptr b) ∈ L) (m1 : (1, Value.pointer (some ⟨xb, off, none⟩)) ∈ L) (F : Fr N L A) (H : S n (g :: segs) w) (K : ∀ A' w', Fr N L A' → S (n + m) segs w' → Q .normal A' w') : (Code.region id ops false).wp Tryz.prog Q A w := by
 rw [Bool.and_eq_true, decide_eq_true_eq] at chk
 obtain ⟨hl, hN⟩ := chk
 obtain ⟨o1, t1, e1, s1, q1⟩ := map_cons' hsh
 obtain ⟨o2, t2, e2, s2, q2⟩ := map_cons' q1
 obtain ⟨o3, t3, e3, s3, q3⟩ := map_cons' q2
 obtain ⟨o4, t4, e4, s4, q4⟩ := map_cons' q3
 obtain ⟨o5, t5, e5, s5, q5⟩ := map_cons' q4
 have e6 : t5 = [] := List.map_eq_nil_iff.1 q5
 subst e6 e5 e4 e3 e2
 have h1 := shp_is s1
 have h2 := shp_is s2
 have h3 := shp_is s3
 have h4 := shp_is s4
 have h5 := shp_is s5
 refine wp_region_list ?_
 rw [e1]
 refine ol_move h1.2.2 (.inl h1.2.1) ?_
 rw [h1.1, F.get m0]
 have l1 : ltAll (i + 1) ((i, ptr b) :: L) = true := lt_cons hl (by omega) (by omega)
 have F1 := F.set (i := i) (v := ptr b) (by omega) (free_lt hl (Nat.le_refl _))
 generalize A.put (some i) (ptr b) = A1 at *
 refine ol_move h2.2.2 (.inl h2.2.1) ?_
 rw [h2.1, F1.get (List.mem_cons_of_mem _ m1)]
 have F2 := F1.set (i := i + 1) (v := .pointer (some ⟨xb, off, none⟩)) (by omega) (free_lt l1 (Nat.le_refl _))
 have l2 : ltAll (i + 2) ((i + 1, Value.pointer (some ⟨xb, off, none⟩)) :: (i, ptr b) :: L) = true := lt_cons l1 (by omega) (by omega)
 generalize A1.put (some (i + 1)) (.pointer (some ⟨xb, off, none⟩)) = A2 at *
 refine ol_nil h3.2.2 h3.2.1 (F2.get (by simp : (i + 1, Value.pointer (some ⟨xb, off, none⟩)) ∈ _)) ?_
 rw [h3.1]
 have F3 := F2.set (i := i + 2) (v := .pointer (some ⟨xb, off, none⟩)) (by omega) (free_lt l2 (Nat.le_refl _))
 have l3 : ltAll (i + 3) ((i + 2, Value.pointer (some ⟨xb, off, none⟩)) :: (i + 1, Value.pointer (some ⟨xb, off, none⟩)) :: (i, ptr b) :: L) = true := lt_cons l2 (by omega) (by omega)
 generalize A2.put (some (i + 2)) (.pointer (some ⟨xb, off, none⟩)) = A3 at *
 refine ol_val (w' := w) h4.2.2 (v := .pointer (some ⟨xb, off + n, none⟩)) (by unfold execOp; rw [h4.2.1]; simp only [F3.get (by simp : (i + 2, Value.pointer (some ⟨xb, off, none⟩)) ∈ _)]; simp [Sem.run_bind, run_fldo hoff]) ?_
 rw [h4.1]
 have F4 := F3.set (i := i + 3) (v := .pointer (some ⟨xb, off + n, none⟩)) (by omega) (free_lt l3 (Nat.le_refl _))
 generalize A3.put (some (i + 3)) (.pointer (some ⟨xb, off + n, none⟩)) = A4 at *
 refine ol_callv h5.2.2 hC.1 h5.2.1 rfl (vs := (ptr b :: .pointer (some ⟨xb, off + n, none⟩) :: vs).toArray) (by rw [List.map_toArray]; simp only [List.map_cons]; rw [hev, F4.get (by simp : (i, ptr b) ∈ _), F4.get (by simp : (i + 3, Value.pointer (some ⟨xb, off + n, none⟩)) ∈ _)]) (hC.2 n segs w H) ?_
 rintro e w1 (⟨rfl, H1⟩ | ⟨ch, rfl, hR⟩)
 ·refine .inl ⟨_, rfl, ?_⟩
  rw [h5.1]
  have F5 : Fr N L A4 := F4.dropn 4
  exact wpList_nil (K _ _ (F5.set (i := i + 4) (v := .tuple #[]) (by omega) (free_lt hl (by omega))).tl H1)
 ·exact .inr ⟨ch, rfl, hQ _ _ _ F4.2.1 hR⟩
theorem ab_pass {ex : List Operand} (hC : Ct S R b xb off f vs g m) (hsh : ops.toList.map shp = passShape i f ex ts) (hev : ∀ A : Act, ex.map A.eval = vs) (chk : (ltAll i L && decide (i + 3 ≤ N)) = true) (hQ : ∀ ch (A' : Act) w', A'.defers = [] → R (.panicked ch) w' → Q (.panic ch) A' w')
  (m0 : (0, ptr b) ∈ L) (m1 : (1, Value.pointer (some ⟨xb, off, none⟩)) ∈ L) (F : Fr N L A) (H : S 0 (g :: segs) w) (K : ∀ A' w', Fr N L A' → S (0 + m) segs w' → Q .normal A' w') : (Code.region id ops false).wp Tryz.prog Q A w := by
 rw [Bool.and_eq_true, decide_eq_true_eq] at chk
 obtain ⟨hl, hN⟩ := chk
 obtain ⟨o1, t1, e1, s1, q1⟩ := map_cons' hsh
 obtain ⟨o2, t2, e2, s2, q2⟩ := map_cons' q1
 obtain ⟨o3, t3, e3, s3, q3⟩ := map_cons' q2
 have e6 : t3 = [] := List.map_eq_nil_iff.1 q3
 subst e6 e3 e2
 have h1 := shp_is s1
 have h2 := shp_is s2
 have h3 := shp_is s3
 refine wp_region_list ?_
 rw [e1]
 refine ol_move h1.2.2 (.inl h1.2.1) ?_
 rw [h1.1, F.get m0]
 have l1 : ltAll (i + 1) ((i, ptr b) :: L) = true := lt_cons hl (by omega) (by omega)
 have F1 := F.set (i := i) (v := ptr b) (by omega) (free_lt hl (Nat.le_refl _))
 generalize A.put (some i) (ptr b) = A1 at *
 refine ol_move h2.2.2 (.inl h2.2.1) ?_
 rw [h2.1, F1.get (List.mem_cons_of_mem _ m1)]
 have F2 := F1.set (i := i + 1) (v := .pointer (some ⟨xb, off, none⟩)) (by omega) (free_lt l1 (Nat.le_refl _))
 generalize A1.put (some (i + 1)) (.pointer (some ⟨xb, off, none⟩)) = A2 at *
 refine ol_callv h3.2.2 hC.1 h3.2.1 rfl (vs := (ptr b :: .pointer (some ⟨xb, off + 0, none⟩) :: vs).toArray) (by rw [List.map_toArray]; simp only [List.map_cons]; rw [hev, F2.get (by simp : (i, ptr b) ∈ _), F2.get (by simp : (i + 1, Value.pointer (some ⟨xb, off, none⟩)) ∈ _)]; rfl) (hC.2 0 segs w H) ?_
 rintro e w1 (⟨rfl, H1⟩ | ⟨ch, rfl, hR⟩)
 ·refine .inl ⟨_, rfl, ?_⟩
  rw [h3.1]
  have F5 : Fr N L A2 := F2.dropn 2
  exact wpList_nil (K _ _ (F5.set (i := i + 2) (v := .tuple #[]) (by omega) (free_lt hl (by omega))).tl H1)
 ·exact .inr ⟨ch, rfl, hQ _ _ _ F2.2.1 hR⟩
theorem ab_many {k0 : Nat} {bty ety : TypeId} (hC : Cm S R b xb off f ety g m) (hsh : ops.toList.map shp = manyShape i s k0 m bty f ts) (hck : manyChk ops = true) (hoff : ((List.range m).all fun j => fldOff Tryz.prog s (k0 + j) == some (n + j)) = true) (hu : Tryz.prog.underlying bty = some (.slice ety)) (hi : (Tryz.prog.info? ety).map (fun i => (i.zero, i.size)) = some (some (.pointer none), 1)) (hk : 0 < m ∧ m ≤ 8)
  (chk : (ltAll i L && decide (i + 3 + 3 * m ≤ N)) = true) (hQ : ∀ ch (A' : Act) w', A'.defers = [] → R (.panicked ch) w' → Q (.panic ch) A' w') (hQ' : ∀ c d v a w, Q (.panic c) (a.put (some d) v) w → Q (.panic c) a w)
  (m0 : (0, ptr b) ∈ L) (m1 : (1, Value.pointer (some ⟨xb, off, none⟩)) ∈ L) (F : Fr N L A) (H : S n (g :: segs) w) (K : ∀ A' w', Fr N L A' → S (n + m) segs w' → Q .normal A' w') : (Code.region id ops true).wp Tryz.prog Q A w :=
 st_many hsh hck hoff hu hi hC.1 hk (by kernel_rfl) chk hQ' m0 m1 F (R := fun _ e w' => (e = .returned (.tuple #[]) ∧ S (n + m) segs w') ∨ ∃ ch, e = .panicked ch ∧ R e w') (fun w1 b1 k1 => hC.2 n segs w w1 H b1 k1) (by
  rintro w1 e w2 _ (⟨rfl, h⟩ | ⟨ch, rfl, h⟩)
  ·exact .inl ⟨rfl, fun A' F' => K A' w2 F' h⟩
  ·exact .inr ⟨ch, rfl, fun A' hd => hQ ch A' w2 hd h⟩)
end
theorem fr_two' {fn : Func} {x y : Value} {N : Nat} (h : fn.ntmps = N) (h1 : 2 ≤ N) : Fr N [(0, x), (1, y)] { tmps := #[x, y] ++ Array.replicate (fn.ntmps - (#[x, y] : Array Value).size) undef, defers := [] } := by
 refine ⟨by simp; omega, rfl, fun p hp => ?_⟩
 simp only [Act.eval, Array.getD_eq_getD_getElem?]
 rcases List.mem_cons.1 hp with rfl | hp
 ·rw [Array.getElem?_append_left (by simp)]; rfl
 ·rw [List.mem_singleton.1 hp, Array.getElem?_append_left (by simp)]; rfl
theorem ab_fn {σ : Type} {S : Nat → List σ → World → Prop} {R : Ending → World → Prop} {b xb off f N : Nat} {fn : Func} {c : Code} {segs : List σ} {w : World} (hf : Tryz.prog.funcs[f]? = some fn) (hb : fn.body = some c) (hN : fn.ntmps = N) (h2 : 2 ≤ N) (H : S 0 segs w)
  (K : ∀ A, Fr N [(0, ptr b), (1, .pointer (some ⟨xb, off, none⟩))] A → c.wp Tryz.prog (bodyPost Tryz.prog fn R) A w) : Calls Tryz.prog f #[ptr b, .pointer (some ⟨xb, off, none⟩)] w R :=
 calls_of_wp hf hb (K _ (fr_two' hN h2))
inductive Part where
 | one (f : FuncId) (vs : List Value) (sc : List Sc)
 | many (f : FuncId) (ety : TypeId) (k : Nat) (c : Sc)
def Part.sc : Part → List Sc
 | .one _ _ sc => sc
 | .many _ _ k c => List.replicate k c
def Part.ok (S : Nat → List (List Sc) → World → Prop) (R : Ending → World → Prop) (b xb off : Nat) : Part → Prop
 | .one f vs sc => Ct S R b xb off f vs sc sc.length
 | .many f ety k c => Cm S R b xb off f ety (List.replicate k c) k
def Walks (f : FuncId) (ps : List Part) : Prop :=
 enters Tryz.prog f = true ∧ ∀ (S : Nat → List (List Sc) → World → Prop) (R : Ending → World → Prop) (b xb off : Nat) (w : World), (∀ p ∈ ps, p.ok S R b xb off) → S 0 (ps.map Part.sc) w → (∀ n w', S n [] w' → R (.returned (.tuple #[])) w') → Calls Tryz.prog f #[ptr b, .pointer (some ⟨xb, off, none⟩)] w R
inductive ListFn (f : FuncId) (lt ety : TypeId) (sz : Nat) : Prop
 | mk {fn : Func} {ts ts' : Array TypeId} {id0 id1 id2 id3 id4 id5 id6 id7 id8 b0 b1 : Nat} {a1 a2 a3 a4 a5 a6 q1 q2 q3 c1 c2 c3 c4 d1 d2 d3 d4 d5 e1 e2 t1 g1 g2 h1 h2 h3 h4 h5 h6 h7 h8 k1 k2 : Oper} (hf : Tryz.prog.funcs[f]? = some fn)
   (hb : fn.body = some (Code.seq (.region id0 #[a1, a2, a3, a4, a5, a6] false) (.seq (.region id1 #[q1, q2, q3] false) (.seq (.seq (.region id2 #[c1, c2, c3, c4] false) (.cond (.tmp 20) (.region id3 #[d1, d2, d3, d4, d5] false) .skip)) (Code.seq (.region id4 #[e1, e2] false) (.block b0 (.loop (.seq (.region id5 #[t1] false) (.seq (.cond (.tmp 27) .skip (.exit b0)) (.seq (.block b1 (.seq (.region id6 #[g1, g2] false) (.region id7 #[h1, h2, h3, h4, h5, h6, h7, h8] false))) (.region id8 #[k1, k2] false)))))))))))
   (hN : fn.ntmps = 38) (hres : fn.results = #[]) (hE : enters Tryz.prog f = true) (hu : Tryz.prog.underlying lt = some (.slice ety)) (hsz : (Tryz.prog.info? ety).map (·.size) = some sz) (hls : (Tryz.prog.info? lt).map (·.size) = some 1) (h01 : b0 ≠ b1)
   (O : HeadOps lt ts a1 a2 a3 a4 a5 a6 q1 q2 q3 c1 c2 c3 c4 d1 d2 d3 d4 d5) (O' : LoopOps lt ts' e1 e2 t1 g1 g2 h1 h2 h3 h4 h5 h6 h7 h8 k1 k2) : ListFn f lt ety sz
theorem fr_four {fn : Func} {x y z u : Value} {N : Nat} (h : fn.ntmps = N) (h1 : 4 ≤ N) : Fr N [(0, x), (1, y), (2, z), (3, u)] { tmps := #[x, y, z, u] ++ Array.replicate (fn.ntmps - (#[x, y, z, u] : Array Value).size) undef, defers := [] } := by
 refine ⟨by simp; omega, rfl, fun p hp => ?_⟩
 simp only [Act.eval, Array.getD_eq_getD_getElem?]
 rcases List.mem_cons.1 hp with rfl | hp
 ·rw [Array.getElem?_append_left (by simp)]; rfl
 rcases List.mem_cons.1 hp with rfl | hp
 ·rw [Array.getElem?_append_left (by simp)]; rfl
 rcases List.mem_cons.1 hp with rfl | hp
 ·rw [Array.getElem?_append_left (by simp)]; rfl
 ·rw [List.mem_singleton.1 hp, Array.getElem?_append_left (by simp)]; rfl
def Rdg (f : FuncId) (vs : List Value) (sc : List Sc) : Prop :=
 enters Tryz.prog f = true ∧ ∀ (b xb o : Nat) (cs : Array Value) (t : TypeId) (s : List UInt8) (w : World), At b xb o cs t sc s w → Calls Tryz.prog f (ptr b :: .pointer (some ⟨xb, o, none⟩) :: vs).toArray w fun e w' => RdE b xb o cs t sc s w e w'
def RS (b xb off : Nat) (t : TypeId) (R : Ending → World → Prop) (n : Nat) (segs : List (List Sc)) (w : World) : Prop :=
 ∃ cs s, At b xb (off + n) cs t segs.flatten s w ∧ ∀ e' w', RdE b xb (off + n) cs t segs.flatten s w e' w' → R e' w'
theorem rs_after {b xb off n : Nat} {t : TypeId} {R : Ending → World → Prop} {x : List Sc} {segs : List (List Sc)} {w w1 : World} {cs : Array Value} {s : List UInt8} {e : Ending} (hA : At b xb (off + n) cs t (x ++ segs.flatten) s w) (hC : ∀ e' w', RdE b xb (off + n) cs t (x ++ segs.flatten) s w e' w' → R e' w') (hE : RdE b xb (off + n) cs t x s w e w1) :
  (e = .returned (.tuple #[]) ∧ RS b xb off t R (n + x.length) segs w1) ∨ ∃ ch, e = .panicked ch ∧ R e w1 := by
 rcases hA.step hE with ⟨er, rfl, hF⟩ | ⟨rfl, c1, s1, A', C'⟩
 ·exact .inr ⟨_, rfl, hC _ _ hF⟩
 ·rw [Nat.add_assoc] at A' C'
  exact .inl ⟨rfl, c1, s1, A', fun e' w' q => hC _ _ (C' e' w' q)⟩
theorem Rdg.ct {b xb off : Nat} {t : TypeId} {R : Ending → World → Prop} {f : FuncId} {vs : List Value} {sc : List Sc} (h : Rdg f vs sc) : Ct (RS b xb off t R) R b xb off f vs sc sc.length :=
 ⟨h.1, fun n segs w ⟨cs, s, hA, hC⟩ => (h.2 b xb (off + n) cs t s w (At.left (y := segs.flatten) hA)).mono fun e w1 hE => rs_after hA hC hE⟩
theorem ptrs_cell {w : World} {lb xb o k : Nat} {ety : TypeId} (h : Blk w lb (ptrsA xb o k) ety) (i : Nat) (hi : i < k) : w.cell? ⟨lb, i, none⟩ = some (.pointer (some ⟨xb, o + i, none⟩)) := by
 rw [h.cell]
 simp [ptrsA, hi]
theorem numbers_cm {b xb off k : Nat} {t : TypeId} {R : Ending → World → Prop} (hk : k ≤ 16) : Cm (RS b xb off t R) R b xb off 124 187 (List.replicate k numC) k :=
 ⟨by kernel_rfl, fun n segs w w1 ⟨cs, s, hA, hC⟩ b1 kb => by
  have hl : At b xb (off + n) cs t (List.replicate k numC) s w := At.left (y := segs.flatten) hA
  refine (numbers_rd b xb w.heap.size k (off + n) k cs t s w1 hk (hl.below b1) kb.lt (by have := hA.lb; omega) (by have := hA.x.lt; omega) (ptrs_cell kb)).mono fun e w2 hE => ?_
  have := rs_after (x := List.replicate k numC) hA hC (RdE.below b1 hE)
  rw [List.length_replicate] at this
  exact this⟩
theorem digests_cm {b xb off k : Nat} {t : TypeId} {R : Ending → World → Prop} (hk : k ≤ 16) : Cm (RS b xb off t R) R b xb off 148 195 (List.replicate k .dig) k :=
 ⟨by kernel_rfl, fun n segs w w1 ⟨cs, s, hA, hC⟩ b1 kb => by
  have hl : At b xb (off + n) cs t (List.replicate k .dig) s w := At.left (y := segs.flatten) hA
  refine (digests_rd b xb w.heap.size k (off + n) k cs t s w1 hk (hl.below b1) kb.lt (by have := hA.lb; omega) (by have := hA.x.lt; omega) (ptrs_cell kb)).mono fun e w2 hE => ?_
  have := rs_after (x := List.replicate k .dig) hA hC (RdE.below b1 hE)
  rw [List.length_replicate] at this
  exact this⟩
theorem rs_end {b xb off n : Nat} {t : TypeId} {R : Ending → World → Prop} {w : World} (h : RS b xb off t R n [] w) : R (.returned (.tuple #[])) w := by
 obtain ⟨cs, s, hA, hC⟩ := h
 exact hC _ _ ⟨But.refl _ _, .inr ⟨[], s, by rw [List.flatten_nil, readAll]; rfl, rfl, hA.rd, hA.x, lieAll.nil _ _⟩⟩
def Part.rd : Part → Prop
 | .one f vs sc => Rdg f vs sc
 | .many f ety k c => k ≤ 16 ∧ ((f = 124 ∧ ety = 187 ∧ c = numC) ∨ (f = 148 ∧ ety = 195 ∧ c = .dig))
theorem Walks.reads {f : FuncId} {ps : List Part} {sc : List Sc} (h : Walks f ps) (hp : ∀ p ∈ ps, p.rd) (hs : (ps.map Part.sc).flatten = sc) : Rdg f [] sc := by
 refine ⟨h.1, fun b xb o cs t s w hA => ?_⟩
 refine h.2 (RS b xb o t (fun e w' => RdE b xb o cs t sc s w e w')) _ b xb o w (fun p q => ?_) ⟨cs, s, by rw [hs]; exact hA, fun e' w' q => by rw [hs] at q; exact q⟩ fun n w' q => rs_end q
 have := hp p q
 cases p with
 | one f vs sc => exact Rdg.ct this
 | many f ety k c =>
  obtain ⟨hk, ⟨rfl, rfl, rfl⟩ | ⟨rfl, rfl, rfl⟩⟩ := this
  ·exact numbers_cm hk
  ·exact digests_cm hk
theorem list_reads {f one : FuncId} {lt ety : TypeId} {els : List Sc} {most : Int} {z : Value} (hL : ListFn f lt ety els.length) (h1 : Rdg one [] els) (hz : (Tryz.prog.info? ety).map (fun i => (i.zero, i.size, decide (i.bytes ≤ 1000))) = some (some z, els.length, true)) (hzc : z.cells.toList = els.map Sc.zero) (hm : 0 ≤ most ∧ most ≤ 1000) (he : els ≠ [] ∧ els.length ≤ 1000) :
  Rdg f [.int .i64 most, .func (.func one) #[] #[]] [.list most els] := by
 obtain ⟨hf, hb, hN, hres, hE, hu, hsz, hls, h01, O, O'⟩ := hL
 refine ⟨hE, fun b xb o cs t s w h => ?_⟩
 obtain ⟨i0, hi, hz0, hz1, hz2⟩ := info_parts3 hz
 have zb := h.lb
 have zx := h.x.lt
 have hne := h.ne
 have hj := h.z.lt
 have hlen := h.len
 have c1 : w.cell? ⟨xb, o, none⟩ = some (.slice none 0 0) := by rw [h.x.cell]; exact h.z 0 _ rfl
 refine calls_of_wp hf hb ?_
 refine lx_head (n := 0) (la := none) (lc := 0) true O hu (fr_four hN (by omega)) c1 (RB := fun w1 e w2 => NumE b w.heap.size 0 #[.int .i64 0] 3 (numP most s) w1 e w2) (fun w1 b1 k1 => bounded_n b w.heap.size 0 #[.int .i64 0] 3 most s w1 (by omega) hlen (Blk.below h.rd b1 zb) k1 (by simp) (by omega)) ?_
 rintro w1 e w2 b1 kn ⟨B1, ⟨er, e1, rfl⟩ | ⟨n, r, e1, rfl, k1, kn1⟩⟩
 ·exact .inl ⟨_, rfl, fun A' hd => ⟨hd, (But.of_below b1).trans_new B1 (fun k hk q => by rcases q with q | q <;> omega), .inl ⟨er, by rw [readAll_one, Sc.read, e1], rfl⟩⟩⟩
 obtain ⟨hbk, hn0, hnm, hbk2⟩ := numP_back e1
 have hrl : r.length ≤ s.length := by
  rw [← hbk, List.length_append]; omega
 have BT : But (fun k => k = b ∨ k = xb) w w2 := (But.of_below b1).trans_new B1 (fun k hk q => by rcases q with q | q <;> omega)
 have kx1 : Blk w2 xb cs t := B1.blk (h.x.below b1 zx) (fun q => by rcases q with q | q <;> omega)
 obtain ⟨m, rfl⟩ : ∃ m : Nat, n = m := ⟨n.toNat, by omega⟩
 have k1' : Blk w2 b #[.bool true, .slice none 0 0, .string ⟨r.toArray⟩] 185 := k1
 refine .inr ⟨rfl, (k1'.cell 0).trans rfl, fun A F => ?_⟩
 rw [if_pos rfl]
 obtain ⟨d3, hu3, hr3⟩ := cellT_out (show cellT Tryz.prog 3 = true by kernel_rfl)
 have hbb : i0.bytes ≤ 1000 := by simpa using hz2
 have hmk := run_makeSlice (P := Tryz.prog) w2 lt ety i0 z hu hi hz0 .i64 .i64 (m : Int) (m : Int) (by omega) (by omega) (by
  rw [hz1, Int.toNat_natCast]
  have : m * els.length ≤ 1000 * 1000 := Nat.mul_le_mul (by omega) he.2
  omega) (by
  have : (i0.bytes : Int) * (m : Int) ≤ 1000 * 1000 := Int.mul_le_mul (by omega) (by omega) (by omega) (by omega)
  omega) (by omega)
 rw [hz1, Int.toNat_natCast] at hmk
 have L0 := LAt.start (t := t) (tr := ety) (els := els) (n := m) z.cells hzc k1 kx1 hne hj (by omega) BT
 have knn : Blk w2 w.heap.size #[.int .i64 (m : Int)] 3 := kn1
 have n0 : w2.cell? ⟨w.heap.size, 0, none⟩ = some (.int .i64 (m : Int)) := (knn.cell 0).trans rfl
 have zk := kx1.lt
 refine wp_region_list ?_
 show wpList _ _ _ [_, _, _, _, _] _ _
 refine ol_move O.d1.2.2 (.inl O.d1.2.1) ?_
 rw [O.d1.1, F.get (by simp : (1, Value.pointer (some ⟨xb, o, none⟩)) ∈ _)]
 have F1 := F.set (i := 21) (v := .pointer (some ⟨xb, o, none⟩)) (by omega) rfl
 generalize A.put (some 21) (.pointer (some ⟨xb, o, none⟩)) = A1 at *
 refine ol_cell O.d2.2.2 O.d2.2.1 (F1.get (by simp : (8, ptr w.heap.size) ∈ _)) n0 hu3 hr3 ?_
 rw [O.d2.1]
 have F2 := F1.set (i := 22) (v := .int .i64 (m : Int)) (by omega) rfl
 generalize A1.put (some 22) (.int .i64 (m : Int)) = A2 at *
 refine ol_val O.d3.2.2 (v := .slice (some ⟨w2.heap.size, 0, none⟩) m m) (w' := w2.alloc (.cells (madeCells z.cells (m * els.length)) ety)) (by
  unfold execOp
  rw [O.d3.2.1]
  simp only [F2.get (by simp : (22, Value.int .i64 (m : Int)) ∈ _)]
  rw [Sem.run_bind, hmk]
  rfl) ?_
 rw [O.d3.1]
 have F3 := F2.set (i := 23) (v := .slice (some ⟨w2.heap.size, 0, none⟩) m m) (by omega) rfl
 generalize A2.put (some 23) (.slice (some ⟨w2.heap.size, 0, none⟩) m m) = A3 at *
 refine ol_nil O.d4.2.2 O.d4.2.1 (F3.get (by simp : (21, Value.pointer (some ⟨xb, o, none⟩)) ∈ _)) ?_
 rw [O.d4.1]
 have F4 := F3.set (i := 24) (v := .pointer (some ⟨xb, o, none⟩)) (by omega) rfl
 generalize A3.put (some 24) (.pointer (some ⟨xb, o, none⟩)) = A4 at *
 have kxa := kx1.alloc (.cells (madeCells z.cells (m * els.length)) ety)
 refine ol_store O.d5.2.2 O.d5.1 O.d5.2.1 (F4.get (by simp : (24, Value.pointer (some ⟨xb, o, none⟩)) ∈ _)) (F4.get (by simp : (23, Value.slice (some ⟨w2.heap.size, 0, none⟩) m m) ∈ _)) (kxa.thereAt o _ (by show o + 1 ≤ _; omega)) (by rw [hls]; rfl) (fun u hu => by simp [Value.cells] at hu; subst hu; rfl) ?_
 have F5 : Fr 38 (lfr b xb o one w.heap.size) A4 := F4.dropn 4
 show wpList _ _ _ _ _ ((w2.alloc (.cells (madeCells z.cells (m * els.length)) ety)).setCell ⟨xb, o, none⟩ (.slice (some ⟨w2.heap.size, 0, none⟩) m m))
 rw [World.setCell_alloc_past _ _ _ _ zk]
 have knf : Blk ((w2.setCell ⟨xb, o, none⟩ (.slice (some ⟨w2.heap.size, 0, none⟩) m m)).alloc (.cells (madeCells z.cells (m * els.length)) ety)) w.heap.size #[.int .i64 (m : Int)] 3 := (knn.setOther ⟨xb, o, none⟩ (by show w.heap.size ≠ xb; omega) _).alloc _
 generalize (w2.setCell ⟨xb, o, none⟩ (.slice (some ⟨w2.heap.size, 0, none⟩) m m)).alloc (.cells (madeCells z.cells (m * els.length)) ety) = w3 at *
 refine wpList_nil ?_
 show Code.wp _ _ _ _ _
 refine lx_loop (n := m) (la := some ⟨w2.heap.size, 0, none⟩) (lc := m) (sz := els.length) (fun k w' => ∃ rcs es s1, LAt b xb w2.heap.size o cs t els ety m k rcs es r s1 w w') O' h01 h1.1 hu hsz hres (by omega) F5 ((knf.cell 0).trans rfl) ?_ ?_ ⟨_, _, _, L0⟩ ?_
 ·rintro k w' ⟨rcs, es, s1, hk⟩
  rw [hk.x.cell]
  simp [hk.oj]
 ·rintro k w' hlt ⟨rcs, es, s1, hk⟩
  refine ⟨w2.heap.size, 0, rfl, ?_⟩
  rw [Nat.zero_add]
  refine (h1.2 b w2.heap.size (k * els.length) rcs ety s1 w' (hk.at_ hlt)).mono fun e w4 hE => ?_
  rcases hk.step hlt he.1 hE with ⟨er, rfl, h2, hb3⟩ | ⟨rfl, rcs2, es2, s2, h2⟩
  ·exact .inr ⟨_, rfl, LAt.fails hb3 h2 e1⟩
  ·exact .inl ⟨rfl, rcs2, es2, s2, h2⟩
 ·rintro w' ⟨rcs, es, s1, hk⟩
  exact hk.done (by omega) e1
def PtrsD (w : World) (b lb : Nat) (ads : List Addr) (ns : List Int) : Prop :=
 ads.length = ns.length ∧ Safe w b lb ∧ ∀ i a n, ads[i]? = some a → ns[i]? = some n → w.cell? ⟨lb, i, none⟩ = some (.pointer (some a)) ∧ w.cell? a = some (.int .u64 n) ∧ Safe w b a.block ∧ (0 ≤ n ∧ n ≤ 18446744073709551615)
theorem PtrsD.kp {w w' : World} {base b lb : Nat} {ads : List Addr} {ns : List Int} (h : PtrsD w b lb ads ns) (hK : Kp base b w w') : PtrsD w' b lb ads ns := by
 refine ⟨h.1, h.2.1.kp hK, fun i a n ha hn => ?_⟩
 obtain ⟨h1, h2, h3, h4⟩ := h.2.2 i a n ha hn
 exact ⟨by rw [Safe.cell (a := ⟨lb, i, none⟩) h.2.1 hK]; exact h1, by rw [h3.cell hK]; exact h2, h3.kp hK, h4⟩
theorem digs_ok (l : List Int) : okL (digs l) = true := by
 induction l with
 | nil => rfl
 | cons n r ih => exact ih
theorem digs_take (l : List Int) (k : Nat) (n : Int) (h : l[k]? = some n) : encL (digs (l.take (k + 1))) = encL (digs (l.take k)) ++ be n 8 := by
 have e : l.take (k + 1) = l.take k ++ [n] := by rw [List.take_add_one, h]; rfl
 rw [e, show digs (l.take k ++ [n]) = digs (l.take k) ++ digs [n] by simp [digs], encL_append]
 simp [digs, encL, Atom.enc]
theorem digs_len (l : List Int) : (encL (digs l)).length = 8 * l.length := by
 induction l with
 | nil => rfl
 | cons n r ih => simp only [digs, List.map_cons, encL, Atom.enc, List.length_append, List.length_cons, be_len] at *; omega
set_option maxHeartbeats 800000 in
theorem digestsW (base b lb cap : Nat) (ads : List Addr) (ns : List Int) (out : List UInt8) (w : World) (hn : ns.length ≤ 16) (hL : out.length ≤ 1099511627000) (hP : PassAt w base b out) (hA : PtrsD w b lb ads ns) :
  Calls Tryz.prog 148 #[.pointer (some ⟨b, 0, none⟩), .slice (some ⟨lb, 0, none⟩) ns.length cap] w fun e w' => Wr base b out (digs ns) e w' ∧ Kp base b w w' := by
 have HA := show Hid (_ = _) from hA.1
 go_enter Tryz.func148, Tryz.ntmps148
 go_wp2
 go_loopw [5, 8] (fun _ iv wv => ∃ (k : Nat), k ≤ ns.length ∧ iv = .int .i64 k ∧ PassAt wv base b (out ++ encL (digs (ns.take k))) ∧ Kp base b w wv) (fun _ iv _ => ns.length - (intOf iv).toNat)
 case atStart => exact ⟨0, Nat.zero_le _, rfl, by simpa [digs, encL] using hP, Kp.refl _ _ _⟩
 case round =>
  obtain ⟨k, hk, rfl, hPk, hKk⟩ := hrel
  by_cases hlt : k < ns.length
  ·have hlt' : (k : Int) < (ns.length : Int) := by omega
   have hla : k < ads.length := by rw [HA.out]; exact hlt
   obtain ⟨p1, p2, p3, p4⟩ := (hA.kp hKk).2.2 k ads[k] ns[k] (List.getElem?_eq_getElem hla) (List.getElem?_eq_getElem hlt)
   have Hst : Hid (_ = _) := digs_take ns k ns[k] (List.getElem?_eq_getElem hlt)
   have hl : (out ++ encL (digs (ns.take k))).length ≤ 1099511627776 := by rw [List.length_append, digs_len, List.length_take]; omega
   generalize ads[k] = a at *
   generalize ns[k] = n at *
   go_wp2_with fail
   refine (digest_any base b a n _ _ p4 hl hPk p2).mono ?_
   rintro e w1 ⟨rfl, h1, k1⟩
   rw [List.append_assoc, ← Hst.out] at h1
   clear Hst
   go_wp2
   exact ⟨⟨k + 1, by omega, by go_num, h1, hKk.trans k1⟩, by simp [intOf]; omega⟩
  ·have hkk : k = ns.length := by omega
   have hf : PassAt wr base b (out ++ encL (digs ns)) := by
    rw [hkk, List.take_length] at hPk
    exact hPk
   have hge : ¬ (k : Int) < (ns.length : Int) := by omega
   clear hkk
   go_wp2
   go_end0
   exact ⟨.inl ⟨digs_ok ns, rfl, hf⟩, hKk⟩
end Go.Proofs.YtackcbpabjhmpaaGreat
