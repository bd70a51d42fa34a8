import Derived.Test.YtemjajljpoaioaaDoorM01
namespace Go.Proofs.YtemjajljpoaioaaDoor
open Go.RowKit
set_option linter.unusedVariables false
set_option linter.unusedSimpArgs false
set_option maxRecDepth 20000
set_option maxHeartbeats 8000000
def cellT (P : Program) (t : TypeId) : Bool := match P.underlying t with | some d => !d.isRow | none => false
theorem cellT_out {P : Program} {t : TypeId} (h : cellT P t = true) : ∃ d, P.underlying t = some d ∧ d.isRow = false := by
 unfold cellT at h
 cases hu : P.underlying t with
 | none => rw [hu] at h; cases h
 | some d => rw [hu] at h; exact ⟨d, rfl, by simpa using h⟩
theorem RowG.off {lo x : Nat} {e : TypeId} {sz : Nat} {v : Value} {es : List (List Fld)} {w w' : World} (h : RowG lo e sz v es w) (hb : Off x w w') (hx : v.ownBlock ≠ some x) (ha : ∀ d ∈ es, apartAll x d) : RowG lo e sz v es w' := by
 refine ⟨⟨h.own.1, ?_⟩, fun d hd f hf => Fld.lies_off hb f (h.lie d hd f hf) (ha d hd f hf), h.out, h.len⟩
 rcases h.own.2 with q | ⟨g, cap, cur, e1, e2, e3, e4⟩
 ·exact .inl q
 ·exact .inr ⟨g, cap, cur, e1, e2, by rw [hb.block g (Array.getElem?_eq_some_iff.1 e3).1 (fun q => hx (by rw [e1, q]; rfl))]; exact e3, e4⟩
inductive Ent where
 | box (x : Nat) (cs : List Value) (t : TypeId)
 | row (v : Value) (e : TypeId) (sz : Nat) (es : List (List Fld))
 | val (fs : List Fld)
 | raw (v : Value) (e : TypeId) (cs : List Value)
def Ent.holds (base : Nat) (w : World) : Ent → Prop
 | .box x cs t => base ≤ x ∧ Blk w x cs.toArray t
 | .row v e sz es => RowG base e sz v es w
 | .val fs => lieAll base w fs
 | .raw v e cs => w.ownsRow base e 1 v cs.length cs
def Ent.free (b : Nat) : Ent → Prop
 | .box x _ _ => x ≠ b
 | .row v _ _ es => v.ownBlock ≠ some b ∧ ∀ d ∈ es, apartAll b d
 | .val fs => apartAll b fs
 | .raw v _ _ => v.ownBlock ≠ some b
def Ent.mut (b : Nat) : Ent → Prop
 | .box x _ _ => x = b
 | .row v _ _ _ => v.ownBlock = some b
 | .val _ => False
 | .raw v _ _ => v.ownBlock = some b
theorem raw_keep {lo : Nat} {e : TypeId} {v : Value} {n : Nat} {xs : List Value} {w w' : World} (h : w.ownsRow lo e 1 v n xs) (hb : ∀ g, lo ≤ g → g < w.heap.size → v.ownBlock = some g → w'.heap[g]? = w.heap[g]?) : w'.ownsRow lo e 1 v n xs := by
 refine ⟨h.1, ?_⟩
 rcases h.2 with q | ⟨g, cap, cur, e1, e2, e3, e4⟩
 ·exact .inl q
 ·exact .inr ⟨g, cap, cur, e1, e2, by rw [hb g e2 (Array.getElem?_eq_some_iff.1 e3).1 (by rw [e1]; rfl)]; exact e3, e4⟩
theorem raw_blk {lo : Nat} {e : TypeId} {v : Value} {n : Nat} {xs : List Value} {w : World} (h : w.ownsRow lo e 1 v n xs) {b : Nat} (hb : v.ownBlock = some b) : lo ≤ b ∧ b < w.heap.size := by
 rcases h.2 with q | ⟨g, cap, cur, e1, e2, e3, e4⟩
 ·rw [q.1] at hb; cases hb
 ·subst e1
  have q : some g = some b := hb
  injection q with q
  subst q
  exact ⟨e2, (Array.getElem?_eq_some_iff.1 e3).1⟩
theorem Ent.holds_hi {base : Nat} {w w' : World} : ∀ {e : Ent}, e.holds base w → Hi base w w' → e.holds base w'
 | .box x cs t, h, hb => ⟨h.1, by have := h.2.lt; have q := h.2; unfold Blk at *; rw [hb.block x h.1 this]; exact q⟩
 | .row v e sz es, h, hb => RowG.hi h hb
 | .val fs, h, hb => lieAll.hi h hb
 | .raw v e cs, h, hb => raw_keep h fun g h1 h2 _ => hb.block g h1 h2
theorem Ent.holds_off {base x : Nat} {w w' : World} : ∀ {e : Ent}, e.holds base w → Off x w w' → e.free x → e.holds base w'
 | .box y cs t, h, hb, hf => ⟨h.1, by have := h.2.lt; have q := h.2; unfold Blk at *; rw [hb.block y this hf]; exact q⟩
 | .row v e sz es, h, hb, hf => RowG.off h hb hf.1 hf.2
 | .val fs, h, hb, hf => fun f hq => Fld.lies_off hb f (h f hq) (hf f hq)
 | .raw v e cs, h, hb, hf => raw_keep h fun g _ h2 h3 => hb.block g h2 fun q => hf (by rw [h3, q])
theorem Ent.free_new {base x : Nat} {w : World} : ∀ {e : Ent}, e.holds base w → w.heap.size ≤ x → e.free x
 | .box y cs t, h, hx => fun q => by have := h.2.lt; omega
 | .row v e sz es, h, hx => ⟨fun q => by have := (RowG.blk h x q).2; omega, fun d hd f hf => Fld.lies_apart (.inr hx) f (h.lie d hd f hf)⟩
 | .val fs, h, hx => fun f hf => Fld.lies_apart (.inr hx) f (h f hf)
 | .raw v e cs, h, hx => fun q => by have := (raw_blk h q).2; omega
theorem Ent.mut_lt {base b : Nat} {w : World} : ∀ {e : Ent}, e.holds base w → e.mut b → base ≤ b ∧ b < w.heap.size
 | .box y cs t, h, q => by have := h.2.lt; have e : y = b := q; subst e; exact ⟨h.1, this⟩
 | .row v e sz es, h, q => RowG.blk h b q
 | .val fs, h, q => q.elim
 | .raw v e cs, h, q => raw_blk h q
theorem Ent.mut_one {b c : Nat} : ∀ {e : Ent}, e.mut b → e.mut c → b = c
 | .box y cs t, h, q => h.symm.trans q
 | .row v e sz es, h, q => by have h : v.ownBlock = some b := h; have q : v.ownBlock = some c := q; rw [h] at q; injection q
 | .val fs, h, q => h.elim
 | .raw v e cs, h, q => by have h : v.ownBlock = some b := h; have q : v.ownBlock = some c := q; rw [h] at q; injection q
structure Mem (base : Nat) (L : List Ent) (w : World) : Prop where
 le : base ≤ w.heap.size
 at_ : ∀ (i : Nat) (e : Ent), L[i]? = some e → e.holds base w
 sep : ∀ (i j : Nat) (e f : Ent) (b : Nat), i ≠ j → L[i]? = some e → L[j]? = some f → e.mut b → f.free b
section
variable {base : Nat} {L : List Ent} {w w' : World}
theorem Mem.nil (w : World) : Mem w.heap.size [] w := ⟨Nat.le_refl _, fun i e h => by simp at h, fun i j e f b _ h => by simp at h⟩
theorem Mem.hi (M : Mem base L w) (h : Hi base w w') : Mem base L w' := ⟨Nat.le_trans M.le h.size, fun i e q => Ent.holds_hi (M.at_ i e q) h, M.sep⟩
theorem Mem.push (M : Mem base L w) {e : Ent} (he : e.holds base w) (h1 : ∀ (i : Nat) (f : Ent) (b : Nat), L[i]? = some f → e.mut b → f.free b) (h2 : ∀ (i : Nat) (f : Ent) (b : Nat), L[i]? = some f → f.mut b → e.free b) : Mem base (e :: L) w := by
 refine ⟨M.le, fun i f q => ?_, fun i j f g b hij hi hj hm => ?_⟩
 ·cases i with
  | zero => simp at q; subst q; exact he
  | succ i => exact M.at_ i f (by simpa using q)
 ·cases i with
  | zero =>
   cases j with
   | zero => exact absurd rfl hij
   | succ j => simp at hi; subst hi; exact h1 j g b (by simpa using hj) hm
  | succ i =>
   cases j with
   | zero => simp at hj; subst hj; exact h2 i f b (by simpa using hi) hm
   | succ j => exact M.sep i j f g b (fun q => hij (by rw [q])) (by simpa using hi) (by simpa using hj) hm
theorem Mem.new (M : Mem base L w) (cs : List Value) (t : TypeId) : Mem base (.box w.heap.size cs t :: L) (w.alloc (.cells cs.toArray t)) := by
 have bA : Below w.heap.size w (w.alloc (.cells cs.toArray t)) := (Below.refl _ _).alloc (Nat.le_refl _) _
 refine (M.hi (Hi.of_below bA)).push ⟨M.le, Blk.new w _ t⟩ (fun i f b hf hm => ?_) (fun i f b hf hm => ?_)
 ·have e : w.heap.size = b := hm
  subst e
  exact Ent.free_new (M.at_ i f hf) (Nat.le_refl _)
 ·have := (Ent.mut_lt (M.at_ i f hf) hm).2
  show w.heap.size ≠ b
  omega
theorem Mem.call (M : Mem base L w) (h : Hi base w w') {fs : List Fld} (hv : lieAll w.heap.size w' fs) : Mem base (.val fs :: L) w' :=
 (M.hi h).push (hv.mono M.le) (fun i f b _ hm => hm.elim) fun i f b hf hm => fun x hx => Fld.lies_apart (.inl (Ent.mut_lt (M.at_ i f hf) hm).2) x (hv x hx)
theorem Mem.upd (M : Mem base L w) {k : Nat} {e e' : Ent} (hk : L[k]? = some e) (hs : w.heap.size ≤ w'.heap.size) (hold : e'.holds base w') (hch : ∀ j, j < w.heap.size → ¬ e.mut j → w'.heap[j]? = w.heap[j]?) (hmut : ∀ b, e'.mut b → e.mut b ∨ w.heap.size ≤ b) (hfree : ∀ (i : Nat) (f : Ent) (b : Nat), i ≠ k → L[i]? = some f → f.mut b → e'.free b) : Mem base (L.set k e') w' := by
 have hkl := (List.getElem?_eq_some_iff.1 hk).1
 have other : ∀ i f, i ≠ k → L[i]? = some f → f.holds base w' := fun i f hi hf => by
  by_cases hm : ∃ x, e.mut x
  ·obtain ⟨x, hx⟩ := hm
   exact Ent.holds_off (M.at_ i f hf) ⟨hs, fun j hj hne => hch j hj fun q => hne (Ent.mut_one q hx)⟩ (M.sep k i e f x (fun q => hi q.symm) hk hf hx)
  ·exact Ent.holds_hi (M.at_ i f hf) ⟨hs, fun j _ hj => hch j hj fun q => hm ⟨j, q⟩⟩
 refine ⟨Nat.le_trans M.le hs, fun i f q => ?_, fun i j f g b hij hi hj hm => ?_⟩
 ·by_cases hi : i = k
  ·subst hi
   rw [List.getElem?_set_self hkl] at q
   injection q with q
   subst q
   exact hold
  ·rw [List.getElem?_set_ne (fun q => hi q.symm)] at q
   exact other i f hi q
 ·by_cases hik : i = k
  ·subst hik
   rw [List.getElem?_set_self hkl] at hi
   injection hi with hi
   subst hi
   rw [List.getElem?_set_ne hij] at hj
   rcases hmut b hm with q | q
   ·exact M.sep i j e g b hij hk hj q
   ·exact Ent.free_new (M.at_ j g hj) q
  ·rw [List.getElem?_set_ne (fun q => hik q.symm)] at hi
   by_cases hjk : j = k
   ·subst hjk
    rw [List.getElem?_set_self hkl] at hj
    injection hj with hj
    subst hj
    exact hfree i f b hij hi hm
   ·rw [List.getElem?_set_ne (fun q => hjk q.symm)] at hj
    exact M.sep i j f g b hij hi hj hm
theorem Mem.box (M : Mem base L w) {k x : Nat} {cs : List Value} {t : TypeId} (h : L[k]? = some (.box x cs t)) : Blk w x cs.toArray t ∧ base ≤ x := ⟨(M.at_ k _ h).2, (M.at_ k _ h).1⟩
theorem Mem.set (M : Mem base L w) {k x : Nat} {cs : List Value} {t : TypeId} (h : L[k]? = some (.box x cs t)) (i : Nat) (v : Value) : Mem base (L.set k (.box x (cs.set i v) t)) (w.setCell ⟨x, i, none⟩ v) := by
 obtain ⟨kb, hx⟩ := M.box h
 refine M.upd h (by rw [World.size_setCell]; exact Nat.le_refl _) ⟨hx, ?_⟩ (fun j hj hm => Below.heap_setCell _ _ _ _ (fun q => hm q.symm)) (fun b q => .inl q) (fun i f b hi hf hm => M.sep i k f (.box x cs t) b hi hf h hm)
 have := kb.set i v
 rwa [List.setIfInBounds_toArray] at this
theorem Mem.setAll (M : Mem base L w) {k x : Nat} {cs us : List Value} {t : TypeId} (h : L[k]? = some (.box x cs t)) (hl : us.length = cs.length) : Mem base (L.set k (.box x us t)) (w.setCells x 0 us) := by
 obtain ⟨kb, hx⟩ := M.box h
 have hb := but_cells x us 0 w
 refine M.upd h hb.size ⟨hx, ?_⟩ (fun j hj hm => hb.block j hj (fun q => hm q.symm)) (fun b q => .inl q) (fun i f b hi hf hm => M.sep i k f (.box x cs t) b hi hf h hm)
 have := kb.putCells us 0 _ _
 rwa [putAt_all (by simp [hl])] at this
theorem Mem.nilrow (M : Mem base L w) (e : TypeId) (sz : Nat) : Mem base (.row (.slice none 0 0) e sz [] :: L) w :=
 M.push (RowG.nil base e sz w) (fun i f b hf hm => by cases hm) fun i f b hf hm => ⟨(fun q => by cases q), fun d hd => by cases hd⟩
theorem Mem.val (M : Mem base L w) {k : Nat} {fs : List Fld} (h : L[k]? = some (.val fs)) : lieAll base w fs := M.at_ k _ h
theorem Mem.rowval (M : Mem base L w) {k : Nat} {v : Value} {e : TypeId} {sz : Nat} {es : List (List Fld)} (h : L[k]? = some (.row v e sz es)) : ∃ la lc, v = .slice la es.length lc ∧ (Fld.l la lc es).lies base w := RowG.fld (M.at_ k _ h)
theorem Mem.tl (M : Mem base L w) {e : Ent} {L' : List Ent} (h : L = e :: L') : Mem base L' w := by
 subst h
 exact ⟨M.le, fun i f q => M.at_ (i + 1) f (by simpa using q), fun i j f g b hij hi hj hm => M.sep (i + 1) (j + 1) f g b (by omega) (by simpa using hi) (by simpa using hj) hm⟩
theorem Mem.drop (M : Mem base L w) (k : Nat) : Mem base (L.eraseIdx k) w := by
 refine ⟨M.le, fun i f q => ?_, fun i j f g b hij hi hj hm => ?_⟩
 ·rw [List.getElem?_eraseIdx] at q
  split at q
  ·exact M.at_ _ f q
  ·exact M.at_ _ f q
 ·rw [List.getElem?_eraseIdx] at hi hj
  split at hi <;> split at hj
  ·exact M.sep _ _ f g b hij hi hj hm
  ·exact M.sep _ _ f g b (by omega) hi hj hm
  ·exact M.sep _ _ f g b (by omega) hi hj hm
  ·exact M.sep _ _ f g b (by omega) hi hj hm
end
structure Mm {σ : Type} (X : σ → World → Prop) (T : Nat → Prop) (w0 : World) (L : List Ent) (s : σ) (w : World) : Prop where
 lt : ∀ k, T k → k < w0.heap.size
 stb : ∀ s u u', Below w0.heap.size u u' → X s u → X s u'
 but : But T w0 w
 mem : Mem w0.heap.size L w
 st : X s w
section
variable {σ : Type} {X : σ → World → Prop} {T : Nat → Prop} {w0 w w' : World} {E E' : List Ent} {s : σ}
theorem Mm.begin (hx : X s w) (hlt : ∀ k, T k → k < w.heap.size) (stb : ∀ s u u', Below w.heap.size u u' → X s u → X s u') : Mm X T w [] s w := ⟨hlt, stb, But.refl _ _, Mem.nil w, hx⟩
theorem Mm.own (M : Mm X T w0 E s w) (hb : Below w0.heap.size w w') (hm : Mem w0.heap.size E' w') : Mm X T w0 E' s w' :=
 ⟨M.lt, M.stb, M.but.trans_new (T := fun k => w0.heap.size ≤ k) ⟨hb.os, hb.tape, hb.output, hb.size, fun k _ q => hb.block k (by omega)⟩ (fun k hk q => by omega), hm, M.stb s w w' hb M.st⟩
theorem Mm.hi (M : Mm X T w0 E s w) (h : But T w w') : Hi w0.heap.size w w' := Hi.of_but h fun k q => M.lt k q
theorem Mm.ret (M : Mm X T w0 E s w) {s' : σ} (h : But T w w') (hx : X s' w') {fs : List Fld} (hv : lieAll w.heap.size w' fs) : Mm X T w0 (.val fs :: E) s' w' :=
 ⟨M.lt, M.stb, M.but.trans h, M.mem.call (M.hi h) hv, hx⟩
theorem Mm.unit (M : Mm X T w0 E s w) {s' : σ} (h : But T w w') (hx : X s' w') : Mm X T w0 E s' w' :=
 ⟨M.lt, M.stb, M.but.trans h, M.mem.hi (M.hi h), hx⟩
theorem Mm.tl {e : Ent} (M : Mm X T w0 (e :: E) s w) : Mm X T w0 E s w := ⟨M.lt, M.stb, M.but, M.mem.tl rfl, M.st⟩
theorem Mm.drop (M : Mm X T w0 E s w) (k : Nat) (h : E.eraseIdx k = E') : Mm X T w0 E' s w := ⟨M.lt, M.stb, M.but, h ▸ M.mem.drop k, M.st⟩
theorem Mm.nilrow (M : Mm X T w0 E s w) (e : TypeId) (sz : Nat) : Mm X T w0 (.row (.slice none 0 0) e sz [] :: E) s w := ⟨M.lt, M.stb, M.but, M.mem.nilrow e sz, M.st⟩
theorem Mm.setAt (M : Mm X T w0 E s w) {k x : Nat} {cs : List Value} {t : TypeId} (h : E[k]? = some (.box x cs t)) (i : Nat) (v : Value) : Mm X T w0 (E.set k (.box x (cs.set i v) t)) s (w.setCell ⟨x, i, none⟩ v) :=
 M.own ((But.set (S := fun k => k = x) w (p := ⟨x, i, none⟩) rfl v).below M.mem.le fun k q => by rw [q]; exact (M.mem.box h).2) (M.mem.set h i v)
end
section
variable {P : Program} {ops : Array Oper} {Q : Exit → Act → World → Prop} {a : Act} {w w' w0 : World} {rest : List Oper} {o : Oper} {N : Nat} {L : List (Nat × Value)}
variable {σ : Type} {X : σ → World → Prop} {T : Nat → Prop} {E : List Ent} {s : σ}
theorem sw_alloc (F : Fm N L a) (M : Mm X T w0 E s w) {i : Nat} {t : TypeId} (cs : List Value) (h : Is o (some i) (.alloc t)) (hz : (P.info? t).map (fun i => i.zero.map (·.cells)) = some (some cs.toArray)) (hi : Nat.blt i N = true) (K : ∀ x a' w', Fm N ((i, ptr x) :: L) a' → Mm X T w0 (.box x cs t :: E) s w' → wpList P ops Q rest a' w') : wpList P ops Q (o :: rest) a w := by
 cases hq : P.info? t with
 | none => rw [hq] at hz; cases hz
 | some ii =>
  rw [hq] at hz
  simp only [Option.map_some, Option.some.injEq] at hz
  cases hzz : ii.zero with
  | none => rw [hzz] at hz; cases hz
  | some z =>
   rw [hzz] at hz
   have hc : z.cells = cs.toArray := by simpa using hz
   exact ol_alloc h.2.2 h.2.1 (z := z) (n := ii.size) (by rw [hq]; simp [hzz]) (by
    rw [h.1, hc]
    exact K w.heap.size _ _ (F.put hi) (M.own ((Below.refl _ _).alloc M.mem.le _) (M.mem.new cs t)))
theorem sw_box (F : Fm N L a) (M : Mm X T w0 E s w) {i : Nat} {t : TypeId} {x : Operand} (cs : List Value) {v : Value} (h : Is o (some i) (.box t x)) (hv : opv L x = some v) (hc : v.cells = cs.toArray) (hi : Nat.blt i N = true) (K : ∀ x a' w', Fm N ((i, ptr x) :: L) a' → Mm X T w0 (.box x cs t :: E) s w' → wpList P ops Q rest a' w') : wpList P ops Q (o :: rest) a w :=
 ol_box h.2.2 h.2.1 (F.ev hv) (by
  rw [h.1, hc]
  exact K w.heap.size _ _ (F.put hi) (M.own ((Below.refl _ _).alloc M.mem.le _) (M.mem.new cs t)))
theorem sw_set (F : Fm N L a) (M : Mm X T w0 E s w) (k : Nat) {t : TypeId} {x y : Operand} {b n : Nat} {v : Value} {cs : List Value} {ty : TypeId} (h : Is o none (.store t x y)) (hx : opv L x = some (.pointer (some ⟨b, n, none⟩))) (hv : opv L y = some v) (hk : E[k]? = some (.box b cs ty)) (hi : (P.info? t).map (·.size) = some 1) (hn : Nat.blt n cs.length = true) (hc : v.cells = #[v]) (h1 : v.oneCell' = true) (K : ∀ w', Mm X T w0 (E.set k (.box b (cs.set n v) ty)) s w' → wpList P ops Q rest a w') : wpList P ops Q (o :: rest) a w := by
 obtain ⟨kb, hb⟩ := M.mem.box hk
 have hn : n < cs.length := by simpa [Nat.blt_eq] using hn
 refine ol_store h.2.2 h.1 h.2.1 (F.ev hx) (F.ev hv) (v := v) ?_ ?_ ?_ ?_
 ·rw [hc]; exact kb.thereAt n 1 (by simp; omega)
 ·rw [hc, hi]; rfl
 ·rw [hc]; intro u hu; simp at hu; subst hu; exact h1
 ·rw [hc]
  exact K _ (M.setAt hk n v)
theorem sw_setAll (F : Fm N L a) (M : Mm X T w0 E s w) (k : Nat) {t : TypeId} {x y : Operand} {b : Nat} {us cs : List Value} {ty : TypeId} (h : Is o none (.store t x y)) (hx : opv L x = some (.pointer (some ⟨b, 0, none⟩))) (hv : opv L y = some (.agg us.toArray)) (hk : E[k]? = some (.box b cs ty)) (hi : (P.info? t).map (·.size) = some us.length) (hl : us.length = cs.length) (h1 : (us.all fun u => u.oneCell') = true) (K : ∀ w', Mm X T w0 (E.set k (.box b us ty)) s w' → wpList P ops Q rest a w') : wpList P ops Q (o :: rest) a w := by
 obtain ⟨kb, hb⟩ := M.mem.box hk
 refine ol_store h.2.2 h.1 h.2.1 (F.ev hx) (F.ev hv) (v := .agg us.toArray) ?_ ?_ ?_ ?_
 ·exact kb.thereAt 0 _ (by show 0 + us.toArray.size ≤ _; simp; omega)
 ·rw [hi]; simp [Value.cells]
 ·intro u hu
  have : u ∈ us := by simpa [Value.cells] using hu
  exact List.all_eq_true.1 h1 u this
 ·have e : (Value.agg us.toArray).cells.toList = us := by simp [Value.cells]
  rw [e]
  exact K _ (M.own ((but_cells b us 0 w).below M.mem.le fun k q => by rw [q]; exact hb) (M.mem.setAll hk hl))
theorem sw_cell (F : Fm N L a) (M : Mm X T w0 E s w) (k : Nat) {i : Nat} {t : TypeId} {x : Operand} {b n : Nat} {v : Value} {cs : List Value} {ty : TypeId} (h : Is o (some i) (.load t x)) (hx : opv L x = some (.pointer (some ⟨b, n, none⟩))) (hk : E[k]? = some (.box b cs ty)) (hc : cs[n]? = some v) (ht : cellT P t = true) (hi : Nat.blt i N = true) (K : ∀ a', Fm N ((i, v) :: L) a' → wpList P ops Q rest a' w) : wpList P ops Q (o :: rest) a w := by
 obtain ⟨d, hu, hd⟩ := cellT_out ht
 obtain ⟨kb, hb⟩ := M.mem.box hk
 exact ol_cell h.2.2 h.2.1 (F.ev hx) ((kb.cell n).trans (by simpa using hc)) hu hd (by rw [h.1]; exact K _ (F.put hi))
theorem sw_all (F : Fm N L a) (M : Mm X T w0 E s w) (k : Nat) {i : Nat} {t : TypeId} {x : Operand} {b : Nat} {cs : List Value} {ty : TypeId} (h : Is o (some i) (.load t x)) (hx : opv L x = some (.pointer (some ⟨b, 0, none⟩))) (hk : E[k]? = some (.box b cs ty)) (ht : rowT P t = true) (hz : (P.info? t).map (·.size) = some cs.length) (hi : Nat.blt i N = true) (K : ∀ a', Fm N ((i, .agg cs.toArray) :: L) a' → wpList P ops Q rest a' w) : wpList P ops Q (o :: rest) a w := by
 obtain ⟨d, hu, hd⟩ := rowT_out ht
 obtain ⟨kb, hb⟩ := M.mem.box hk
 exact ol_row h.2.2 h.2.1 (F.ev hx) (by simpa using kb.range) hu hd hz (by rw [h.1]; exact K _ (F.put hi))
theorem sw_retbox {fn : Func} (F : Fm N L a) (M : Mm X T w0 E s w) (k : Nat) {i b : Nat} {t ty : TypeId} {cs : List Value} {R : Ending → World → Prop} (hres : fn.results = #[.cell i t]) (hi : lk i L = some (ptr b)) (hk : E[k]? = some (.box b cs ty)) (ht : rowT P t = true) (hz : (P.info? t).map (·.size) = some cs.length) (hR : R (.returned (.agg cs.toArray)) w) : bodyPost P fn R .ret a w := by
 obtain ⟨d, hu, hd⟩ := rowT_out ht
 obtain ⟨kb, hb⟩ := M.mem.box hk
 have hld := run_loadVar_mid (P := P) w b 0 t cs d (by simpa using kb.range) hu hd hz
 have e2 := F.2.2 i _ hi
 refine bodyPost_ret (v := .agg cs.toArray) ?_ F.2.1 hR
 have e3 : a.tmps[i]?.getD undef = .pointer (some ⟨b, 0, none⟩) := by
  have := e2
  unfold Act.eval at this
  rw [← Array.getD_eq_getD_getElem?]
  exact this
 simp [results, hres, asAddr, e3, hld]
theorem sw_rettmp {fn : Func} (F : Fm N L a) {i : Nat} {v : Value} {R : Ending → World → Prop} (hres : fn.results = #[.tmp i]) (hi : lk i L = some v) (hR : R (.returned v) w) : bodyPost P fn R .ret a w := by
 have e2 := F.2.2 i _ hi
 refine bodyPost_ret (v := v) ?_ F.2.1 hR
 have e3 : a.tmps[i]?.getD undef = v := by
  have := e2
  unfold Act.eval at this
  rw [← Array.getD_eq_getD_getElem?]
  exact this
 simp [results, hres, e3]
theorem sw_retnone {fn : Func} (F : Fm N L a) {R : Ending → World → Prop} (hres : fn.results = #[]) (hR : R (.returned (.tuple #[])) w) : bodyPost P fn R .ret a w :=
 bodyPost_ret (v := .tuple #[]) (by simp [results, hres]) F.2.1 hR
theorem sw_endnone {fn : Func} (F : Fm N L a) {R : Ending → World → Prop} (hres : fn.results = #[]) (hR : R (.returned (.tuple #[])) w) : bodyPost P fn R .normal a w := bodyPost_end (results_none hres _ _ _) F.2.1 hR
end
end Go.Proofs.YtemjajljpoaioaaDoor
