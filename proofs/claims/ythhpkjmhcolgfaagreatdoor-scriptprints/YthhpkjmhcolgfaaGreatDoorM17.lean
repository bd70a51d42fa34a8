import Derived.Test.YthhpkjmhcolgfaaGreatDoorM16
namespace Go.Proofs.YthhpkjmhcolgfaaGreatDoor
open Go.RowKit
set_option linter.unusedVariables false
set_option linter.unusedSimpArgs false
set_option maxRecDepth 20000
set_option maxHeartbeats 8000000
theorem Rv.fault {α : Type} (F : Nat → PM α) (e : Int) (x : α) : Rv F (.error e) x (.error e) := ⟨0, fun _ _ => rfl⟩
theorem here_fault (e : Int) : hereI opn (.error e) = ([], 0, 0) := rfl
theorem pick_fault (l : List (Int × Key)) (e : Int) : pickI l (.error e) = 0 := by
 induction l with
 | nil => rfl
 | cons p r ih => obtain ⟨k, s⟩ := p; exact ih
theorem stands_fixed (s t : Key) (σ : St) (h : σ.now = .fixed t) : stands s (.ok σ) = decide (t = s) := by
 show decide (σ.now = .fixed s) = _;rw [h]
 by_cases e : t = s
 ·subst e; simp
 ·rw [decide_eq_false e, decide_eq_false (fun q => e (by injection q))]
theorem stands_other (s : Key) (σ : St) (h : ∀ t, σ.now ≠ .fixed t) : stands s (.ok σ) = false := decide_eq_false (h s)
theorem op_tab : ∀ p ∈ opn, ∀ r ∈ ([1, 2, 4, 5, 6] : List Nat), ((operW (r : Int)).find? fun q => decide (p.1 = q.2)).elim 0 (·.1) = if ((opn.find? fun q => decide (p.1 = q.1)).getD ([], 0, 0)).2.2 = (r : Int) then ((opn.find? fun q => decide (p.1 = q.1)).getD ([], 0, 0)).2.1 else 0 := by decide
theorem op_keys : ∀ r ∈ ([1, 2, 4, 5, 6] : List Nat), ∀ p ∈ operW (r : Int), ∃ q ∈ opn, q.1 = p.2 := by decide
theorem here_pick (S : ES) (r : Nat) (h1 : 1 ≤ r) (h6 : r ≤ 6) (h3 : r ≠ 3) : pickI (operW r) S = if (hereI opn S).2.2 = r then (hereI opn S).2.1 else 0 := by
 cases S with
 | error e => rw [here_fault, pick_fault]; simp
 | ok σ =>
  have hr : r = 1 ∨ r = 2 ∨ r = 4 ∨ r = 5 ∨ r = 6 := by omega
  by_cases hn : ∃ t, σ.now = .fixed t
  ·obtain ⟨t, ht⟩ := hn;have hs := fun s => stands_fixed s t σ ht
   by_cases hm : ∃ p ∈ opn, p.1 = t
   ·obtain ⟨p, hp, e⟩ := hm;subst e
    have a1 : ∀ l : List (Int × Key), pickI l (.ok σ) = (l.find? fun q => decide (p.1 = q.2)).elim 0 (·.1) := fun l => by
     induction l with
     | nil => rfl
     | cons q l ih =>
      obtain ⟨k, s⟩ := q;rw [pickI, hs, List.find?_cons]
      cases hq : decide (p.1 = s) with
      | true => simp
      | false => simpa using ih
    have a2 : ∀ l, hereI l (.ok σ) = (l.find? fun q => decide (p.1 = q.1)).getD ([], 0, 0) := fun l => by
     induction l with
     | nil => rfl
     | cons q l ih =>
      rw [hereI, hs, List.find?_cons]
      cases hq : decide (p.1 = q.1) with
      | true => simp
      | false => simpa using ih
    rw [a1, a2];exact op_tab p hp r (by simpa using hr)
   ·have a2 : ∀ l, (∀ p ∈ l, p ∈ opn) → hereI l (.ok σ) = ([], 0, 0) := by
     intro l
     induction l with
     | nil => intro _; rfl
     | cons q l ih =>
      intro hl;rw [hereI, hs, decide_eq_false (fun e => hm ⟨q, hl q (List.mem_cons_self ..), e.symm⟩), cond_false];exact ih fun p hp => hl p (List.mem_cons_of_mem _ hp)
    have a1 : ∀ l : List (Int × Key), (∀ p ∈ l, ∃ q ∈ opn, q.1 = p.2) → pickI l (.ok σ) = 0 := by
     intro l
     induction l with
     | nil => intro _; rfl
     | cons q l ih =>
      intro hl;obtain ⟨k, s⟩ := q
      have : ¬ t = s := fun e => by
       obtain ⟨q, hq, e2⟩ := hl (k, s) (List.mem_cons_self ..);exact hm ⟨q, hq, e2.trans e.symm⟩
      rw [pickI, hs, decide_eq_false this, if_neg Bool.false_ne_true];exact ih fun p hp => hl p (List.mem_cons_of_mem _ hp)
    rw [a2 opn (fun _ h => h), a1 _ (op_keys r (by simp; omega))];simp
  ·have hs := fun s => stands_other s σ fun t q => hn ⟨t, q⟩
   have a1 : ∀ l : List (Int × Key), pickI l (.ok σ) = 0 := by
    intro l
    induction l with
    | nil => rfl
    | cons q l ih => obtain ⟨k, s⟩ := q; rw [pickI, hs, if_neg Bool.false_ne_true]; exact ih
   have a2 : ∀ l, hereI l (.ok σ) = ([], 0, 0) := by
    intro l
    induction l with
    | nil => rfl
    | cons q l ih => rw [hereI, hs, cond_false]; exact ih
   rw [a1, a2];simp
theorem chain_down {S S' : ES} {lo : Nat} {x z : EV} {h : Nat} : ∀ (hi : Nat), h ≤ hi → hi ≤ 6 → (∀ r, h < r → r ≤ hi → r ≠ 3 → pickI (operW r) S = 0) → Rv (fun n => chainT n h lo x) S z S' → Rv (fun n => chainT n hi lo x) S z S'
 | 0, h1, h2, hp, g => by
  have : h = 0 := by omega
  subst this;exact g
 | k + 1, h1, h2, hp, g => by
  by_cases e : h = k + 1
  ·subst e; exact g
  ·have ih := chain_down k (by omega) (by omega) (fun r q1 q2 => hp r q1 (by omega)) g
   by_cases hl : k + 1 < lo
   ·have q : Rv (fun _ => pur x) S z S' := ih.to fun n => chain_stop (by omega);exact q.to fun n => (chain_stop hl).symm
   ·have one : Rv (fun n => if k + 1 = 3 then pur x else loopT n ((k : Int) + 1) x) S x S := by
     by_cases h3 : k + 1 = 3
     ·exact (Rv.pur x S).to fun n => by rw [if_pos h3]
     ·refine Rv.succ ?_
      have p := (Rv.of (rel_pick (operW ((k : Int) + 1)) S)).bind (G := fun n op => if op = 0 then pur x else bnd nextT fun _ => bnd (exprT n ((k : Int) + 1 + 1)) fun y => if (k : Int) + 1 = 4 then pur (exP op 0 [] [x, y]) else loopT n ((k : Int) + 1) (exP op 0 [] [x, y])) (S2 := S) (y := x) ((Rv.pur x S).to fun n => by
       rw [if_pos]
       exact hp (k + 1) (by omega) (Nat.le_refl _) h3)
      exact p.to fun n => by rw [if_neg h3, loopT]
    have := one.bind (G := fun n y => chainT n k lo y) ih;exact this.to fun n => by rw [chain_eq, if_neg hl]
theorem chain_pass {S : ES} {hi lo : Nat} {x : EV} (h6 : hi ≤ 6) (h1 : 1 ≤ lo) (h : (hereI opn S).2.1 = 0 ∨ (hereI opn S).2.2 < lo ∨ (hi : Int) < (hereI opn S).2.2) : Rv (fun n => chainT n hi lo x) S x S := by
 by_cases hl : hi < lo
 ·exact (Rv.pur x S).to fun n => (chain_stop hl).symm
 ·refine chain_down (h := lo - 1) hi (by omega) h6 (fun r q1 q2 q3 => ?_) ((Rv.pur x S).to fun n => (chain_stop (by omega)).symm);rw [here_pick S r (by omega) (by omega) q3]
  split
  ·rcases h with h | h | h
   ·exact h
   ·omega
   ·omega
  ·rfl
theorem chain_step {S S1 S2 S3 : ES} {hi lo h : Nat} {x y z : EV} (h6 : hi ≤ 6) (h1 : 1 ≤ lo) (hh : (hereI opn S).2.2 = h) (h0 : (hereI opn S).2.1 ≠ 0) (hlo : lo ≤ h) (hhi : h ≤ hi) (h3 : h ≠ 3) (hn : Rv (fun _ => nextT) S () S1) (he : Rv (fun n => exprT n ((h : Int) + 1)) S1 y S2) (hz : S3 ≠ .error 0) (hc : Rv (fun n => chainT n (if h = 4 then 3 else h) lo (exP (hereI opn S).2.1 0 [] [x, y])) S2 z S3) : Rv (fun n => chainT n hi lo x) S z S3 := by
 refine chain_down (h := h) hi hhi h6 (fun r q1 q2 q3 => ?_) ?_
 ·rw [here_pick S r (by omega) (by omega) q3, if_neg (by omega)]
 have hp : pickI (operW (h : Int)) S = (hereI opn S).2.1 := by rw [here_pick S h (by omega) (by omega) h3, if_pos hh]
 obtain ⟨k, rfl⟩ : ∃ k, h = k + 1 := ⟨h - 1, by omega⟩
 generalize hop : (hereI opn S).2.1 = op at *
 obtain ⟨u, S4, g1, g2⟩ : ∃ u S4, Rv (fun n => if ((k + 1 : Nat) : Int) = 4 then pur (exP op 0 [] [x, y]) else loopT n ((k + 1 : Nat) : Int) (exP op 0 [] [x, y])) S2 u S4 ∧ Rv (fun n => chainT n k lo u) S4 z S3 := by
  by_cases h4 : k + 1 = 4
  ·have e : k = 3 := by omega
   subst e;exact ⟨_, S2, (Rv.pur _ S2).to fun n => by rw [if_pos (by omega)], hc.to fun n => by rw [if_pos rfl]⟩
  ·have hc : Rv (fun n => bnd (loopT n ((k : Int) + 1) (exP op 0 [] [x, y])) fun y => chainT n k lo y) S2 z S3 := hc.to fun n => by rw [if_neg h4, chain_eq, if_neg (by omega), if_neg h3]
   obtain ⟨u, S4, a1, a2⟩ := Rv.unbind (fun n => loop_le _ _ n) hz hc;exact ⟨u, S4, a1.to fun n => by rw [if_neg (by omega)]; rfl, a2⟩
 have one : Rv (fun n => loopT n ((k + 1 : Nat) : Int) x) S u S4 := by
  refine Rv.succ ?_
  have p := (Rv.of (rel_pick (operW ((k + 1 : Nat) : Int)) S)).bind (G := fun n op => if op = 0 then pur x else bnd nextT fun _ => bnd (exprT n (((k + 1 : Nat) : Int) + 1)) fun y => if ((k + 1 : Nat) : Int) = 4 then pur (exP op 0 [] [x, y]) else loopT n ((k + 1 : Nat) : Int) (exP op 0 [] [x, y])) (S2 := S4) (y := u) ((hn.bind (G := fun n _ => bnd (exprT n (((k + 1 : Nat) : Int) + 1)) fun y => if ((k + 1 : Nat) : Int) = 4 then pur (exP op 0 [] [x, y]) else loopT n ((k + 1 : Nat) : Int) (exP op 0 [] [x, y])) (he.bind g1)).to fun n => by
   rw [hp, if_neg h0])
  exact p.to fun n => by rw [loopT]
 have := one.bind (G := fun n y => chainT n k lo y) g2;exact this.to fun n => by rw [chain_eq, if_neg (by omega), if_neg h3]; rfl
theorem expr_not {S S1 : ES} {x : EV} (ha : Rv notT S x S1) (hn : stands kNot S = true) : ∀ (k r : Nat), r + k = 3 → 0 < r → ∀ (y : EV) (S' : ES), S' ≠ .error 0 → Rv (fun n => chainT n 2 r x) S1 y S' → Rv (fun n => exprT n r) S y S'
 | 0, r, hr, h0, y, S', hz, hc => by
  have : r = 3 := by omega
  subst this;have e : Rv (fun _ => pur x) S1 y S' := hc.to fun n => chain_stop (by omega);have g := (Rv.of (rel_is kNot S)).bind (G := fun n c => if c then notT n else exprT n (3 + 1)) ((ha.then_pur e).to fun n => by rw [hn]; rfl);exact Rv.succ (g.to fun n => by rw [exprT]; rfl)
 | k + 1, r, hr, h0, y, S', hz, hc => by
  have e : Rv (fun n => bnd (chainT n 2 (r + 1) x) fun y => if r = 3 then pur y else loopT n r y) S1 y S' := hc.to fun n => chain_last h0 (by omega);obtain ⟨z, S2, h1, h2⟩ := Rv.unbind (fun n => chain_le 2 (r + 1) x n) hz e
  have hz2 : S2 ≠ .error 0 := fun e => by
   subst e;obtain ⟨n, h2⟩ := h2;exact hz (h2 n (Nat.le_refl _))
  have ih := expr_not ha hn k (r + 1) (by omega) (by omega) z S2 hz2 h1;refine Rv.succ ?_;have h2 : Rv (fun n => loopT n r z) S2 y S' := h2.to fun n => by rw [if_neg (by omega)]
  have g := ih.bind (G := fun n y => loopT n r y) h2;refine g.to fun n => ?_;rw [exprT, if_neg (by omega), if_neg (by omega)];rfl
theorem fld_apart {b : Nat} : ∀ (fs : List Fld), apartAll b fs → cellsApart b fs
 | [], _ => trivial
 | f :: fs, h => ⟨h f (List.mem_cons_self ..), fld_apart fs fun x hx => h x (List.mem_cons_of_mem _ hx)⟩
theorem rows_apart {b : Nat} : ∀ (es : List (List Fld)), (∀ d ∈ es, apartAll b d) → rowsApart b es
 | [], _ => trivial
 | e :: es, h => ⟨fld_apart e (h e (List.mem_cons_self ..)), rows_apart es fun d hd => h d (List.mem_cons_of_mem _ hd)⟩
section
variable {base : Nat} {L : List Ent} {w : World}
theorem Mem.freeze (M : Mem base L w) (k : Nat) {la : Option Addr} {n lc : Nat} {e : TypeId} {sz : Nat} {es : List (List Fld)} (h : L[k]? = some (.row (.slice la n lc) e sz es)) : Mem base (L.set k (.val [.l la lc es])) w := by
 have hkl := (List.getElem?_eq_some_iff.1 h).1;have hl := M.rowlie k h;refine ⟨M.le, fun i f q => ?_, fun i j f g b hij hi hj hm => ?_⟩
 ·by_cases hi : i = k
  ·subst hi;rw [List.getElem?_set_self hkl] at q;injection q with q
   subst q;exact lie_cons hl (lie_nil _ _)
  ·rw [List.getElem?_set_ne (fun q => hi q.symm)] at q;exact M.at_ i f q
 ·by_cases hik : i = k
  ·subst hik;rw [List.getElem?_set_self hkl] at hi;injection hi with hi
   subst hi;exact hm.elim
  ·rw [List.getElem?_set_ne (fun q => hik q.symm)] at hi
   by_cases hjk : j = k
   ·subst hjk;rw [List.getElem?_set_self hkl] at hj;injection hj with hj
    subst hj;have q := M.sep i j f _ b hij hi h hm;intro x hx;rw [List.mem_singleton.1 hx];rcases hl.2.2 with z | ⟨rb, ro, e1, e2, e3, e4⟩
    ·exact .inl z
    ·subst e1;exact .inr ⟨rb, ro, rfl, fun z => q.1 (by rw [← z]; rfl), rows_apart es q.2⟩
   ·rw [List.getElem?_set_ne (fun q => hjk q.symm)] at hj;exact M.sep i j f g b hij hi hj hm
theorem Mem.reval (M : Mem base L w) (k : Nat) {fs gs : List Fld} (h : L[k]? = some (.val fs)) (hl : lieAll base w gs) (ha : ∀ b, apartAll b fs → apartAll b gs) : Mem base (L.set k (.val gs)) w := by
 have hkl := (List.getElem?_eq_some_iff.1 h).1;refine ⟨M.le, fun i f q => ?_, fun i j f g b hij hi hj hm => ?_⟩
 ·by_cases hi : i = k
  ·subst hi;rw [List.getElem?_set_self hkl] at q;injection q with q
   subst q;exact hl
  ·rw [List.getElem?_set_ne (fun q => hi q.symm)] at q;exact M.at_ i f q
 ·by_cases hik : i = k
  ·subst hik;rw [List.getElem?_set_self hkl] at hi;injection hi with hi
   subst hi;exact hm.elim
  ·rw [List.getElem?_set_ne (fun q => hik q.symm)] at hi
   by_cases hjk : j = k
   ·subst hjk;rw [List.getElem?_set_self hkl] at hj;injection hj with hj
    subst hj;exact ha b (M.sep i j f _ b hij hi h hm)
   ·rw [List.getElem?_set_ne (fun q => hjk q.symm)] at hj;exact M.sep i j f g b hij hi hj hm
end
section
variable {σ : Type} {X : σ → World → Prop} {T : Nat → Prop} {w0 w w' : World} {E E' : List Ent} {s : σ}
theorem Mm.over (M : Mm X T w0 E s w) (k : Nat) {la : Option Addr} {n lc : Nat} {e : TypeId} {sz : Nat} {es : List (List Fld)} (h : E[k]? = some (.row (.slice la n lc) e sz es)) (op m : Int) (nm : Key) (h1 : -9223372036854775808 ≤ op ∧ op ≤ 9223372036854775807) (h2 : -9223372036854775808 ≤ m ∧ m ≤ 9223372036854775807) : Mm X T w0 (E.set k (.val (exF op m nm la lc es))) s w := by
 have hkl := (List.getElem?_eq_some_iff.1 h).1;have hl := M.mem.rowlie k h
 have q := (M.mem.freeze k h).reval k (fs := [.l la lc es]) (gs := exF op m nm la lc es) (List.getElem?_set_self hkl) (lie_cons h1 (lie_cons h2 (lie_cons trivial (lie_cons hl (lie_nil _ _))))) fun b hb x hx => by
  rcases List.mem_cons.1 hx with rfl | hx
  ·trivial
  rcases List.mem_cons.1 hx with rfl | hx
  ·trivial
  rcases List.mem_cons.1 hx with rfl | hx
  ·trivial
  exact hb x hx
 rw [List.set_set] at q;exact ⟨M.lt, M.stb, M.but, q, M.st⟩
end
def MethIn {σ : Type} (P : Program) (X : σ → World → Prop) (T : Nat → Prop) (f : FuncId) (vs : List Value) (x : List Fld) (s : σ) (Post : Value → List Fld → σ → Prop) : Prop :=
 enters P f = true ∧ ∀ w0 E w, Mm X T w0 (.val x :: E) s w → Calls P f vs.toArray w fun e w' => ∃ v fs s', e = .returned v ∧ Mm X T w0 (.val fs :: E) s' w' ∧ Post v fs s'
theorem sw_callIn {P : Program} {ops : Array Oper} {Q : Exit → Act → World → Prop} {a : Act} {w w0 : World} {rest : List Oper} {o : Oper} {N : Nat} {L : List (Nat × Value)} {σ : Type} {X : σ → World → Prop} {T : Nat → Prop} {E : List Ent} {s : σ} {f : FuncId} {vs : List Value} {x : List Fld} {Post : Value → List Fld → σ → Prop} (hM : MethIn P X T f vs x s Post) (F : Fm N L a) (M : Mm X T w0 (.val x :: E) s w) {i : Nat} {xs : Array Operand} {ts : Array TypeId} (h : Is o (some i) (.call { callee := .value (.func f), args := xs, argTypes := ts })) (hv : opvs L xs.toList = some vs) (hi : Nat.blt i N = true)
  (K : ∀ v fs s' a' w', Post v fs s' → Fm N ((i, v) :: L) a' → Mm X T w0 (.val fs :: E) s' w' → wpList P ops Q rest a' w') : wpList P ops Q (o :: rest) a w := by
 have e : xs.map a.eval = vs.toArray := by
  rw [← F.evs hv, ← List.map_toArray]
 refine ol_call h.2.2 hM.1 h.2.1 e (hM.2 w0 E w M) ?_;rintro e w' ⟨v, fs, s', rfl, M', hp⟩;refine ⟨v, rfl, ?_⟩;rw [h.1];exact K v fs s' _ w' hp (F.put hi) M'
def pl (text : Key) (w : World) (b : Nat) : Nat :=
 match w.cell? ⟨b, 6, none⟩, w.cell? ⟨b, 1, none⟩, w.cell? ⟨b, 2, none⟩ with
 | some (.int _ e), some (.int _ at_), some (.int _ kd) => if e ≠ 0 then 0 else 16 * (text.length - at_.toNat + (if kd = 101 ∨ kd = 0 then 0 else 1)) + 1
 | _, _, _ => 0
theorem kd_none {t : Tok} : (tokK t = 101 ∨ tokK t = 0) ↔ (t = .fin ∨ t = .none) := by
 cases t <;> simp [tokK]
 split <;> decide
theorem PBox.pl {text : Key} {c : C4} {w : World} {b : Nat} {S : ES} (R : PBox text c w b S) : pl text w b = lf S := by
 cases S with
 | ok σ =>
  obtain ⟨a, t, h1, h2, k, h3, h4⟩ := R;have c6 : w.cell? ⟨b, 6, none⟩ = some (.int .i64 0) := (k.cell 6).trans rfl;have c1 : w.cell? ⟨b, 1, none⟩ = some (.int .i64 a) := (k.cell 1).trans rfl;have c2 : w.cell? ⟨b, 2, none⟩ = some (.int .u8 (tokK σ.now)) := (k.cell 2).trans rfl;unfold Go.Proofs.YthhpkjmhcolgfaaGreatDoor.pl;rw [c6, c1, c2];have hr : σ.rest.length = text.length - a := by rw [← h2, List.length_drop]
  simp only [ne_eq, not_true_eq_false, if_false, lf, need, mu, Int.toNat_natCast, hr]
  congr 3
  by_cases q : σ.now = .fin ∨ σ.now = .none
  ·rw [if_pos q, if_pos (kd_none.2 q)]
  ·rw [if_neg q, if_neg (fun z => q (kd_none.1 z))]
 | error e =>
  obtain ⟨h0, a, kd, t, n, lv, k⟩ := R;have c6 : w.cell? ⟨b, 6, none⟩ = some (.int .i64 e) := (k.cell 6).trans rfl;have c1 : w.cell? ⟨b, 1, none⟩ = some (.int .i64 a) := (k.cell 1).trans rfl;have c2 : w.cell? ⟨b, 2, none⟩ = some (.int .u8 kd) := (k.cell 2).trans rfl;unfold Go.Proofs.YthhpkjmhcolgfaaGreatDoor.pl;rw [c6, c1, c2];simp only [ne_eq, h0, not_false_eq_true, if_true, lf]
def ExQ (F : Nat → PM EV) (S : ES) (v : Value) (fs : List Fld) (S' : ES) : Prop := ∃ op m s la lc es, fs = exF op m s la lc es ∧ v = .agg (fs.map Fld.val).toArray ∧ Rv F S (pvAll fs) S'
theorem Mem.swap {base : Nat} {a c : Ent} {L : List Ent} {w : World} (M : Mem base (a :: c :: L) w) : Mem base (c :: a :: L) w := by
 have key : ∀ (j : Nat) (f : Ent), (c :: a :: L)[j]? = some f → (a :: c :: L)[if j = 0 then 1 else if j = 1 then 0 else j]? = some f := fun j f h => by
  match j, h with
  | 0, h => simpa using h
  | 1, h => simpa using h
  | j + 2, h => simpa using h
 refine ⟨M.le, fun i e h => M.at_ _ e (key i e h), fun i j e f b hij hi hj hm => M.sep _ _ e f b (fun q => hij ?_) (key i e hi) (key j f hj) hm⟩
 split at q <;> split at q <;> (try split at q) <;> (try split at q) <;> omega
theorem Mm.swap {σ : Type} {X : σ → World → Prop} {T : Nat → Prop} {w0 w : World} {a c : Ent} {E : List Ent} {s : σ} (M : Mm X T w0 (a :: c :: E) s w) : Mm X T w0 (c :: a :: E) s w := ⟨M.lt, M.stb, M.but, M.mem.swap, M.st⟩
theorem here_mem : ∀ (l : List (Key × Int × Int)) (S : ES), (hereI l S).2.1 ≠ 0 → hereI l S ∈ l ∧ Here S
 | [], S, h => absurd rfl h
 | p :: r, S, h => by
  rw [hereI] at h ⊢
  cases hs : stands p.1 S with
  | true => rw [hs] at h; exact ⟨List.mem_cons_self .., Here.of_stands hs⟩
  | false =>
   rw [hs] at h;have := here_mem r S h;exact ⟨List.mem_cons_of_mem _ this.1, this.2⟩
theorem here_Here {S : ES} (h : (hereI opn S).2.1 ≠ 0) : Here S := (here_mem opn S h).2
theorem opn_hold : ∀ p ∈ opn, 1 ≤ p.2.2 ∧ p.2.2 ≤ 6 ∧ p.2.2 ≠ 3 ∧ 0 ≤ p.2.1 ∧ p.2.1 ≤ 26 := by decide
theorem here_zero : ∀ (l : List (Key × Int × Int)) (S : ES), (∀ p ∈ l, p.2.1 ≠ 0) → (hereI l S).2.1 = 0 → hereI l S = ([], 0, 0)
 | [], S, _, _ => rfl
 | p :: r, S, hl, h => by
  rw [hereI] at h ⊢
  cases hs : stands p.1 S with
  | true => rw [hs] at h; exact absurd h (hl p (List.mem_cons_self ..))
  | false => rw [hs] at h; exact here_zero r S (fun q hq => hl q (List.mem_cons_of_mem _ hq)) h
theorem opn_nz : ∀ p ∈ opn, p.2.1 ≠ 0 := by decide
theorem rhereq_m (text : Key) (c : C4) (b : Nat) (S : ES) : Meth Tryz.prog (PdX text c b) (fun k => k = b) 171 [ptr b] S fun v fs S' => S = S' ∧ ∃ (t : Key) (op : Int) (h : Nat), v = .agg #[.string (str t), .int .i64 op, .int .i64 (h : Int)] ∧ (hereI opn S).2.1 = op ∧ (hereI opn S).2.2 = (h : Int) ∧ ((0 ≤ op ∧ op ≤ 26) ∧ h ≤ 6 ∧ (op ≠ 0 → 1 ≤ h ∧ h ≠ 3)) := by
 refine ⟨(rhere_m text c b S).1, fun w R hT => ((rhere_m text c b S).2 w R hT).mono ?_⟩;rintro e w' ⟨v, fs, S', e1, e2, e3, e4, e5, e6⟩;refine ⟨v, fs, S', e1, e2, e3, e4, e5, (hereI opn S).1, (hereI opn S).2.1, (hereI opn S).2.2.toNat, ?_⟩
 by_cases h0 : (hereI opn S).2.1 = 0
 ·have := here_zero opn S opn_nz h0;rw [e6, this];exact ⟨rfl, rfl, rfl, by decide, by decide, fun q => absurd rfl q⟩
 ·have := opn_hold _ (here_mem opn S h0).1;refine ⟨?_, rfl, by omega, by omega, by omega, fun _ => by omega⟩;rw [e6, Int.toNat_of_nonneg (by omega)]
theorem rv_hnext {S S1 : ES} (h : Rv (fun _ => nextT) S () S1) (hh : Here S) : need S1 + 16 ≤ need S := by
 obtain ⟨n, h⟩ := h;exact need_here (h n (Nat.le_refl _)) hh
theorem prel_no {S : ES} {kd n e : Int} {tx : Key} (h : PRel S kd tx n e) (q : (e == 0) = false) : ∃ er, S = .error er := by
 cases S with
 | error er => exact ⟨er, rfl⟩
 | ok σ => rw [h.2.2.2] at q; cases q
theorem prel_yes {S : ES} {kd n e : Int} {tx : Key} (h : PRel S kd tx n e) (q : (e == 0) = true) : ∃ σ, S = .ok σ := by
 cases S with
 | error er => exact absurd (h.1.symm.trans (eq_of_beq q)) h.2
 | ok σ => exact ⟨σ, rfl⟩
theorem rmore_of {m : Nat} (text : Key) (c : C4) (b : Nat) (IH : ∀ (S : ES) (r : Nat), need S < m → 1 ≤ r → r ≤ 7 → Meth Tryz.prog (PdX text c b) (fun k => k = b) 112 [ptr b, .int .i64 r] S (ExQ (fun n => exprT n r) S)) (S : ES) (hm : need S ≤ m) (opz mz : Int) (sz : Key) (laz : Option Addr) (lcz : Nat) (esz : List (List Fld)) (lo hi : Nat) (h1 : 1 ≤ lo) (h6 : hi ≤ 6) : MethIn Tryz.prog (PdX text c b) (fun k => k = b) 144 [ptr b, .agg ((exF opz mz sz laz lcz esz).map Fld.val).toArray, .int .i64 (lo : Int), .int .i64 (hi : Int)] (exF opz mz sz laz lcz esz) S (ExQ (fun n => chainT n hi lo (pvAll (exF opz mz sz laz lcz esz))) S) := by
 refine ⟨by kernel_rfl, fun w0 E wI M => ?_⟩;refine sw_fn Tryz.func144 rfl 53 Tryz.ntmps144 rfl fun A F => ?_;refine sq (rg ?_);refine sw_box F M [.int .i64 opz, .int .i64 mz, .string (str sz), .slice laz esz.length lcz] ⟨rfl, rfl, rfl⟩ rfl rfl rfl fun xb A w F M => ?_;replace M := M.swap;refine alo F M [.int .i64 0, .int .i64 0, .string ⟨#[]⟩, .slice none 0 0] fun rb A w F M=>?_;replace M := M.swap;refine en (sq ?_);refine wp_block ?_;refine wp_loop (fun A w => ∃ (S1 : ES) (op1 m1 : Int) (s1 : Key) (la1 : Option Addr) (lc1 : Nat) (es1 : List (List Fld)) (hi1 : Nat), hi1 ≤ 6 ∧ need S1 ≤ need S ∧ Fm 53 [(8, ptr rb), (5, ptr xb), (3, .int .i64 (hi1 : Int)), (2, .int .i64 (lo : Int)), (0, ptr b)] A ∧ Mm (PdX text c b) (fun k => k = b) w0 (.val (exF op1 m1 s1 la1 lc1 es1) :: .box rb [.int .i64 0, .int .i64 0, .string ⟨#[]⟩, .slice none 0 0] 118 :: .box xb [.int .i64 op1, .int .i64 m1, .string (str s1), .slice la1 es1.length lc1] 118 :: E) S1 w ∧ (∀ z S', S' ≠ .error 0 → Rv (fun n => chainT n hi1 lo (pvAll (exF op1 m1 s1 la1 lc1 es1))) S1 z S' → Rv (fun n => chainT n hi lo (pvAll (exF opz mz sz laz lcz esz))) S z S')) (fun _ w => pl text w b) ?_ ?_
 ·exact ⟨S, opz, mz, sz, laz, lcz, esz, hi, h6, Nat.le_refl _, F.keep [8, 5, 3, 2, 0] rfl, M, fun _ _ _ q => q⟩
 rintro A w ⟨S1, op1, m1, s1, la1, lc1, es1, hi1, hhi, hle, F, M, hk⟩;have hpl := M.st.pl;refine sq (sq (rg ?_));refine mv F fun A F=>?_;refine ni F fun A F=>?_;refine fl F 6 fun A F=>?_;obtain ⟨atz1, kdz1, txz1, nz1, lvz1, erz1, kbz1, hrz1⟩ := M.st.cells;refine sw_ext F ((kbz1.cell 6).trans rfl) ⟨rfl, rfl, rfl⟩ rfl (by kernel_rfl) rfl fun A F => ?_;refine eqi F fun A F=>?_;refine en (cd F (fun hc2=>?_) fun hc2=>?_)
 ·have hok := prel_yes hrz1 hc2;refine wp_skip (wp_block ?_);refine sq (rg ?_);refine mv F fun A F=>?_;refine sw_call0 (rhereq_m text c b S1) F M ⟨rfl, rfl, rfl⟩ rfl rfl ?_;rintro _ _ A w ⟨_, rfl, t2, o2, h2, rfl, ho2, hh2, hb2⟩ F M;refine alo F M [.string ⟨#[]⟩, .int .i64 0, .int .i64 0] fun x4 A w F M=>?_;refine sta F M 0 fun w M=>?_;dsimp only [List.set] at M;refine en (sq (sq (rg ?_)));refine fl F 1 fun A F=>?_;refine ce F M 0 fun A F=>?_;refine eqi F fun A F=>?_;refine mv F fun A F=>?_
  cases c5 : (o2 == 0) with
  | true =>
   rw [c5] at F;refine off4 F 3 3 3 3 fun A F=>?_;refine pkT F fun A F=>?_;refine mv F fun A F=>?_;refine off4 F 9 9 9 9 fun A F=>?_;refine pkT F fun A F=>?_;refine en (sw_true F rfl ?_);refine sq (rg ?_);refine ala F M 3 fun A F=>?_;refine sta F M 2 fun w M=>?_;dsimp only [List.set] at M;refine en (wp_ret ?_);repeat first|refine tr ?_|refine br ?_
   have M2 := M;replace M2 := M2.drop 3 rfl;replace M2 := M2.drop 2 rfl;replace M2 := M2.drop 0 rfl;exact sw_retbox F M 2 Tryz.results144 rfl rfl (by kernel_rfl) (by kernel_rfl) ⟨_, _, S1, rfl, M2, op1, m1, s1, la1, lc1, es1, rfl, rfl, hk _ _ (rv_perr M.st) (chain_pass hhi h1 (.inl (by rw [ho2]; exact eq_of_beq c5)))⟩
  | false =>
   rw [c5] at F;have hne : o2 ≠ 0 := by intro q; rw [q] at c5; simp at c5
   refine on' F 3 ?_;refine fl F 2 fun A F=>?_;refine on' F 3 ?_;refine ce F M 0 fun A F=>?_;refine on' F 3 ?_;refine mv F fun A F=>?_;refine on' F 3 ?_;refine lsi F fun A F=>?_;refine pkF F fun A F=>?_;refine mv F fun A F=>?_
   cases c6 : (decide ((h2 : Int) < (lo : Int))) with
   | true =>
    rw [c6] at F;replace c6 := of_decide_eq_true c6;refine off4 F 9 9 9 9 fun A F=>?_;refine pkT F fun A F=>?_;refine en (sw_true F rfl ?_);refine sq (rg ?_);refine ala F M 3 fun A F=>?_;refine sta F M 2 fun w M=>?_;dsimp only [List.set] at M;refine en (wp_ret ?_);repeat first|refine tr ?_|refine br ?_
    have M2 := M;replace M2 := M2.drop 3 rfl;replace M2 := M2.drop 2 rfl;replace M2 := M2.drop 0 rfl;exact sw_retbox F M 2 Tryz.results144 rfl rfl (by kernel_rfl) (by kernel_rfl) ⟨_, _, S1, rfl, M2, op1, m1, s1, la1, lc1, es1, rfl, rfl, hk _ _ (rv_perr M.st) (chain_pass hhi h1 (.inr (.inl (by rw [hh2]; omega))))⟩
   | false =>
    rw [c6] at F;replace c6 := of_decide_eq_false c6;refine on' F 9 ?_;refine fl F 2 fun A F=>?_;refine on' F 9 ?_;refine ce F M 0 fun A F=>?_;refine on' F 9 ?_;refine mv F fun A F=>?_;refine on' F 9 ?_;refine gti F fun A F=>?_;refine pkF F fun A F=>?_;refine en (cd F (fun hc7=>?_) fun hc7=>?_)
    ·replace hc7 := of_decide_eq_true hc7;refine sq (rg ?_);refine ala F M 3 fun A F=>?_;refine sta F M 2 fun w M=>?_;dsimp only [List.set] at M;refine en (wp_ret ?_);repeat first|refine tr ?_|refine br ?_
     have M2 := M;replace M2 := M2.drop 3 rfl;replace M2 := M2.drop 2 rfl;replace M2 := M2.drop 0 rfl;exact sw_retbox F M 2 Tryz.results144 rfl rfl (by kernel_rfl) (by kernel_rfl) ⟨_, _, S1, rfl, M2, op1, m1, s1, la1, lc1, es1, rfl, rfl, hk _ _ (rv_perr M.st) (chain_pass hhi h1 (.inr (.inr (by rw [hh2]; omega))))⟩
    replace hc7 := of_decide_eq_false hc7;refine wp_skip (sq (rg ?_));refine mv F fun A F=>?_;refine sw_call0 (rnext_m text c b S1) F M ⟨rfl, rfl, rfl⟩ rfl rfl ?_;rintro _ S8 A w ⟨_, h9⟩ F M;refine en (sq (rg ?_));refine mv F fun A F=>?_;refine fl F 2 fun A F=>?_;refine ce F M 0 fun A F=>?_;refine sw_add F ⟨rfl, rfl, rfl⟩ rfl rfl (by omega) rfl fun A F => ?_;refine sw_call (IH S8 (h2 + 1) (by have := rv_hnext h9 (here_Here (S := S1) (by rw [ho2]; exact hne)); omega) (by omega) (by omega)) F M ⟨rfl, rfl, rfl⟩ rfl rfl ?_;rintro _ _ S10 A w ⟨op11, m11, s11, la11, lc11, es11, rfl, rfl, h11⟩ F M;refine alo F M [.int .i64 0, .int .i64 0, .string ⟨#[]⟩, .slice none 0 0] fun x13 A w F M=>?_;refine sta F M 0 fun w M=>?_;dsimp only [List.set] at M;refine en (sq (rg ?_));refine fl F 1 fun A F=>?_;refine ce F M 2 fun A F=>?_;refine ala F M 5 fun A F=>?_;refine ala F M 0 fun A F=>?_;refine sw_mkrow (ety := 118) (sz := 4) (z := .agg #[.int .i64 0, .int .i64 0, .string ⟨#[]⟩, .slice none 0 0]) F M _ [exF op1 m1 s1 la1 lc1 es1, exF op11 m11 s11 la11 lc11 es11] ⟨rfl, rfl, rfl⟩ rfl (by kernel_rfl) (by kernel_rfl) rfl (by kernel_rfl) rfl ?_ ?_ rfl fun x14 A w F M => ?_
    ·intro g hg;simp only [List.mem_cons, List.not_mem_nil, or_false] at hg;rcases hg with rfl | rfl
     ·exact ⟨rfl, (M.mem.vals 3 rfl).1⟩
     ·exact ⟨rfl, (M.mem.vals 1 rfl).1⟩
    ·intro i f b hf hm g hg;simp only [List.mem_cons, List.not_mem_nil, or_false] at hg;rcases hg with rfl | rfl
     ·exact (M.mem.vals 3 rfl).2 i f b hf hm
     ·exact (M.mem.vals 1 rfl).2 i f b hf hm
    refine sw_build F _ [.int .i64 o2, .int .i64 0, .string ⟨#[]⟩, .slice (some ⟨x14, 0, none⟩) 2 2] ⟨rfl, rfl, rfl⟩ rfl (by kernel_rfl) rfl fun A F => ?_;refine sta F M 6 fun w M=>?_;dsimp only [List.set] at M;refine en (sq (rg ?_));refine fl F 2 fun A F=>?_;refine ce F M 3 fun A F=>?_;refine as1 F fun A F=>?_;refine en (sq (rg ?_));refine fl F 2 fun A F=>?_;refine ce F M 3 fun A F=>?_;refine eqi F fun A F=>?_;refine en (cd F (fun hc16=>?_) fun hc16=>?_)
    ·refine rg ?_;refine as1 F fun A F=>?_;refine sw_end ?_;show _ ∧ _;have M2 := M.over 0 rfl o2 0 [] (by omega) (by omega);simp only [List.set_cons_zero, List.set_cons_succ] at M2;replace M2 := M2.drop 4 rfl;replace M2 := M2.drop 3 rfl;replace M2 := M2.drop 2 rfl;replace M2 := M2.drop 1 rfl;have hpl2 := M2.st.pl;have hless := rv_hnext h9 (here_Here (S := S1) (by rw [ho2]; exact hne));have hxs := h11.shr (fun n => expr_shr1 n _);have hlf := lf_le S10;have hS1 : lf S1 = need S1 + 1 := by obtain ⟨σ, rfl⟩ := hok; rfl
     refine ⟨⟨S10, o2, 0, [], _, _, _, 3, by omega, by omega, F.keep [8, 5, 3, 2, 0] rfl, M2, fun z S' hz q => hk z S' hz (chain_step (h := h2) hhi h1 hh2 (by rw [ho2]; exact hne) (by omega) (by omega) (hb2.2.2 hne).2 h9 h11 hz (by rw [if_pos (by have := eq_of_beq hc16; omega), ho2]; exact q))⟩, by omega⟩
    refine wp_skip ?_;show _ ∧ _;have M2 := M.over 0 rfl o2 0 [] (by omega) (by omega);simp only [List.set_cons_zero, List.set_cons_succ] at M2;replace M2 := M2.drop 4 rfl;replace M2 := M2.drop 3 rfl;replace M2 := M2.drop 2 rfl;replace M2 := M2.drop 1 rfl;have hpl2 := M2.st.pl;have hless := rv_hnext h9 (here_Here (S := S1) (by rw [ho2]; exact hne));have hxs := h11.shr (fun n => expr_shr1 n _);have hlf := lf_le S10;have hS1 : lf S1 = need S1 + 1 := by obtain ⟨σ, rfl⟩ := hok; rfl
    refine ⟨⟨S10, o2, 0, [], _, _, _, h2, by omega, by omega, F.keep [8, 5, 3, 2, 0] rfl, M2, fun z S' hz q => hk z S' hz (chain_step (h := h2) hhi h1 hh2 (by rw [ho2]; exact hne) (by omega) (by omega) (hb2.2.2 hne).2 h9 h11 hz (by rw [if_neg (by intro q; subst q; simp at hc16), ho2]; exact q))⟩, by omega⟩
 have hno := prel_no hrz1 hc2;refine wp_exit ?_;repeat (first | refine then_exit ?_ | refine exit_block ?_ | refine exit_pass rfl ?_)
 show Code.wp _ _ _ _ _;refine sq (rg ?_);refine ala F M 2 fun A F=>?_;refine sta F M 1 fun w M=>?_;dsimp only [List.set] at M;refine en (wp_ret ?_);repeat first|refine tr ?_|refine br ?_
 have M2 := M;replace M2 := M2.drop 2 rfl;replace M2 := M2.drop 1 rfl;exact sw_retbox F M 1 Tryz.results144 rfl rfl (by kernel_rfl) (by kernel_rfl) ⟨_, _, S1, rfl, M2, op1, m1, s1, la1, lc1, es1, rfl, rfl, hk _ _ (rv_perr M.st) (chain_pass hhi h1 (by obtain ⟨er, rfl⟩ := hno; exact .inl rfl))⟩
end Go.Proofs.YthhpkjmhcolgfaaGreatDoor
