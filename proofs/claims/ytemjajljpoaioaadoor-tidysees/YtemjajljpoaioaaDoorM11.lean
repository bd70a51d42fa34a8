import Derived.Test.YtemjajljpoaioaaDoorM10
namespace Go.Proofs.YtemjajljpoaioaaDoor
open Go.RowKit
set_option linter.unusedVariables false
set_option linter.unusedSimpArgs false
set_option maxRecDepth 20000
set_option maxHeartbeats 8000000
theorem fld_apart {b : Nat} : ∀ (fs : List Fld), apartAll b fs → cellsApart b fs
 | [], _ => trivial
 | f :: fs, h => ⟨h f (List.mem_cons_self ..), fld_apart fs fun x hx => h x (List.mem_cons_of_mem _ hx)⟩
theorem rows_apart {b : Nat} : ∀ (es : List (List Fld)), (∀ d ∈ es, apartAll b d) → rowsApart b es
 | [], _ => trivial
 | e :: es, h => ⟨fld_apart e (h e (List.mem_cons_self ..)), rows_apart es fun d hd => h d (List.mem_cons_of_mem _ hd)⟩
section
variable {base : Nat} {L : List Ent} {w : World}
theorem Mem.freeze (M : Mem base L w) (k : Nat) {la : Option Addr} {n lc : Nat} {e : TypeId} {sz : Nat} {es : List (List Fld)} (h : L[k]? = some (.row (.slice la n lc) e sz es)) : Mem base (L.set k (.val [.l la lc es])) w := by
 have hkl := (List.getElem?_eq_some_iff.1 h).1
 have hl := M.rowlie k h
 refine ⟨M.le, fun i f q => ?_, fun i j f g b hij hi hj hm => ?_⟩
 ·by_cases hi : i = k
  ·subst hi
   rw [List.getElem?_set_self hkl] at q
   injection q with q
   subst q
   exact lie_cons hl (lie_nil _ _)
  ·rw [List.getElem?_set_ne (fun q => hi q.symm)] at q
   exact M.at_ i f q
 ·by_cases hik : i = k
  ·subst hik
   rw [List.getElem?_set_self hkl] at hi
   injection hi with hi
   subst hi
   exact hm.elim
  ·rw [List.getElem?_set_ne (fun q => hik q.symm)] at hi
   by_cases hjk : j = k
   ·subst hjk
    rw [List.getElem?_set_self hkl] at hj
    injection hj with hj
    subst hj
    have q := M.sep i j f _ b hij hi h hm
    intro x hx
    rw [List.mem_singleton.1 hx]
    rcases hl.2.2 with z | ⟨rb, ro, e1, e2, e3, e4⟩
    ·exact .inl z
    ·subst e1
     exact .inr ⟨rb, ro, rfl, fun z => q.1 (by rw [← z]; rfl), rows_apart es q.2⟩
   ·rw [List.getElem?_set_ne (fun q => hjk q.symm)] at hj
    exact M.sep i j f g b hij hi hj hm
theorem Mem.reval (M : Mem base L w) (k : Nat) {fs gs : List Fld} (h : L[k]? = some (.val fs)) (hl : lieAll base w gs) (ha : ∀ b, apartAll b fs → apartAll b gs) : Mem base (L.set k (.val gs)) w := by
 have hkl := (List.getElem?_eq_some_iff.1 h).1
 refine ⟨M.le, fun i f q => ?_, fun i j f g b hij hi hj hm => ?_⟩
 ·by_cases hi : i = k
  ·subst hi
   rw [List.getElem?_set_self hkl] at q
   injection q with q
   subst q
   exact hl
  ·rw [List.getElem?_set_ne (fun q => hi q.symm)] at q
   exact M.at_ i f q
 ·by_cases hik : i = k
  ·subst hik
   rw [List.getElem?_set_self hkl] at hi
   injection hi with hi
   subst hi
   exact hm.elim
  ·rw [List.getElem?_set_ne (fun q => hik q.symm)] at hi
   by_cases hjk : j = k
   ·subst hjk
    rw [List.getElem?_set_self hkl] at hj
    injection hj with hj
    subst hj
    exact ha b (M.sep i j f _ b hij hi h hm)
   ·rw [List.getElem?_set_ne (fun q => hjk q.symm)] at hj
    exact M.sep i j f g b hij hi hj hm
end
section
variable {σ : Type} {X : σ → World → Prop} {T : Nat → Prop} {w0 w w' : World} {E E' : List Ent} {s : σ}
theorem Mm.over (M : Mm X T w0 E s w) (k : Nat) {la : Option Addr} {n lc : Nat} {e : TypeId} {sz : Nat} {es : List (List Fld)} (h : E[k]? = some (.row (.slice la n lc) e sz es)) (op m : Int) (nm : Key) (h1 : -9223372036854775808 ≤ op ∧ op ≤ 9223372036854775807) (h2 : -9223372036854775808 ≤ m ∧ m ≤ 9223372036854775807) : Mm X T w0 (E.set k (.val (exF op m nm la lc es))) s w := by
 have hkl := (List.getElem?_eq_some_iff.1 h).1
 have hl := M.mem.rowlie k h
 have q := (M.mem.freeze k h).reval k (fs := [.l la lc es]) (gs := exF op m nm la lc es) (List.getElem?_set_self hkl) (lie_cons h1 (lie_cons h2 (lie_cons trivial (lie_cons hl (lie_nil _ _))))) fun b hb x hx => by
  rcases List.mem_cons.1 hx with rfl | hx
  ·trivial
  rcases List.mem_cons.1 hx with rfl | hx
  ·trivial
  rcases List.mem_cons.1 hx with rfl | hx
  ·trivial
  exact hb x hx
 rw [List.set_set] at q
 exact ⟨M.lt, M.stb, M.but, q, M.st⟩
end
def pl (text : Key) (w : World) (b : Nat) : Nat :=
 match w.cell? ⟨b, 6, none⟩, w.cell? ⟨b, 1, none⟩, w.cell? ⟨b, 2, none⟩ with
 | some (.int _ e), some (.int _ at_), some (.int _ kd) => if e ≠ 0 then 0 else 16 * (text.length - at_.toNat + (if kd = 101 ∨ kd = 0 then 0 else 1)) + 1
 | _, _, _ => 0
section
variable {P : Program} {md : Region.Mode} {ops : Array Oper} {Q : Exit → Act → World → Prop} {S : World → Prop} {m fuel : Nat} {listed : Array Bool} {a : Act} {w : World} {oi oj : Oper}
end
section
variable {σ : Type} {X : σ → World → Prop} {T : Nat → Prop} {w0 w w' : World} {E E' : List Ent} {s : σ}
theorem Mm.freeze (M : Mm X T w0 E s w) (k : Nat) {la : Option Addr} {n lc : Nat} {e : TypeId} {sz : Nat} {es : List (List Fld)} (h : E[k]? = some (.row (.slice la n lc) e sz es)) : Mm X T w0 (E.set k (.val [.l la lc es])) s w := ⟨M.lt, M.stb, M.but, M.mem.freeze k h, M.st⟩
def Okf (base : Nat) (E : List Ent) (w : World) (f : Fld) : Prop := (f.lies base w ∧ ∀ b, f.apart b) ∨ ∃ (j : Nat) (gs : List Fld), E[j]? = some (.val gs) ∧ f ∈ gs
theorem okf_nil {base : Nat} : ∀ f ∈ ([] : List Fld), Okf base E w f := fun f hf => by cases hf
theorem Mm.join (M : Mm X T w0 E s w) (fs : List Fld) (h : ∀ f ∈ fs, Okf w0.heap.size E w f) : Mm X T w0 (.val fs :: E) s w := by
 refine ⟨M.lt, M.stb, M.but, M.mem.push (fun f hf => ?_) (fun i f b hf hm => hm.elim) (fun i f b hf hm => fun x hx => ?_), M.st⟩
 ·rcases h f hf with q | ⟨j, gs, hj, hg⟩
  ·exact q.1
  ·exact M.mem.val hj f hg
 ·rcases h x hx with q | ⟨j, gs, hj, hg⟩
  ·exact q.2 b
  ·exact (M.mem.vals j hj).2 i f b hf hm x hg
end
theorem sw_cut {P : Program} {x y : Code} {Q : Exit → Act → World → Prop} {a : Act} {w : World} (J : Act → World → Prop) (h : x.wp P (Exit.then J Q) a w) (k : ∀ a w, J a w → y.wp P Q a w) : (Code.seq x y).wp P Q a w :=
 wp_seq (Code.wp_mono (fun e a w q => by
  cases e with
  | normal => exact k a w q
  | _ => exact q) h)
section
variable {P : Program} {md : Region.Mode} {ops : Array Oper} {Q : Exit → Act → World → Prop} {S : World → Prop} {a : Act} {w w0 : World} {o : Oper} {N m : Nat} {L : List (Nat × Value)} {fuel : Nat} {listed : Array Bool}
theorem sm_rng (F : Fm N L a) (i : Nat) {d : Nat} {t : TypeId} {x : Operand} {b n : Nat} {cs : List Value} (hi : ops[i]? = some o) (h : Is o (some d) (.load t x)) (hv : opv L x = some (.pointer (some ⟨b, n, none⟩))) (ht : rowT P t = true) (hz : (P.info? t).map (·.size) = some cs.length) (hc : ∀ w, S w → w.rangeAt b n cs) (hwt : (waitsB md ops m i && !(listed.getD m true)) = true) (hs : Region.noSelect ops = true) (hf : Region.free md ops listed i = true) (hr : (Region.ready md ops listed).contains i = true) (him : Nat.beq i m = false) (hQ : ∀ c a w, Q (.panic c) (a.put (some d) (.agg cs.toArray)) w → Q (.panic c) a w)
  (hb : Nat.blt d N = true) (hS : S w) (K : ∀ a', Fm N ((d, .agg cs.toArray) :: L) a' → wpAnyM P md ops Q S m fuel (listed.setIfInBounds i true) a' w) : wpAnyM P md ops Q S m (fuel + 1) listed a w := by
 obtain ⟨ds, hu, hd⟩ := rowT_out ht
 rw [Bool.and_eq_true] at hwt
 exact wpAnyM_take hi hs hf hr hwt.1 (fun e => by subst e; rw [Nat.beq_refl] at him; cases him) (by simpa using hwt.2) (fun c a w => by rw [h.1]; exact hQ c a w) (.inl ⟨by unfold Region.wanted; rw [h.2.2], fun w hw => by
  unfold execOp
  rw [h.2.1]
  have hld := run_loadVar_mid (P := P) w b n t cs ds (hc w hw) hu hd hz
  simp [F.ev hv, Instr.loadAt, Instr.sureAddr, hld]⟩) hS (by rw [h.1]; exact K _ (F.put hb))
end
end Go.Proofs.YtemjajljpoaioaaDoor
