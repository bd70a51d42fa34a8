import Derived.Test.YtpofgnlkhkednaaGreatDoorM30
import Derived.Test.YtpofgnlkhkednaaGreatDoorM16
namespace Go.Proofs.YtpofgnlkhkednaaGreatDoor
open Go.RowKit
set_option linter.unusedVariables false
set_option linter.unusedSimpArgs false
set_option maxRecDepth 20000
set_option maxHeartbeats 8000000
theorem flatV_at {sz : Nat} : ∀ (es : List (List Fld)) (k : Nat) (d : List Fld), (∀ d ∈ es, d.length = sz) → es[k]? = some d → ∀ i u, (d.map Fld.val)[i]? = some u → (flatV es)[k * sz + i]? = some u
 | [], k, d, hl, hk, i, u, hi => by simp at hk
 | e :: es, 0, d, hl, hk, i, u, hi => by
  simp at hk;subst hk;show (e.map Fld.val ++ flatV es)[0 * sz + i]? = some u;have : i < (e.map Fld.val).length := (List.getElem?_eq_some_iff.1 hi).1;rw [Nat.zero_mul, Nat.zero_add, List.getElem?_append_left this];exact hi
 | e :: es, k + 1, d, hl, hk, i, u, hi => by
  show (e.map Fld.val ++ flatV es)[(k + 1) * sz + i]? = some u;have h1 : (e.map Fld.val).length = sz := by rw [List.length_map]; exact hl e (List.mem_cons_self ..)
  have h2 : (k + 1) * sz + i = sz + (k * sz + i) := by rw [Nat.succ_mul]; omega
  rw [h2, List.getElem?_append_right (by omega), h1, Nat.add_sub_cancel_left];exact flatV_at es k d (fun x hx => hl x (List.mem_cons_of_mem _ hx)) (by simpa using hk) i u hi
theorem lie_range (sz : Nat) {lo : Nat} {w : World} {b o lc : Nat} {es : List (List Fld)} (h : (Fld.l (some ⟨b, o, none⟩) lc es).lies lo w) (hl : ∀ d ∈ es, d.length = sz) {k : Nat} {d : List Fld} (hk : es[k]? = some d) : w.rangeAt b (o + k * sz) (d.map Fld.val) := fun i u hi => by
 obtain ⟨h1, h2, h3⟩ := h;rcases h3 with h3 | ⟨rb, ro, e, q1, q2, q3⟩
 ·subst h3;simp at hk
 ·injection e with e
  injection e with e1 e2 _
  subst e1 e2;have := (rowsLie_src q3).1 _ u (flatV_at es k d hl hk i u hi);rw [Nat.add_assoc];exact this
section
variable {P : Program} {ops : Array Oper} {Q : Exit → Act → World → Prop} {a : Act} {w : World} {rest : List Oper} {o : Oper} {N : Nat} {L : List (Nat × Value)}
theorem sw_rng (F : Fm N L a) {i : Nat} {t : TypeId} {x : Operand} {b n : Nat} {cs : List Value} (hc : w.rangeAt b n cs) (h : Is o (some i) (.load t x)) (hx : opv L x = some (.pointer (some ⟨b, n, none⟩))) (ht : rowT P t = true) (hz : (P.info? t).map (·.size) = some cs.length) (hi : Nat.blt i N = true) (K : ∀ a', Fm N ((i, .agg cs.toArray) :: L) a' → wpList P ops Q rest a' w) : wpList P ops Q (o :: rest) a w := by
 obtain ⟨d, hu, hd⟩ := rowT_out ht;exact ol_row h.2.2 h.2.1 (F.ev hx) hc hu hd hz (by rw [h.1]; exact K _ (F.put hi))
end
theorem Rv.fault {α : Type} (F : Nat → PM α) (e : Int) (x : α) : Rv F (.error e) x (.error e) := ⟨0, fun _ _ => rfl⟩
theorem fld_apart {b : Nat} : ∀ (fs : List Fld), apartAll b fs → cellsApart b fs
 | [], _ => trivial
 | f :: fs, h => ⟨h f (List.mem_cons_self ..), fld_apart fs fun x hx => h x (List.mem_cons_of_mem _ hx)⟩
theorem rows_apart {b : Nat} : ∀ (es : List (List Fld)), (∀ d ∈ es, apartAll b d) → rowsApart b es
 | [], _ => trivial
 | e :: es, h => ⟨fld_apart e (h e (List.mem_cons_self ..)), rows_apart es fun d hd => h d (List.mem_cons_of_mem _ hd)⟩
section
variable {base : Nat} {L : List Ent} {w : World}
theorem Mem.freeze (M : Mem base L w) (k : Nat) {la : Option Addr} {n lc : Nat} {e : TypeId} {sz : Nat} {es : List (List Fld)} (h : L[k]? = some (.row (.slice la n lc) e sz es)) : Mem base (L.set k (.val [.l la lc es])) w := by
 have hkl := (List.getElem?_eq_some_iff.1 h).1;have hl := M.rowlie k h;refine ⟨M.le, fun i f q => ?_, fun i j f g b hij hi hj hm => ?_⟩
 ·by_cases hi : i = k
  ·subst hi;rw [List.getElem?_set_self hkl] at q;injection q with q
   subst q;exact lie_cons hl (lie_nil _ _)
  ·rw [List.getElem?_set_ne (fun q => hi q.symm)] at q;exact M.at_ i f q
 ·by_cases hik : i = k
  ·subst hik;rw [List.getElem?_set_self hkl] at hi;injection hi with hi
   subst hi;exact hm.elim
  ·rw [List.getElem?_set_ne (fun q => hik q.symm)] at hi
   by_cases hjk : j = k
   ·subst hjk;rw [List.getElem?_set_self hkl] at hj;injection hj with hj
    subst hj;have q := M.sep i j f _ b hij hi h hm;intro x hx;rw [List.mem_singleton.1 hx];rcases hl.2.2 with z | ⟨rb, ro, e1, e2, e3, e4⟩
    ·exact .inl z
    ·subst e1;exact .inr ⟨rb, ro, rfl, fun z => q.1 (by rw [← z]; rfl), rows_apart es q.2⟩
   ·rw [List.getElem?_set_ne (fun q => hjk q.symm)] at hj;exact M.sep i j f g b hij hi hj hm
theorem Mem.reval (M : Mem base L w) (k : Nat) {fs gs : List Fld} (h : L[k]? = some (.val fs)) (hl : lieAll base w gs) (ha : ∀ b, apartAll b fs → apartAll b gs) : Mem base (L.set k (.val gs)) w := by
 have hkl := (List.getElem?_eq_some_iff.1 h).1;refine ⟨M.le, fun i f q => ?_, fun i j f g b hij hi hj hm => ?_⟩
 ·by_cases hi : i = k
  ·subst hi;rw [List.getElem?_set_self hkl] at q;injection q with q
   subst q;exact hl
  ·rw [List.getElem?_set_ne (fun q => hi q.symm)] at q;exact M.at_ i f q
 ·by_cases hik : i = k
  ·subst hik;rw [List.getElem?_set_self hkl] at hi;injection hi with hi
   subst hi;exact hm.elim
  ·rw [List.getElem?_set_ne (fun q => hik q.symm)] at hi
   by_cases hjk : j = k
   ·subst hjk;rw [List.getElem?_set_self hkl] at hj;injection hj with hj
    subst hj;exact ha b (M.sep i j f _ b hij hi h hm)
   ·rw [List.getElem?_set_ne (fun q => hjk q.symm)] at hj;exact M.sep i j f g b hij hi hj hm
end
section
variable {σ : Type} {X : σ → World → Prop} {T : Nat → Prop} {w0 w w' : World} {E E' : List Ent} {s : σ}
theorem Mm.over (M : Mm X T w0 E s w) (k : Nat) {la : Option Addr} {n lc : Nat} {e : TypeId} {sz : Nat} {es : List (List Fld)} (h : E[k]? = some (.row (.slice la n lc) e sz es)) (op m : Int) (nm : Key) (h1 : -9223372036854775808 ≤ op ∧ op ≤ 9223372036854775807) (h2 : -9223372036854775808 ≤ m ∧ m ≤ 9223372036854775807) : Mm X T w0 (E.set k (.val (exF op m nm la lc es))) s w := by
 have hkl := (List.getElem?_eq_some_iff.1 h).1;have hl := M.mem.rowlie k h
 have q := (M.mem.freeze k h).reval k (fs := [.l la lc es]) (gs := exF op m nm la lc es) (List.getElem?_set_self hkl) (lie_cons h1 (lie_cons h2 (lie_cons trivial (lie_cons hl (lie_nil _ _))))) fun b hb x hx => by
  rcases List.mem_cons.1 hx with rfl | hx
  ·trivial
  rcases List.mem_cons.1 hx with rfl | hx
  ·trivial
  rcases List.mem_cons.1 hx with rfl | hx
  ·trivial
  exact hb x hx
 rw [List.set_set] at q;exact ⟨M.lt, M.stb, M.but, q, M.st⟩
end
theorem Mem.swap {base : Nat} {a c : Ent} {L : List Ent} {w : World} (M : Mem base (a :: c :: L) w) : Mem base (c :: a :: L) w := by
 have key : ∀ (j : Nat) (f : Ent), (c :: a :: L)[j]? = some f → (a :: c :: L)[if j = 0 then 1 else if j = 1 then 0 else j]? = some f := fun j f h => by
  match j, h with
  | 0, h => simpa using h
  | 1, h => simpa using h
  | j + 2, h => simpa using h
 refine ⟨M.le, fun i e h => M.at_ _ e (key i e h), fun i j e f b hij hi hj hm => M.sep _ _ e f b (fun q => hij ?_) (key i e hi) (key j f hj) hm⟩
 split at q <;> split at q <;> (try split at q) <;> (try split at q) <;> omega
theorem Mm.swap {σ : Type} {X : σ → World → Prop} {T : Nat → Prop} {w0 w : World} {a c : Ent} {E : List Ent} {s : σ} (M : Mm X T w0 (a :: c :: E) s w) : Mm X T w0 (c :: a :: E) s w := ⟨M.lt, M.stb, M.but, M.mem.swap, M.st⟩
abbrev cc (nm : Key) (a1 : Option Addr) (c1 : Nat) (e1 : List (List Fld)) (a2 : Option Addr) (c2 : Nat) (e2 : List (List Fld)) (a3 : Option Addr) (c3 : Nat) (e3 : List (List Fld)) : C4 := (.string (str nm), .slice a1 e1.length c1, .slice a2 e2.length c2, .slice a3 e3.length c3)
section
variable {σ : Type} {X : σ → World → Prop} {T : Nat → Prop} {w0 w w' : World} {E E' : List Ent} {s : σ}
theorem Mm.freeze (M : Mm X T w0 E s w) (k : Nat) {la : Option Addr} {n lc : Nat} {e : TypeId} {sz : Nat} {es : List (List Fld)} (h : E[k]? = some (.row (.slice la n lc) e sz es)) : Mm X T w0 (E.set k (.val [.l la lc es])) s w := ⟨M.lt, M.stb, M.but, M.mem.freeze k h, M.st⟩
end
theorem sw_cut {P : Program} {x y : Code} {Q : Exit → Act → World → Prop} {a : Act} {w : World} (J : Act → World → Prop) (h : x.wp P (Exit.then J Q) a w) (k : ∀ a w, J a w → y.wp P Q a w) : (Code.seq x y).wp P Q a w :=
 wp_seq (Code.wp_mono (fun e a w q => by
  cases e with
  | normal => exact k a w q
  | _ => exact q) h)
def Bx (w0 : World) : Unit → World → Prop := fun _ u => Below w0.heap.size w0 u
theorem bx_begin {w0 w : World} (h : Bx w0 () w) : Mm (Bx w0) (fun _ => False) w [] () w :=
 Mm.begin h (fun _ q => q.elim) fun s u u' hb x => x.trans (hb.mono (by have := h.size; omega))
theorem pv_i {f : Fld} {n : Int} (h : f.pv = .i n) : f = .i n := by
 cases f with
 | i m => injection h with h; rw [h]
 | d m => cases h
 | b m => cases h
 | s m => cases h
 | l a c e => cases h
theorem pv_s {f : Fld} {n : Key} (h : f.pv = .s n) : f = .s n := by
 cases f with
 | s m => injection h with h; rw [h]
 | d m => cases h
 | b m => cases h
 | i m => cases h
 | l a c e => cases h
theorem pv_b {f : Fld} {n : Bool} (h : f.pv = .b n) : f = .b n := by
 cases f with
 | b m => injection h with h; rw [h]
 | d m => cases h
 | s m => cases h
 | i m => cases h
 | l a c e => cases h
theorem pv_l {f : Fld} {n : List EV} (h : f.pv = .l n) : ∃ la lc es, f = .l la lc es ∧ pvRows es = n := by
 cases f with
 | l a c e => injection h with h; exact ⟨a, c, e, rfl, h⟩
 | d m => cases h
 | s m => cases h
 | i m => cases h
 | b m => cases h
theorem pv_nil {fs : List Fld} (h : pvAll fs = []) : fs = [] := by
 cases fs with
 | nil => rfl
 | cons f r => cases h
theorem pv_cons {fs : List Fld} {x : Pv} {r : EV} (h : pvAll fs = x :: r) : ∃ f gs, fs = f :: gs ∧ f.pv = x ∧ pvAll gs = r := by
 cases fs with
 | nil => cases h
 | cons f gs => injection h with h1 h2; exact ⟨f, gs, rfl, h1, h2⟩
theorem inv_P {fs : List Fld} {s : Key} {k : Int} (h : pvAll fs = [.s s, .i k]) : fs = [.s s, .i k] := by
 obtain ⟨f1, g1, rfl, h1, h⟩ := pv_cons h;obtain ⟨f2, g2, rfl, h2, h⟩ := pv_cons h;rw [pv_s h1, pv_i h2, pv_nil h]
theorem inv_T {fs : List Fld} {s : Key} {k j : Int} (h : pvAll fs = [.s s, .i k, .i j]) : fs = [.s s, .i k, .i j] := by
 obtain ⟨f1, g1, rfl, h1, h⟩ := pv_cons h;obtain ⟨f2, g2, rfl, h2, h⟩ := pv_cons h;obtain ⟨f3, g3, rfl, h3, h⟩ := pv_cons h;rw [pv_s h1, pv_i h2, pv_i h3, pv_nil h]
theorem inv_E {fs : List Fld} {op n : Int} {s : Key} {es : List EV} (h : pvAll fs = exP op n s es) : ∃ la lc gs, fs = [.i op, .i n, .s s, .l la lc gs] ∧ pvRows gs = es := by
 obtain ⟨f1, g1, rfl, h1, h⟩ := pv_cons h;obtain ⟨f2, g2, rfl, h2, h⟩ := pv_cons h;obtain ⟨f3, g3, rfl, h3, h⟩ := pv_cons h;obtain ⟨f4, g4, rfl, h4, h⟩ := pv_cons h;obtain ⟨la, lc, gs, q1, q2⟩ := pv_l h4;exact ⟨la, lc, gs, by rw [pv_i h1, pv_i h2, pv_s h3, q1, pv_nil h], q2⟩
theorem inv_S {fs : List Fld} {k ty : Int} {nm al ca : Key} {es bs ls : List EV} (h : pvAll fs = stP k nm al ca ty es bs ls) : ∃ ea ec e ba bc b la lc l, fs = [.i k, .s nm, .s al, .s ca, .i ty, .l ea ec e, .l ba bc b, .l la lc l] ∧ pvRows e = es ∧ pvRows b = bs ∧ pvRows l = ls := by
 obtain ⟨f1, g1, rfl, h1, h⟩ := pv_cons h;obtain ⟨f2, g2, rfl, h2, h⟩ := pv_cons h;obtain ⟨f3, g3, rfl, h3, h⟩ := pv_cons h;obtain ⟨f4, g4, rfl, h4, h⟩ := pv_cons h;obtain ⟨f5, g5, rfl, h5, h⟩ := pv_cons h;obtain ⟨f6, g6, rfl, h6, h⟩ := pv_cons h;obtain ⟨f7, g7, rfl, h7, h⟩ := pv_cons h;obtain ⟨f8, g8, rfl, h8, h⟩ := pv_cons h;obtain ⟨ea, ec, e, q1, q2⟩ := pv_l h6;obtain ⟨ba, bc, b, q3, q4⟩ := pv_l h7;obtain ⟨la, lc, l, q5, q6⟩ := pv_l h8;exact ⟨ea, ec, e, ba, bc, b, la, lc, l, by rw [pv_i h1, pv_s h2, pv_s h3, pv_s h4, pv_i h5, q1, q3, q5, pv_nil h], q2, q4, q6⟩
theorem inv_F {fs : List Fld} {s : Key} {o : Bool} {ps : List EV} {k : Int} {b : List EV} (h : pvAll fs = fnP s o ps k b) : ∃ pa pc p ba bc l, fs = [.s s, .b o, .l pa pc p, .i k, .l ba bc l] ∧ pvRows p = ps ∧ pvRows l = b := by
 obtain ⟨f1, g1, rfl, h1, h⟩ := pv_cons h;obtain ⟨f2, g2, rfl, h2, h⟩ := pv_cons h;obtain ⟨f3, g3, rfl, h3, h⟩ := pv_cons h;obtain ⟨f4, g4, rfl, h4, h⟩ := pv_cons h;obtain ⟨f5, g5, rfl, h5, h⟩ := pv_cons h;obtain ⟨pa, pc, p, q1, q2⟩ := pv_l h3;obtain ⟨ba, bc, l, q3, q4⟩ := pv_l h5;exact ⟨pa, pc, p, ba, bc, l, by rw [pv_s h1, pv_b h2, q1, pv_i h4, q3, pv_nil h], q2, q4⟩
theorem lie_max {lo : Nat} {w : World} {la : Option Addr} {lc : Nat} {es : List (List Fld)} (h : (Fld.l la lc es).lies lo w) : (es.length : Int) ≤ 9223372036854775807 := by
 have h1 := h.1;have h2 := h.2.1;unfold maxLen at h2;omega
theorem el_at {lo sz : Nat} {w0 : World} {la : Option Addr} {lc : Nat} {es : List (List Fld)} (h : (Fld.l la lc es).lies lo w0) (hl : ∀ d ∈ es, d.length = sz) {k : Nat} (hk : k < es.length) : ∃ b o d, la = some ⟨b, o, none⟩ ∧ es[k]? = some d ∧ (∀ w, Bx w0 () w → w.rangeAt b (o + k * sz) (d.map Fld.val)) ∧ lieAll lo w0 d ∧ pvAll d ∈ pvRows es := by
 have hd : es[k]? = some es[k] := List.getElem?_eq_getElem hk
 have hla : ∃ b o, la = some ⟨b, o, none⟩ ∧ rowsLie lo w0 b o es := by
  rcases h.2.2 with q | ⟨rb, ro, e, _, _, q⟩
  ·rw [q] at hk; cases hk
  ·exact ⟨rb, ro, e, q⟩
 obtain ⟨b, o, rfl, hr⟩ := hla;refine ⟨b, o, _, rfl, hd, fun w hw => ?_, (rowsLie_src hr).2 _ (List.getElem_mem hk), ?_⟩
 ·exact lie_range sz (lo := lo) (w := w) (lc := lc) (es := es) (Fld.lies_hi (Hi.of_below hw) _ h) hl hd
 ·rw [pvRows_map];exact List.mem_map.2 ⟨_, List.getElem_mem hk, rfl⟩
theorem el_same {es gs : List (List Fld)} (h : pvRows es = pvRows gs) {k : Nat} {d d' : List Fld} (h1 : es[k]? = some d) (h2 : gs[k]? = some d') : pvAll d' = pvAll d := by
 have e : (pvRows es)[k]? = (pvRows gs)[k]? := by rw [h]
 rw [pvRows_map, pvRows_map, List.getElem?_map, List.getElem?_map, h1, h2] at e;injection e with e
 exact e.symm
theorem len_of {es gs : List (List Fld)} (h : pvRows es = pvRows gs) : gs.length = es.length := by
 rw [← pvRows_len es, ← pvRows_len gs, h]
theorem sz_of {es : List (List Fld)} {n : Nat} (h : ∀ x ∈ pvRows es, x.length = n) : ∀ d ∈ es, d.length = n := fun d hd => by
 rw [← pvAll_len];exact h _ (by rw [pvRows_map]; exact List.mem_map.2 ⟨d, hd, rfl⟩)
section
variable {ops : Array Oper} {Q : Exit → Act → World → Prop} {a : Act} {w w' : World} {rest : List Oper} {o : Oper} {N : Nat} {L : List (Nat × Value)} {i t u : Nat} {x y : Operand}
theorem run_ns {P : Program} {s : Key} (h : o.op = .binOp .neq t x y u) (h1 : a.eval x = .string (str s)) (h2 : a.eval y = .string (str s)) : (execOp a.eval o).run P w = .ok (.value (.bool false)) w := by
 unfold execOp; rw [h]; simp [h1, h2, eqGuard_at_string, binOp, Op.stringOp]
theorem run_nb {P : Program} {s : Bool} (hu : P.underlying t = some .bool) (h : o.op = .binOp .neq t x y u) (h1 : a.eval x = .bool s) (h2 : a.eval y = .bool s) : (execOp a.eval o).run P w = .ok (.value (.bool false)) w := by
 have n : (binOp .neq t (.bool s) (.bool s)).run P w = .ok (.bool false) w := by simp [go_sem, hu]
 unfold execOp; rw [h]; simp [h1, h2, eqGuard]; rw [n]; rfl
theorem run_nP {s : Key} {k : Int} (h : o.op = .binOp .neq 64 x y u) (h1 : a.eval x = .agg #[.string (str s), .int .i64 k]) (h2 : a.eval y = .agg #[.string (str s), .int .i64 k]) : (execOp a.eval o).run Tryz.prog w = .ok (.value (.bool false)) w := by
 have g : (eqGuard .neq 64 x y (.agg #[.string (str s), .int .i64 k]) (.agg #[.string (str s), .int .i64 k])).run Tryz.prog w = .ok () w := by simp [go_sem]
 have n : (binOp .neq 64 (.agg #[.string (str s), .int .i64 k]) (.agg #[.string (str s), .int .i64 k])).run Tryz.prog w = .ok (.bool false) w := by simp [go_sem]
 unfold execOp; rw [h]; simp only [h1, h2, Sem.run_bind, g]; simp; rw [n]; rfl
theorem run_nT {s : Key} {k j : Int} (h : o.op = .binOp .neq 50 x y u) (h1 : a.eval x = .agg #[.string (str s), .int .i64 k, .int .i64 j]) (h2 : a.eval y = .agg #[.string (str s), .int .i64 k, .int .i64 j]) : (execOp a.eval o).run Tryz.prog w = .ok (.value (.bool false)) w := by
 have g : (eqGuard .neq 50 x y (.agg #[.string (str s), .int .i64 k, .int .i64 j]) (.agg #[.string (str s), .int .i64 k, .int .i64 j])).run Tryz.prog w = .ok () w := by simp [go_sem]
 have n : (binOp .neq 50 (.agg #[.string (str s), .int .i64 k, .int .i64 j]) (.agg #[.string (str s), .int .i64 k, .int .i64 j])).run Tryz.prog w = .ok (.bool false) w := by simp [go_sem]
 unfold execOp; rw [h]; simp only [h1, h2, Sem.run_bind, g]; simp; rw [n]; rfl
end
section
variable {P : Program} {md : Region.Mode} {ops : Array Oper} {Q : Exit → Act → World → Prop} {S : World → Prop} {a : Act} {w w0 : World} {o : Oper} {N : Nat} {L : List (Nat × Value)} {fuel : Nat} {listed : Array Bool} {rest : List Oper} {i t u : Nat} {x y : Operand}
theorem sw_ni {k : IntKind} {m : Int} (F : Fm N L a) (h : Is o (some i) (.binOp .neq t x y u)) (h1 : opv L x = some (.int k m)) (h2 : opv L y = some (.int k m)) (hi : Nat.blt i N = true) (K : ∀ a', Fm N ((i, .bool false) :: L) a' → wpList P ops Q rest a' w) : wpList P ops Q (o :: rest) a w :=
 sw_neq F h h1 h2 hi fun a' F' => K a' (by rw [show (m != m) = false from bne_self_eq_false m] at F'; exact F')
theorem sw_nn {k : IntKind} {m n : Int} (e : n = m) (F : Fm N L a) (h : Is o (some i) (.binOp .neq t x y u)) (h1 : opv L x = some (.int k m)) (h2 : opv L y = some (.int k n)) (hi : Nat.blt i N = true) (K : ∀ a', Fm N ((i, .bool false) :: L) a' → wpList P ops Q rest a' w) : wpList P ops Q (o :: rest) a w := by
 subst e;exact sw_ni F h h1 h2 hi K
theorem sw_ns {s : Key} (F : Fm N L a) (h : Is o (some i) (.binOp .neq t x y u)) (h1 : opv L x = some (.string (str s))) (h2 : opv L y = some (.string (str s))) (hi : Nat.blt i N = true) (K : ∀ a', Fm N ((i, .bool false) :: L) a' → wpList P ops Q rest a' w) : wpList P ops Q (o :: rest) a w :=
 sw_val F h.1 h.2.2 hi (run_ns h.2.1 (F.ev h1) (F.ev h2)) K
theorem sw_nb {s : Bool} (hu : P.underlying t = some .bool) (F : Fm N L a) (h : Is o (some i) (.binOp .neq t x y u)) (h1 : opv L x = some (.bool s)) (h2 : opv L y = some (.bool s)) (hi : Nat.blt i N = true) (K : ∀ a', Fm N ((i, .bool false) :: L) a' → wpList P ops Q rest a' w) : wpList P ops Q (o :: rest) a w :=
 sw_val F h.1 h.2.2 hi (run_nb hu h.2.1 (F.ev h1) (F.ev h2)) K
theorem sd_rng (F : Fm N L a) (i : Nat) {d : Nat} {t : TypeId} {x : Operand} {b n : Nat} {cs : List Value} (hi : ops[i]? = some o) (h : Is o (some d) (.load t x)) (hv : opv L x = some (.pointer (some ⟨b, n, none⟩))) (ht : rowT P t = true) (hz : (P.info? t).map (·.size) = some cs.length) (hc : ∀ w, S w → w.rangeAt b n cs) (hs : Region.noSelect ops = true) (hf : Region.free md ops listed i = true) (hr : (Region.ready md ops listed).contains i = true) (hQ : ∀ c a w, Q (.panic c) (a.put (some d) (.agg cs.toArray)) w → Q (.panic c) a w)
  (hb : Nat.blt d N = true) (hS : S w) (K : ∀ a', Fm N ((d, .agg cs.toArray) :: L) a' → wpAnyH P md ops Q S fuel (listed.setIfInBounds i true) a' w) : wpAnyH P md ops Q S (fuel + 1) listed a w := by
 obtain ⟨ds, hu, hd⟩ := rowT_out ht
 exact sd_val F i hi hs hf hr hQ h.1 h.2.2 hb (fun w hw => by
  unfold execOp;rw [h.2.1];have hld := run_loadVar_mid (P := P) w b n t cs ds (hc w hw) hu hd hz
  simp [F.ev hv, Instr.loadAt, Instr.sureAddr, hld]) hS K
end
section
variable {P : Program} {ops : Array Oper} {Q : Exit → Act → World → Prop} {a : Act} {w : World} {rest : List Oper} {o : Oper} {N : Nat} {L : List (Nat × Value)} {i t u : Nat} {x y : Operand}
theorem sw_sne {s r : Key} (F : Fm N L a) (h : Is o (some i) (.binOp .neq t x y u)) (h1 : opv L x = some (.string (str s))) (h2 : opv L y = some (.string (str r))) (hi : Nat.blt i N = true) (K : ∀ a', Fm N ((i, .bool (!(s == r))) :: L) a' → wpList P ops Q rest a' w) : wpList P ops Q (o :: rest) a w :=
 sw_val F h.1 h.2.2 hi (by
  unfold execOp; rw [h.2.1]; simp [F.ev h1, F.ev h2, eqGuard_at_string, binOp, Op.stringOp, str_toList]) K
theorem sw_sub {m n : Int} (F : Fm N L a) (h : Is o (some i) (.binOp .sub t x y u)) (h1 : opv L x = some (.int .i64 m)) (h2 : opv L y = some (.int .i64 n)) (hb : -9223372036854775808 ≤ m - n ∧ m - n ≤ 9223372036854775807) (hi : Nat.blt i N = true) (K : ∀ a', Fm N ((i, .int .i64 (m - n)) :: L) a' → wpList P ops Q rest a' w) : wpList P ops Q (o :: rest) a w :=
 sw_subw F h h1 h2 hi fun a' F' => K a' (by rw [wrapJ _ hb.1 hb.2] at F'; exact F')
end
theorem Fit.swap {p : PS} {a b : List PEv} (h : Fit p (a ++ b)) : Fit p (b ++ a) := by
 unfold Fit at *
 rw [wtV_app] at *
 rw [Nat.add_comm];exact h
theorem up_is (p : PS) : p.run upV = { p with lv := p.lv + 1, mx := max p.mx (p.lv + 1) } := rfl
theorem Mm.after2 {σ : Type} {X : σ → World → Prop} {T : Nat → Prop} {w0 w w' : World} {E : List Ent} {s : σ} (M : Mm X T w0 E s w) (hb : Below w.heap.size w w') : Mm X T w0 E s w' := M.own (hb.mono M.mem.le) (M.mem.hi (Hi.of_below hb))
theorem hold_ge (op : Int) : 1 ≤ holdI op ∧ holdI op ≤ 7 := by
 unfold holdI;repeat' split
 all_goals omega
theorem brk_one (op : Int) (bev : List PEv) : brkV 1 op bev = bev := if_neg (by have := (hold_ge op).1; omega)
theorem sep_snoc : ∀ (l : List (List PEv)) (x : List PEv), sepV (l ++ [x]) = sepV l ++ ((if l.length = 0 then [] else tkn [44]) ++ x)
 | [], x => rfl
 | [a], x => by
  show a ++ tkn [44] ++ x = a ++ (tkn [44] ++ x);rw [List.append_assoc]
 | a :: c :: r, x => by
  show a ++ tkn [44] ++ sepV ((c :: r) ++ [x]) = (a ++ tkn [44] ++ sepV (c :: r)) ++ _;rw [sep_snoc (c :: r) x];simp only [List.append_assoc];rfl
theorem sep_take {l : List (List PEv)} {k : Nat} {x : List PEv} (h : l[k]? = some x) : sepV (l.take (k + 1)) = sepV (l.take k) ++ ((if k = 0 then [] else tkn [44]) ++ x) := by
 have hk := (List.getElem?_eq_some_iff.1 h).1;rw [List.take_add_one, h];show sepV (l.take k ++ [x]) = _;rw [sep_snoc, List.length_take, Nat.min_eq_left (by omega)]
theorem sep_pre (l : List (List PEv)) : ∀ (n k : Nat), k + n = l.length → ∃ t, sepV l = sepV (l.take k) ++ t
 | 0, k, h => ⟨[], by rw [List.take_of_length_le (by omega), List.append_nil]⟩
 | n + 1, k, h => by
  obtain ⟨t, ht⟩ := sep_pre l n (k + 1) (by omega);have hx : l[k]? = some l[k] := List.getElem?_eq_getElem (by omega);rw [sep_take hx] at ht;exact ⟨_, by rw [ht, List.append_assoc]⟩
theorem sep_fit {p : PS} {l : List (List PEv)} {k : Nat} {b : List PEv} (h : Fit p (sepV l)) (hb : l[k]? = some b) : Fit (p.run (sepV (l.take k))) ((if k = 0 then [] else tkn [44]) ++ b) := by
 obtain ⟨t, ht⟩ := sep_pre l (l.length - (k + 1)) (k + 1) (by have := (List.getElem?_eq_some_iff.1 hb).1; omega);rw [ht, sep_take hb] at h;exact h.l.r
theorem row_tree {es : List (List Fld)} {l : List XT} (he : pvRows es = l.map XT.pv) {k : Nat} {d : List Fld} (hd : es[k]? = some d) : ∃ x, x ∈ l ∧ pvAll d = x.pv ∧ (l.map XT.evs)[k]? = some x.evs := by
 have e : (pvRows es)[k]? = (l.map XT.pv)[k]? := by rw [he]
 rw [pvRows_map, List.getElem?_map, List.getElem?_map, hd] at e
 cases hx : l[k]? with
 | none => rw [hx] at e; cases e
 | some x =>
  rw [hx] at e;injection e with e
  exact ⟨x, List.mem_of_getElem? hx, e, by rw [List.getElem?_map, hx]; rfl⟩
theorem four_of {es : List (List Fld)} {l : List XT} (he : pvRows es = l.map XT.pv) : ∀ d ∈ es, d.length = 4 := sz_of (n := 4) fun x hx => by
 rw [he] at hx;obtain ⟨y, _, rfl⟩ := List.mem_map.1 hx;cases y;rfl
end Go.Proofs.YtpofgnlkhkednaaGreatDoor
