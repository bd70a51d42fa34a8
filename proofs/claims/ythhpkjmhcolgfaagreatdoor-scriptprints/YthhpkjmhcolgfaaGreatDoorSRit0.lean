import Derived.Test.YthhpkjmhcolgfaaGreatDoorSRstB
namespace Go.Proofs.YthhpkjmhcolgfaaGreatDoor
open Go.RowKit
set_option linter.unusedVariables false
set_option linter.unusedSimpArgs false
set_option maxRecDepth 20000
set_option maxHeartbeats 8000000
abbrev cc (nm : Key) (a1 : Option Addr) (c1 : Nat) (e1 : List (List Fld)) (a2 : Option Addr) (c2 : Nat) (e2 : List (List Fld)) (a3 : Option Addr) (c3 : Nat) (e3 : List (List Fld)) : C4 := (.string (str nm), .slice a1 e1.length c1, .slice a2 e2.length c2, .slice a3 e3.length c3)
theorem PBox.recell {text : Key} {c : C4} {w : World} {b : Nat} {S : ES} (R : PBox text c w b S) : ∃ at_ kd tx n lv e, Blk w b (pC text at_ kd tx n lv e c) 48 ∧ PRel S kd tx n e ∧ ∀ w' c', Blk w' b (pC text at_ kd tx n lv e c') 48 → PBox text c' w' b S := by
 cases S with
 | ok σ =>
  obtain ⟨a, t, h1, h2, k, h3, h4⟩ := R;exact ⟨a, _, t, _, _, _, k, ⟨rfl, h3, rfl, rfl⟩, fun w' c' k' => ⟨a, t, h1, h2, k', h3, h4⟩⟩
 | error er =>
  obtain ⟨h, a, kd, t, n, lv, k⟩ := R;exact ⟨a, kd, t, n, lv, er, k, ⟨rfl, h⟩, fun w' c' k' => ⟨h, _, _, _, _, _, k'⟩⟩
theorem Mm.newC {text : Key} {c c' : C4} {b : Nat} {w0 w w' : World} {E : List Ent} {S : ES} (M : Mm (PdX text c b) (fun k => k = b) w0 E S w) (B : But (fun k => k = b) w w') (hx : PBox text c' w' b S) : Mm (PdX text c' b) (fun k => k = b) w0 E S w' :=
 ⟨M.lt, fun s u u' hb x => x.but (T := fun k => w0.heap.size ≤ k) ⟨hb.os, hb.tape, hb.output, hb.size, fun k _ q => hb.block k (by omega)⟩ (by have := M.lt b rfl; omega), M.but.trans B, M.mem.hi (M.hi B), hx⟩
section
variable {σ : Type} {X : σ → World → Prop} {T : Nat → Prop} {w0 w w' : World} {E E' : List Ent} {s : σ}
theorem Mm.freeze (M : Mm X T w0 E s w) (k : Nat) {la : Option Addr} {n lc : Nat} {e : TypeId} {sz : Nat} {es : List (List Fld)} (h : E[k]? = some (.row (.slice la n lc) e sz es)) : Mm X T w0 (E.set k (.val [.l la lc es])) s w := ⟨M.lt, M.stb, M.but, M.mem.freeze k h, M.st⟩
def Okf (base : Nat) (E : List Ent) (w : World) (f : Fld) : Prop := (f.lies base w ∧ ∀ b, f.apart b) ∨ ∃ (j : Nat) (gs : List Fld), E[j]? = some (.val gs) ∧ f ∈ gs
theorem okf_nil {base : Nat} : ∀ f ∈ ([] : List Fld), Okf base E w f := fun f hf => by cases hf
theorem okf_cons {base : Nat} {f : Fld} {fs : List Fld} (h : Okf base E w f) (g : ∀ f ∈ fs, Okf base E w f) : ∀ x ∈ f :: fs, Okf base E w x := fun x hx => by
 rcases List.mem_cons.1 hx with rfl | hx
 ·exact h
 ·exact g x hx
theorem okf_s {base : Nat} {k : Key} : Okf base E w (.s k) := .inl ⟨trivial, fun _ => trivial⟩
theorem okf_b {base : Nat} {k : Bool} : Okf base E w (.b k) := .inl ⟨trivial, fun _ => trivial⟩
theorem okf_i {base : Nat} {n : Int} (h : -9223372036854775808 ≤ n ∧ n ≤ 9223372036854775807) : Okf base E w (.i n) := .inl ⟨h, fun _ => trivial⟩
theorem okf_v {base : Nat} {f : Fld} (j : Nat) (h : E[j]? = some (.val [f])) : Okf base E w f := .inr ⟨j, _, h, List.mem_singleton.2 rfl⟩
theorem Mm.join (M : Mm X T w0 E s w) (fs : List Fld) (h : ∀ f ∈ fs, Okf w0.heap.size E w f) : Mm X T w0 (.val fs :: E) s w := by
 refine ⟨M.lt, M.stb, M.but, M.mem.push (fun f hf => ?_) (fun i f b hf hm => hm.elim) (fun i f b hf hm => fun x hx => ?_), M.st⟩
 ·rcases h f hf with q | ⟨j, gs, hj, hg⟩
  ·exact q.1
  ·exact M.mem.val hj f hg
 ·rcases h x hx with q | ⟨j, gs, hj, hg⟩
  ·exact q.2 b
  ·exact (M.mem.vals j hj).2 i f b hf hm x hg
end
theorem sw_cut {P : Program} {x y : Code} {Q : Exit → Act → World → Prop} {a : Act} {w : World} (J : Act → World → Prop) (h : x.wp P (Exit.then J Q) a w) (k : ∀ a w, J a w → y.wp P Q a w) : (Code.seq x y).wp P Q a w :=
 wp_seq (Code.wp_mono (fun e a w q => by
  cases e with
  | normal => exact k a w q
  | _ => exact q) h)
section
variable {P : Program} {md : Region.Mode} {ops : Array Oper} {Q : Exit → Act → World → Prop} {S : World → Prop} {a : Act} {w w0 : World} {o : Oper} {N m : Nat} {L : List (Nat × Value)} {fuel : Nat} {listed : Array Bool}
theorem sd_geq (F : Fm N L a) (j : Nat) {i t u : Nat} {x y : Operand} {k : IntKind} {m n : Int} (hj : ops[j]? = some o) (h : Is o (some i) (.binOp .geq t x y u)) (h1 : opv L x = some (.int k m)) (h2 : opv L y = some (.int k n)) (hs : Region.noSelect ops = true) (hf : Region.free md ops listed j = true) (hr : (Region.ready md ops listed).contains j = true) (hQ : ∀ c a w, Q (.panic c) (a.put (some i) (.bool (decide (n ≤ m)))) w → Q (.panic c) a w)
  (hi : Nat.blt i N = true) (hS : S w) (K : ∀ a', Fm N ((i, .bool (decide (n ≤ m))) :: L) a' → wpAnyH P md ops Q S fuel (listed.setIfInBounds j true) a' w) : wpAnyH P md ops Q S (fuel + 1) listed a w :=
 sd_val F j hj hs hf hr hQ h.1 h.2.2 hi (fun w _ => by
  unfold execOp;rw [h.2.1]
  simp [F.ev h1, F.ev h2, eqGuard_at_int, binOp_geq]) hS K
theorem sm_rng (F : Fm N L a) (i : Nat) {d : Nat} {t : TypeId} {x : Operand} {b n : Nat} {cs : List Value} (hi : ops[i]? = some o) (h : Is o (some d) (.load t x)) (hv : opv L x = some (.pointer (some ⟨b, n, none⟩))) (ht : rowT P t = true) (hz : (P.info? t).map (·.size) = some cs.length) (hc : ∀ w, S w → w.rangeAt b n cs) (hwt : (waitsB md ops m i && !(listed.getD m true)) = true) (hs : Region.noSelect ops = true) (hf : Region.free md ops listed i = true) (hr : (Region.ready md ops listed).contains i = true) (him : Nat.beq i m = false) (hQ : ∀ c a w, Q (.panic c) (a.put (some d) (.agg cs.toArray)) w → Q (.panic c) a w)
  (hb : Nat.blt d N = true) (hS : S w) (K : ∀ a', Fm N ((d, .agg cs.toArray) :: L) a' → wpAnyM P md ops Q S m fuel (listed.setIfInBounds i true) a' w) : wpAnyM P md ops Q S m (fuel + 1) listed a w := by
 obtain ⟨ds, hu, hd⟩ := rowT_out ht;rw [Bool.and_eq_true] at hwt
 exact wpAnyM_take hi hs hf hr hwt.1 (fun e => by subst e; rw [Nat.beq_refl] at him; cases him) (by simpa using hwt.2) (fun c a w => by rw [h.1]; exact hQ c a w) (.inl ⟨by unfold Region.wanted; rw [h.2.2], fun w hw => by
  unfold execOp;rw [h.2.1];have hld := run_loadVar_mid (P := P) w b n t cs ds (hc w hw) hu hd hz
  simp [F.ev hv, Instr.loadAt, Instr.sureAddr, hld]⟩) hS (by rw [h.1]; exact K _ (F.put hb))
end
theorem room_ge {n m : Int} {S S1 : ES} (h : m ≤ n) (g : Rv (fun _ => (failT 3 : PM Unit)) S () S1) : Rv (fun _ => roomT n m) S () S1 := by
 unfold roomT;rw [if_pos h];exact g
theorem room_lt {n m : Int} {S : ES} (h : ¬ m ≤ n) : Rv (fun _ => roomT n m) S () S := by
 unfold roomT;rw [if_neg h];exact Rv.pur () S
theorem room_is {s : Key} {n m : Int} {S S1 : ES} {o : Bool} (ho : o = stands s S) (h : Rv (fun _ => roomT n m) S () S1) : Rv (fun _ => isT s) S1 o S1 := by
 obtain ⟨k, h⟩ := h;have h := h k (Nat.le_refl _);unfold roomT at h
 split at h
 ·cases S with
  | error e => have h : S1 = .error e := h; subst h; exact Rv.of rfl
  | ok σ => have h := h.get_err (e := 3) rfl; subst h; exact Rv.of rfl
 ·rw [need_pur h, ho];exact Rv.of (rel_is s S)
theorem take_is {k : Key} {S S1 : ES} (g : Rv (fun _ => isT k) S true S) (h : Rv (fun _ => nextT) S () S1) : Rv (fun _ => takeT k) S () S1 := by
 obtain ⟨n, g⟩ := g;have g := g n (Nat.le_refl _)
 cases S with
 | error e =>
  obtain ⟨n, h⟩ := h;exact Rv.of (h n (Nat.le_refl _))
 | ok σ => exact take_here (by have := (g.get_ok rfl).1; exact this.symm) h
theorem param_of {S S1 S2 S3 : ES} {s : Key} {k : Int} (h1 : Rv (fun _ => nameT) S s S1) (h2 : Rv (fun _ => takeT [58]) S1 () S2) (h3 : Rv (fun _ => kindT) S2 k S3) : Rv (fun _ => paramT) S (s, k) S3 :=
 h1.bind (F := fun _ => nameT) (G := fun _ s => bnd (takeT [58]) fun _ => bnd kindT fun k => pur (s, k)) (h2.bind (F := fun _ => takeT [58]) (G := fun _ _ => bnd kindT fun k => pur (s, k)) (h3.bind (F := fun _ => kindT) (G := fun _ k => pur (s, k)) (Rv.pur _ _)))
def listP (n : Nat) (e : Bool) (l : List EV) : PM (List EV) := if e = true then pur l else bnd paramT fun p => parsM n (l ++ [paP p])
theorem params_list {S S' : ES} {y : List EV} (h : Rv (fun n => listP n (stands [41] S) []) S y S') : Rv paramsM S y S' := by
 have p := (Rv.of (rel_is [41] S)).bind (G := fun n c => listP n c []) h
 exact p.to fun n => by
  unfold paramsM
  congr 1
  funext c;cases c <;> rfl
theorem par_step {S S1 S' : ES} {x : Key × Int} {l y : List EV} (h : Rv (fun _ => paramT) S x S1) (g : Rv (fun n => parsM n (l ++ [paP x])) S1 y S') : Rv (fun n => listP n false l) S y S' :=
 h.bind (G := fun n x => parsM n (l ++ [paP x])) g
theorem last_par {l : List EV} {k : Nat} {S S1 : ES} {e : Bool} (h : Rv (fun _ => lastT k) S e S1) (hk : l.length = k) : (∀ y S', Rv (fun n => listP n e l) S1 y S' → Rv (fun n => parsM n l) S y S') ∧ lf S1 ≤ lf S ∧ (e = false → lf S1 = 0 ∨ lf S1 < lf S) ∧ ((∃ σ, S1 = .ok σ) → e = false → l.length ≤ 7) := by
 refine ⟨fun y S' q => ?_, (last_all h hk).2⟩;obtain ⟨n0, h⟩ := h;have h := h n0 (Nat.le_refl _)
 cases S with
 | error er =>
  have h : S1 = .error er := h;subst h;obtain ⟨n, q⟩ := q;have q : S' = .error er := q n (Nat.le_refl _);subst q;exact Rv.fault _ er y
 | ok σ =>
  obtain ⟨c, Sa, h1, h2⟩ := Rel.unbind h;obtain ⟨e1, e2⟩ := h1.get_ok (y := decide (σ.now = .fixed [44])) (τ := σ) rfl;subst e2
  have more : ∀ y S', Rv (fun n => ifT c (bnd (roomT l.length 8) fun _ => bnd (takeT [44]) fun _ => bnd paramT fun p => parsM n (l ++ [paP p])) (pur l)) (.ok σ) y S' → Rv (fun n => parsM n l) (.ok σ) y S' := fun y S' q => by
   have p := (Rv.of (rel_is [44] (.ok σ))).bind (G := fun n c => ifT c (bnd (roomT l.length 8) fun _ => bnd (takeT [44]) fun _ => bnd paramT fun p => parsM n (l ++ [paP p])) (pur l)) (q.to fun n => by rw [e1]; rfl);exact Rv.succ (p.to fun n => by rw [parsM])
  cases c with
  | false =>
   have h2 : Rel (pur true) (.ok σ) e S1 := h2;obtain ⟨rfl, rfl⟩ := h2.get_ok rfl;exact more y S' (q.to fun n => rfl)
  | true =>
   have hn : σ.now = .fixed [44] := of_decide_eq_true e1.symm;have h2 : Rel (bnd (roomT k 8) fun _ => bnd nextT fun _ => pur false) (.ok σ) e S1 := h2
   by_cases hr : (8 : Int) ≤ k
   ·have hroom : ∀ x : Int, x = k → roomT x 8 = failT 3 := fun x q => if_pos (by omega);have : S1 = .error 3 := h2.get_err (by rw [hroom _ rfl]; rfl);subst this;refine more y S' ?_;obtain ⟨n, q⟩ := q;have q : S' = .error 3 := q n (Nat.le_refl _);subst q;exact ⟨0, fun n _ => Rel.of_err (by simp [hroom (l.length : Int) (by omega), bnd, failT, ifT])⟩
   ·have hroom : ∀ x : Int, x = k → roomT x 8 = pur () := fun x q => if_neg (by omega);rw [hroom _ rfl] at h2;obtain ⟨⟨⟩, Sb, h3, h4⟩ := Rel.unbind (show Rel (bnd nextT fun _ => pur false) (.ok σ) e S1 from h2);have htk : Rv (fun _ => takeT [44]) (.ok σ) () Sb := Rv.of (Rel.at (F := nextT) h3 fun ρ q => by injection q with q; subst q; exact (if_pos hn).symm);have fin : ∀ y S', Rv (fun n => bnd paramT fun p => parsM n (l ++ [paP p])) Sb y S' → Rv (fun n => parsM n l) (.ok σ) y S' := fun y S' q => more y S' ((htk.bind (G := fun n _ => bnd paramT fun p => parsM n (l ++ [paP p])) q).to fun n => by rw [hroom _ (by omega)]; rfl)
    cases Sb with
    | error er =>
     have h4 : S1 = .error er := h4;subst h4;refine fin y S' ?_;obtain ⟨n, q⟩ := q;have q : S' = .error er := q n (Nat.le_refl _);subst q;exact Rv.fault _ er y
    | ok τ =>
     obtain ⟨rfl, rfl⟩ := h4.get_ok rfl;exact fin y S' (q.to fun n => rfl)
def fnX (c : CT) (n : Nat) (o : Bool) : PM CT := bnd (takeT kFn) fun _ => bnd nameT fun s => bnd (takeT [40]) fun _ => bnd (paramsM n) fun l => bnd (takeT [41]) fun _ => bnd (takeT [45, 62]) fun _ => bnd kindT fun k => bnd (blockM n) fun b => pur (c.1, c.2.1, c.2.2 ++ [fnP s o l k b])
def fnY (c : CT) (n : Nat) : PM CT := bnd (isT kOpen) fun o => bnd (ifT o (takeT kOpen) (pur ())) fun _ => fnX c n o
theorem fnY_eq (c : CT) (n : Nat) : (bnd (fnM n) fun f => pur (c.1, c.2.1, c.2.2 ++ [f])) = fnY c n := by
 simp only [fnM, fnY, fnX, bnd_assoc, bnd_pur]
end Go.Proofs.YthhpkjmhcolgfaaGreatDoor
