import Derived.Test.YtpofgnlkhkednaaGreatDoorSExpr
namespace Go.Proofs.YtpofgnlkhkednaaGreatDoor
open Go.RowKit
set_option linter.unusedVariables false
set_option linter.unusedSimpArgs false
set_option maxRecDepth 20000
set_option maxHeartbeats 8000000
theorem need_pur {α : Type} {x y : α} {S S' : ES} (h : Rel (pur x) S y S') : S' = S := by
 cases S with
 | error e => exact h
 | ok σ => exact (h.get_ok rfl).2
theorem need_kind {k : Int} {S S' : ES} (h : Rel kindT S k S') : need S' ≤ need S := by
 obtain ⟨p, S1, h1, h2⟩ := Rel.unbind h
 have e : S1 = S := by
  cases S with
  | error e => exact h1
  | ok σ => exact (h1.get_ok rfl).2
 subst e
 split at h2
 ·exact need_wrong h2
 ·obtain ⟨⟨⟩, S2, h3, h4⟩ := Rel.unbind h2;rw [need_pur h4];exact need_next h3
def paramT : PM (Key × Int) := bnd nameT fun s => bnd (takeT [58]) fun _ => bnd kindT fun k => pur (s, k)
theorem Blk.two {w : World} {b : Nat} {x y : Value} {t : TypeId} (k : Blk w b #[x, y] t) : b < w.heap.size ∧ (w.cell? ⟨b, 0, none⟩ = some x ∧ w.cell? ⟨b, 1, none⟩ = some y) ∧ w.frozen? ⟨b, 0, none⟩ = false ∧ w.frozen? ⟨b, 1, none⟩ = false :=
 ⟨k.lt, ⟨(k.cell 0).trans rfl, (k.cell 1).trans rfl⟩, k.frozen 0, k.frozen 1⟩
theorem param_b (b : Nat) (S : ES) (w : World) (R : RAt w b S) : Calls Tryz.prog 44 #[.pointer (some ⟨b, 0, none⟩)] w fun e w' => ∃ s k, (0 ≤ k ∧ k ≤ 3) ∧ e = .returned (.agg #[.string (str s), .int .i64 k]) ∧ But (fun k => k = b) w w' ∧ ∃ S', RAt w' b S' ∧ need S' ≤ need S ∧ Rel paramT S (s, k) S' := by
 have zb := R.lt;have bA : Below w.heap.size w (w.alloc (.cells #[.string ⟨#[]⟩, .int .i64 0] 64)) := (Below.refl _ _).alloc (Nat.le_refl _) _;have kA := Blk.new w #[.string ⟨#[]⟩, .int .i64 0] 64
 go_enter Tryz.func44, Tryz.ntmps44
 go_wp2_with fail
 refine (name_v b S _ (R.below bA)).mono ?_;rintro e w1 ⟨s, rfl, B1, S1, R1, h1⟩;have k1 := B1.blk kA (by omega);have B01 := bbut (But.of_below bA) B1;have bC : Below w1.heap.size w1 (w1.alloc (.cells #[.string (str s), .int .i64 0] 64)) := (Below.refl _ _).alloc (Nat.le_refl _) _;have kC := Blk.new w1 #[.string (str s), .int .i64 0] 64;have k2 := k1.below bC k1.lt;have R2 := R1.below bC;have B02 := bal B01 (.cells #[.string (str s), .int .i64 0] 64);have hz1 := k1.lt;clear bA kA k1 B01 R1 B1
 go_wp2_with fail
 refine (take_u [58] b S1 _ R2).mono ?_;rintro e w3 ⟨rfl, B3, S3, R3, h3⟩;have k3 := B3.blk k2 (by omega);have kD := B3.blk kC (by omega);have B03 := bbut B02 B3;clear k2 kC B02 B3 R2 bC
 go_wp2_with fail
 refine (kind_b b S3 w3 R3).mono ?_;rintro e w4 ⟨kd, hkd, rfl, B4, S4, R4, h4⟩;have k4 := B4.blk k3 (by omega);have kE := B4.blk kD (by omega);have B04 := bbut B03 B4
 have HD : Hid (need S4 ≤ need S) := by
  have a1 := (need_name h1).1;have a2 := (need_take h3).1;have a3 := need_kind h4;show _ ≤ _;omega
 have HR : Hid (Rel paramT S (s, kd) S4) := by
  show Rel paramT S _ _;exact h1.bind (h3.bind (Rel.bind (G := fun k => pur (s, k)) h4 (Rel.pur _ _)))
 obtain ⟨zE, ⟨d0, d1⟩, g0, g1⟩ := kE.two;have kF := kE.set 1 (.int .i64 kd);have k5 := k4.setOther ⟨w1.heap.size, 1, none⟩ (by show w.heap.size ≠ w1.heap.size; omega) (.int .i64 kd);have R5 := R4.setOther (x := w1.heap.size) (i := 1) (v := .int .i64 kd) (by omega) (by have := R.gl.sz; omega);have B05 := bnew (i := 1) (v := .int .i64 kd) B04 (show w.heap.size ≤ w1.heap.size by omega);clear k3 kD B03 B4 R4 k4 h1 h3 h4
 go_upto_region 4 with fail
 generalize w4.setCell ⟨w1.heap.size, 1, none⟩ (.int .i64 kd) = w5 at *
 clear d0 d1 g0 g1 zE kE;obtain ⟨zE, ⟨d0, d1⟩, g0, g1⟩ := kF.two;obtain ⟨z5, ⟨c0, c1⟩, f0, f1⟩ := k5.two
 go_wp2
 exact ret_box Tryz.results44 rfl rfl (by kernel_rfl) (by kernel_rfl) ((k5.set 0 _).set 1 _) ⟨s, kd, hkd, rfl, bnew (bnew B05 (Nat.le_refl _)) (Nat.le_refl _), S4, (R5.setOther (by omega) (by have := R.gl.sz; omega)).setOther (by omega) (by have := R.gl.sz; omega), HD.out, HR.out⟩
structure Sm where
 k : Int
 nm : Key
 al : Key
 ca : Key
 ty : Int
 ea : Option Addr
 ec : Nat
 es : List (List Fld)
 ba : Option Addr
 bc : Nat
 bs : List (List Fld)
 la : Option Addr
 lc : Nat
 ls : List (List Fld)
def Sm.cells (x : Sm) : Array Value := #[.int .i64 x.k, .string (str x.nm), .string (str x.al), .string (str x.ca), .int .i64 x.ty, .slice x.ea x.es.length x.ec, .slice x.ba x.bs.length x.bc, .slice x.la x.ls.length x.lc]
def Sm.flds (x : Sm) : List Fld := [.i x.k, .s x.nm, .s x.al, .s x.ca, .i x.ty, .l x.ea x.ec x.es, .l x.ba x.bc x.bs, .l x.la x.lc x.ls]
def stP (k : Int) (nm al ca : Key) (ty : Int) (es bs ls : List EV) : EV := [.i k, .s nm, .s al, .s ca, .i ty, .l es, .l bs, .l ls]
theorem Sm.lie {lo : Nat} {w : World} (x : Sm) (h1 : -9223372036854775808 ≤ x.k ∧ x.k ≤ 9223372036854775807) (h2 : -9223372036854775808 ≤ x.ty ∧ x.ty ≤ 9223372036854775807) (h3 : (Fld.l x.ea x.ec x.es).lies lo w) (h4 : (Fld.l x.ba x.bc x.bs).lies lo w) (h5 : (Fld.l x.la x.lc x.ls).lies lo w) : lieAll lo w x.flds := fun f hf => by
 simp only [Sm.flds, List.mem_cons, List.not_mem_nil, or_false] at hf;rcases hf with rfl | rfl | rfl | rfl | rfl | rfl | rfl | rfl
 ·exact h1
 ·trivial
 ·trivial
 ·trivial
 ·exact h2
 ·exact h3
 ·exact h4
 ·exact h5
theorem RAt.but {w w' : World} {b : Nat} {T : Nat → Prop} {S : ES} (R : RAt w b S) (B : But T w w') (hT : ∀ k, T k → 9 ≤ k ∧ k ≠ b) : RAt w' b S := by
 refine ⟨⟨Nat.le_trans R.gl.sz B.size, fun g hg j v hv => ?_⟩, R.b5, ?_⟩
 ·rw [B.cell (p := ⟨g, 0 + j, none⟩) (Nat.lt_of_lt_of_le (by show g < 9; omega) R.gl.sz) (fun q => by have := (hT _ q).1; simp at this; omega)];exact R.gl.tab g hg j v hv
 ·have hb : ¬ T b := fun q => (hT b q).2 rfl
  cases S with
  | ok σ => exact ⟨B.blk R.box.1 hb, R.box.2⟩
  | error e =>
   obtain ⟨h0, r, lv, kb⟩ := R.box;exact ⟨h0, r, lv, B.blk kb hb⟩
def Le {α : Type} (F G : PM α) : Prop := ∀ σ, F σ = .error 0 ∨ F σ = G σ
theorem Le.refl {α : Type} (F : PM α) : Le F F := fun _ => .inr rfl
theorem Le.fail {α : Type} (G : PM α) : Le (failT 0) G := fun _ => .inl rfl
theorem Le.trans {α : Type} {F G H : PM α} (h : Le F G) (k : Le G H) : Le F H := fun σ => by
 rcases h σ with q | q
 ·exact .inl q
 ·rcases k σ with r | r
  ·exact .inl (q.trans r)
  ·exact .inr (q.trans r)
theorem Le.bnd {α β : Type} {F F' : PM α} {G G' : α → PM β} (h : Le F F') (g : ∀ x, Le (G x) (G' x)) : Le (bnd F G) (bnd F' G') := fun σ => by
 rcases h σ with q | q
 ·exact .inl (by simp only [Go.Proofs.YtpofgnlkhkednaaGreatDoor.bnd, q])
 ·cases hF : F' σ with
  | error e => exact .inr (by simp only [Go.Proofs.YtpofgnlkhkednaaGreatDoor.bnd, q, hF])
  | ok p =>
   obtain ⟨x, τ⟩ := p;have := g x τ
   simpa only [Go.Proofs.YtpofgnlkhkednaaGreatDoor.bnd, q, hF] using this
theorem Le.ite {α : Type} {c : Prop} [Decidable c] {F F' G G' : PM α} (h : Le F F') (g : Le G G') : Le (if c then F else G) (if c then F' else G') := by
 by_cases q : c
 ·rw [if_pos q, if_pos q]; exact h
 ·rw [if_neg q, if_neg q]; exact g
def Shr {α : Type} (F : PM α) : Prop := ∀ S x S', Rel F S x S' → need S' ≤ need S
theorem Shr.bnd {α β : Type} [Inhabited α] {F : PM α} {G : α → PM β} (h : Shr F) (g : ∀ x, Shr (G x)) : Shr (bnd F G) := fun S y S' q => by
 obtain ⟨x, S1, h1, h2⟩ := Rel.unbind q;exact Nat.le_trans (g x S1 y S' h2) (h S x S1 h1)
theorem Shr.pur {α : Type} (x : α) : Shr (pur x) := fun S y S' h => by rw [need_pur h]; exact Nat.le_refl _
theorem Shr.fail {α : Type} (e : Int) : Shr (failT e : PM α) := fun S y S' h => by
 cases S with
 | error e => have h : S' = .error e := h; subst h; exact Nat.le_refl _
 | ok σ => rw [h.get_err (e := e) rfl]; exact Nat.zero_le _
theorem Shr.wrong {α : Type} : Shr (wrongT : PM α) := fun S y S' h => need_wrong h
theorem Shr.ite {α : Type} {c : Prop} [Decidable c] {F G : PM α} (h : Shr F) (g : Shr G) : Shr (if c then F else G) := by
 by_cases q : c
 ·rw [if_pos q]; exact h
 ·rw [if_neg q]; exact g
theorem Shr.next : Shr nextT := fun S x S' h => need_next h
theorem Shr.is (s : Key) : Shr (isT s) := fun S x S' h => by rw [h.stay]; exact Nat.le_refl _
theorem Shr.pick (l : List (Int × Key)) : Shr (pickT l) := fun S x S' h => by
 have : S' = S := by
  cases S with
  | error e => exact h
  | ok σ => exact (h.get_ok rfl).2
 rw [this]; exact Nat.le_refl _
theorem Shr.take (s : Key) : Shr (takeT s) := fun S x S' h => (need_take h).1
theorem Shr.deeper : Shr deeperT := fun S x S' h => need_deeper h
theorem Shr.up : Shr upT := fun S x S' h => need_up h
theorem Shr.open (s : Key) : Shr (openT s) := fun S x S' h => (need_open h).1
theorem Shr.shut (s : Key) : Shr (shutT s) := fun S x S' h => need_shut h
theorem Shr.room (n m : Int) : Shr (roomT n m) := fun S x S' h => need_room h
theorem Shr.name : Shr nameT := fun S x S' h => (need_name h).1
theorem Shr.kind : Shr kindT := fun S x S' h => need_kind h
theorem Shr.at {α : Type} {F : PM α} (h : ∀ σ, ∃ G : PM α, Shr G ∧ G σ = F σ) : Shr F := fun S x S' q => by
 cases S with
 | error e => have q : S' = .error e := q; subst q; exact Nat.le_refl _
 | ok σ =>
  obtain ⟨G, hG, e⟩ := h σ;refine hG (.ok σ) x S' ?_;unfold Rel at q ⊢;simp only [e];exact q
theorem Le.at {α : Type} {F F' : PM α} (h : ∀ σ, ∃ G G' : PM α, Le G G' ∧ G σ = F σ ∧ G' σ = F' σ) : Le F F' := fun σ => by
 obtain ⟨G, G', q, e, e'⟩ := h σ;rw [← e, ← e'];exact q σ
theorem expr_le : ∀ n, (∀ r, Le (exprT n r) (exprT (n + 1) r)) ∧ (∀ r x, Le (loopT n r x) (loopT (n + 1) r x)) ∧ Le (notT n) (notT (n + 1)) ∧ (∀ o c, Le (innerT n o c) (innerT (n + 1) o c)) ∧ Le (commaT n) (commaT (n + 1)) ∧ (∀ l, Le (moreT n l) (moreT (n + 1) l)) ∧ Le (argsT n) (argsT (n + 1)) ∧ Le (namedT n) (namedT (n + 1)) ∧ Le (wordT n) (wordT (n + 1)) ∧ Le (atomT n) (atomT (n + 1)) := by
 intro n
 induction n with
 | zero => exact ⟨fun _ => Le.fail _, fun _ _ => Le.fail _, Le.fail _, fun _ _ => Le.fail _, Le.fail _, fun _ => Le.fail _, Le.fail _, Le.fail _, Le.fail _, Le.fail _⟩
 | succ n ih =>
  obtain ⟨h1, h2, h3, h4, h5, h6, h7, h8, h9, h10⟩ := ih;refine ⟨fun r => ?_, fun r x => ?_, ?_, fun o c => ?_, ?_, fun l => ?_, ?_, ?_, ?_, ?_⟩
  ·rw [exprT, exprT];exact Le.ite h10 (Le.ite (Le.bnd (Le.refl _) fun c => Le.ite h3 (h1 _)) (Le.bnd (h1 _) fun x => h2 _ x))
  ·rw [loopT, loopT];exact Le.bnd (Le.refl _) fun op => Le.ite (Le.refl _) (Le.bnd (Le.refl _) fun _ => Le.bnd (h1 _) fun y => Le.ite (Le.refl _) (h2 _ _))
  ·rw [notT, notT];exact Le.bnd (Le.refl _) fun _ => Le.bnd (Le.refl _) fun _ => Le.bnd (h1 _) fun x => Le.refl _
  ·rw [innerT, innerT];exact Le.bnd (Le.refl _) fun _ => Le.bnd (h1 _) fun x => Le.refl _
  ·rw [commaT, commaT];exact Le.bnd (Le.refl _) fun c => Le.ite (Le.refl _) (Le.bnd (h1 _) fun x => h6 _)
  ·rw [moreT, moreT];exact Le.bnd (Le.refl _) fun c => Le.ite (Le.bnd (Le.refl _) fun _ => Le.bnd (Le.refl _) fun _ => Le.bnd (h1 _) fun x => h6 _) (Le.refl _)
  ·rw [argsT, argsT];exact Le.bnd (Le.refl _) fun _ => Le.bnd h5 fun l => Le.refl _
  ·rw [namedT, namedT];exact Le.bnd (Le.refl _) fun s => Le.bnd (Le.refl _) fun c => Le.ite (Le.bnd (h4 _ _) fun y => Le.refl _) (Le.bnd (Le.refl _) fun d => Le.ite (Le.bnd h7 fun l => Le.refl _) (Le.refl _))
  ·rw [wordT, wordT];exact Le.bnd (Le.refl _) fun c => Le.ite (h4 _ _) (Le.bnd (Le.refl _) fun c => Le.ite (Le.refl _) (Le.bnd (Le.refl _) fun c => Le.ite (Le.refl _) (Le.bnd (Le.refl _) fun op => Le.ite (Le.refl _) (Le.bnd (Le.refl _) fun _ => Le.ite (Le.bnd (h4 _ _) fun y => Le.refl _) (Le.refl _)))))
  ·refine Le.at fun σ => ?_;rw [atomT, atomT]
   cases h : σ.now with
   | num m => exact ⟨_, _, Le.refl (bnd nextT fun _ => pur (exP 1 m [] [])), by simp only [h], by simp only [h]⟩
   | name s => exact ⟨_, _, h8, by simp only [h], by simp only [h]⟩
   | none => exact ⟨_, _, h9, by simp only [h], by simp only [h]⟩
   | fin => exact ⟨_, _, h9, by simp only [h], by simp only [h]⟩
   | fixed s => exact ⟨_, _, h9, by simp only [h], by simp only [h]⟩
theorem expr_shr : ∀ n, (∀ r, Shr (exprT n r)) ∧ (∀ r x, Shr (loopT n r x)) ∧ Shr (notT n) ∧ (∀ o c, Shr (innerT n o c)) ∧ Shr (commaT n) ∧ (∀ l, Shr (moreT n l)) ∧ Shr (argsT n) ∧ Shr (namedT n) ∧ Shr (wordT n) ∧ Shr (atomT n) := by
 intro n
 induction n with
 | zero => exact ⟨fun _ => Shr.fail _, fun _ _ => Shr.fail _, Shr.fail _, fun _ _ => Shr.fail _, Shr.fail _, fun _ => Shr.fail _, Shr.fail _, Shr.fail _, Shr.fail _, Shr.fail _⟩
 | succ n ih =>
  obtain ⟨h1, h2, h3, h4, h5, h6, h7, h8, h9, h10⟩ := ih;refine ⟨fun r => ?_, fun r x => ?_, ?_, fun o c => ?_, ?_, fun l => ?_, ?_, ?_, ?_, ?_⟩
  ·rw [exprT];exact Shr.ite h10 (Shr.ite (Shr.bnd (Shr.is _) fun c => Shr.ite h3 (h1 _)) (Shr.bnd (h1 _) fun x => h2 _ x))
  ·rw [loopT];exact Shr.bnd (Shr.pick _) fun op => Shr.ite (Shr.pur _) (Shr.bnd Shr.next fun _ => Shr.bnd (h1 _) fun y => Shr.ite (Shr.pur _) (h2 _ _))
  ·rw [notT];exact Shr.bnd Shr.deeper fun _ => Shr.bnd (Shr.take _) fun _ => Shr.bnd (h1 _) fun x => Shr.bnd Shr.up fun _ => Shr.pur _
  ·rw [innerT];exact Shr.bnd (Shr.open _) fun _ => Shr.bnd (h1 _) fun x => Shr.bnd (Shr.shut _) fun _ => Shr.pur _
  ·rw [commaT];exact Shr.bnd (Shr.is _) fun c => Shr.ite (Shr.pur _) (Shr.bnd (h1 _) fun x => h6 _)
  ·rw [moreT];exact Shr.bnd (Shr.is _) fun c => Shr.ite (Shr.bnd (Shr.room _ _) fun _ => Shr.bnd (Shr.take _) fun _ => Shr.bnd (h1 _) fun x => h6 _) (Shr.pur _)
  ·rw [argsT];exact Shr.bnd (Shr.open _) fun _ => Shr.bnd h5 fun l => Shr.bnd (Shr.shut _) fun _ => Shr.pur _
  ·rw [namedT];exact Shr.bnd Shr.name fun s => Shr.bnd (Shr.is _) fun c => Shr.ite (Shr.bnd (h4 _ _) fun y => Shr.pur _) (Shr.bnd (Shr.is _) fun d => Shr.ite (Shr.bnd h7 fun l => Shr.pur _) (Shr.pur _))
  ·rw [wordT];exact Shr.bnd (Shr.is _) fun c => Shr.ite (h4 _ _) (Shr.bnd (Shr.is _) fun c => Shr.ite (Shr.bnd (Shr.take _) fun _ => Shr.pur _) (Shr.bnd (Shr.is _) fun c => Shr.ite (Shr.bnd (Shr.take _) fun _ => Shr.pur _) (Shr.bnd (Shr.pick _) fun op => Shr.ite Shr.wrong (Shr.bnd Shr.next fun _ => Shr.ite (Shr.bnd (h4 _ _) fun y => Shr.pur _) (Shr.pur _)))))
  ·refine Shr.at fun σ => ?_;rw [atomT]
   cases h : σ.now with
   | num m => exact ⟨_, Shr.bnd Shr.next fun _ => Shr.pur (exP 1 m [] []), by simp only [h]⟩
   | name s => exact ⟨_, h8, by simp only [h]⟩
   | none => exact ⟨_, h9, by simp only [h]⟩
   | fin => exact ⟨_, h9, by simp only [h]⟩
   | fixed s => exact ⟨_, h9, by simp only [h]⟩
def Rv {α : Type} (F : Nat → PM α) (S : ES) (x : α) (S' : ES) : Prop := ∃ n0, ∀ n, n0 ≤ n → Rel (F n) S x S'
theorem Rv.of {α : Type} {F : PM α} {S S' : ES} {x : α} (h : Rel F S x S') : Rv (fun _ => F) S x S' := ⟨0, fun _ _ => h⟩
theorem Rel.up {α : Type} {F G : PM α} {S S' : ES} {x : α} (h : Rel F S x S') (k : Le F G) (h0 : S' ≠ .error 0) : Rel G S x S' := by
 cases S with
 | error e => exact h
 | ok σ =>
  rcases k σ with q | q
  ·exact absurd (h.get_err q) h0
  ·unfold Rel at h ⊢;simp only [← q];exact h
theorem Rv.up {α : Type} {F : Nat → PM α} {S S' : ES} {x : α} {n : Nat} (h : Rel (F n) S x S') (k : ∀ n, Le (F n) (F (n + 1))) (h0 : S' ≠ .error 0) : Rv F S x S' :=
 ⟨n, fun m hm => by
  obtain ⟨d, rfl⟩ := Nat.exists_eq_add_of_le hm
  induction d with
  | zero => exact h
  | succ d ih => exact (ih (by omega)).up (k _) h0⟩
theorem Rv.bind {α β : Type} {F : Nat → PM α} {G : Nat → α → PM β} {S S1 S2 : ES} {x : α} {y : β} (h : Rv F S x S1) (g : Rv (fun n => G n x) S1 y S2) : Rv (fun n => bnd (F n) (G n)) S y S2 := by
 obtain ⟨n1, h1⟩ := h;obtain ⟨n2, h2⟩ := g;exact ⟨max n1 n2, fun n hn => (h1 n (by omega)).bind (h2 n (by omega))⟩
theorem Rv.succ {α : Type} {F : Nat → PM α} {S S' : ES} {x : α} (h : Rv (fun n => F (n + 1)) S x S') : Rv F S x S' := by
 obtain ⟨n0, h⟩ := h
 exact ⟨n0 + 1, fun n hn => by
  obtain ⟨m, rfl⟩ : ∃ m, n = m + 1 := ⟨n - 1, by omega⟩
  exact h m (by omega)⟩
theorem Rv.shr {α : Type} {F : Nat → PM α} {S S' : ES} {x : α} (h : Rv F S x S') (k : ∀ n, Shr (F n)) : need S' ≤ need S := by
 obtain ⟨n0, h⟩ := h;exact k n0 S x S' (h n0 (Nat.le_refl _))
theorem Rv.det {α : Type} {F : Nat → PM α} {S S1 S2 : ES} {x y : α} (h : Rv F S x S1) (k : Rv F S y S2) : S1 = S2 ∧ (∀ σ, S1 = .ok σ → x = y) := by
 obtain ⟨n1, h⟩ := h;obtain ⟨n2, k⟩ := k;have h := h (max n1 n2) (by omega);have k := k (max n1 n2) (by omega)
 cases S with
 | error e =>
  have h : S1 = .error e := h;have k : S2 = .error e := k;exact ⟨h.trans k.symm, fun σ q => by rw [h] at q; cases q⟩
 | ok σ =>
  cases hF : F (max n1 n2) σ with
  | error e =>
   have h := h.get_err hF;have k := k.get_err hF;exact ⟨h.trans k.symm, fun σ q => by rw [h] at q; cases q⟩
  | ok p =>
   obtain ⟨z, τ⟩ := p;have h := h.get_ok hF;have k := k.get_ok hF;exact ⟨h.2.trans k.2.symm, fun σ q => h.1.trans k.1.symm⟩
def Kn {α : Type} (F : Nat → PM α) (S : ES) (G : Nat → PM α) (S1 : ES) : Prop := ∀ y S', Rv G S1 y S' → Rv F S y S'
theorem Kn.here {α : Type} {F : Nat → PM α} {S : ES} : Kn F S F S := fun _ _ h => h
theorem Kn.step {α β : Type} {F : Nat → PM α} {F1 : Nat → PM β} {G1 : Nat → β → PM α} {S S1 S2 : ES} {x : β} (k : Kn F S (fun n => bnd (F1 n) (G1 n)) S1) (h : Rv F1 S1 x S2) : Kn F S (fun n => G1 n x) S2 := fun y S' g => k y S' (h.bind g)
theorem Kn.fin {α : Type} {F : Nat → PM α} {S S1 : ES} {x : α} (k : Kn F S (fun _ => pur x) S1) : Rv F S x S1 := k x S1 (Rv.of (Rel.pur x S1))
theorem Kn.to {α : Type} {F G G' : Nat → PM α} {S S1 : ES} (k : Kn F S G S1) (e : ∀ n, G n = G' n) : Kn F S G' S1 := (funext e : G = G') ▸ k
theorem Kn.err {α : Type} {F G : Nat → PM α} {S : ES} {e : Int} (k : Kn F S G (.error e)) (y : α) : Rv F S y (.error e) := k y _ ⟨0, fun _ _ => rfl⟩
theorem Kn.succ {α : Type} {F G : Nat → PM α} {S S1 : ES} (k : Kn F S G S1) : Kn F S (fun n => G (n + 1)) S1 := fun y S' h => k y S' h.succ
theorem Kn.at {α : Type} {F G G' : Nat → PM α} {S S1 : ES} (k : Kn F S G S1) (e : ∀ n σ, S1 = .ok σ → G' n σ = G n σ) : Kn F S G' S1 := fun y S' h => k y S' (by
 obtain ⟨n0, h⟩ := h
 exact ⟨n0, fun n hn => (h n hn).at (e n)⟩)
theorem Kn.last {α : Type} {F G : Nat → PM α} {S S1 S2 : ES} {x : α} (k : Kn F S G S1) (h : Rv G S1 x S2) : Rv F S x S2 := k x S2 h
theorem bnd_assoc {α β γ : Type} (F : PM α) (G : α → PM β) (H : β → PM γ) : bnd (bnd F G) H = bnd F fun x => bnd (G x) H := by
 funext σ;simp only [bnd]
 cases F σ with
 | error e => rfl
 | ok p => rfl
def ifT {α : Type} : Bool → PM α → PM α → PM α
 | true, F, _ => F
 | false, _, G => G
theorem Le.ifT {α : Type} {c : Bool} {F F' G G' : PM α} (h : Le F F') (g : Le G G') : Le (ifT c F G) (ifT c F' G') := by cases c <;> assumption
theorem Shr.ifT {α : Type} {c : Bool} {F G : PM α} (h : Shr F) (g : Shr G) : Shr (ifT c F G) := by cases c <;> assumption
abbrev kElse : Key := [101, 108, 115, 101]
abbrev kValue : Key := [118, 97, 108, 117, 101]
abbrev kGas : Key := [103, 97, 115]
abbrev kSlot : Key := [115, 108, 111, 116]
abbrev kMap : Key := [109, 97, 112]
abbrev kFn : Key := [102, 110]
abbrev kOpen : Key := [111, 112, 101, 110]
abbrev kContract : Key := [99, 111, 110, 116, 114, 97, 99, 116]
def semiT (x : EV) : PM EV := bnd (takeT [59]) fun _ => pur x
def giveT (n : Nat) (f : EV → EV) : PM EV := bnd (takeT [61]) fun _ => bnd (exprT n 1) fun x => semiT (f x)
def gift (n : Nat) : PM EV := bnd nameT fun s => bnd (isT [91]) fun c => ifT c (bnd (innerT n [91] [93]) fun y => giveT n fun x => stP 3 s [] [] 0 [y, x] [] []) (giveT n fun x => stP 2 s [] [] 0 [x] [] [])
def letM (n : Nat) : PM EV := bnd nameT fun s => bnd (takeT [58]) fun _ => bnd kindT fun k => giveT n fun x => stP 1 s [] [] k [x] [] []
def askM (n : Nat) : PM EV := bnd nameT fun s => bnd (takeT [44]) fun _ => bnd nameT fun t => bnd (takeT [61]) fun _ => bnd (exprT n 1) fun x => bnd (takeT [46]) fun _ => bnd nameT fun u => bnd (argsT n) fun l => bnd (takeT kValue) fun _ => bnd (exprT n 1) fun y => bnd (takeT kGas) fun _ => bnd (exprT n 1) fun z => semiT (stP 10 s t u 0 (x :: y :: z :: l) [] [])
def payM (n : Nat) : PM EV := bnd (exprT n 1) fun x => bnd (takeT [44]) fun _ => bnd (exprT n 1) fun y => semiT (stP 8 [] [] [] 0 [x, y] [] [])
def oneM (n : Nat) (k : Int) : PM EV := bnd (exprT n 1) fun x => semiT (stP k [] [] [] 0 [x] [] [])
mutual
def stepM : Nat → PM EV
 | 0 => failT 0
 | n + 1 => fun σ =>
  match σ.now with
  | .name _ => gift n σ
  | _ => wordM n σ
def wordM : Nat → PM EV
 | 0 => failT 0
 | n + 1 => bnd (pickT stepW) fun k => if k = 0 then wrongT else bnd nextT fun _ => if k = 4 then ifM n else if k = 5 then whileM n else if k = 1 then letM n else if k = 10 then askM n else if k = 8 then payM n else oneM n k
def ifM : Nat → PM EV
 | 0 => failT 0
 | n + 1 => bnd (exprT n 1) fun x => bnd (blockM n) fun l => bnd (isT kElse) fun c => ifT c (bnd (takeT kElse) fun _ => bnd (blockM n) fun m => pur (stP 4 [] [] [] 0 [x] l m)) (pur (stP 4 [] [] [] 0 [x] l []))
def whileM : Nat → PM EV
 | 0 => failT 0
 | n + 1 => bnd (exprT n 1) fun x => bnd (blockM n) fun l => pur (stP 5 [] [] [] 0 [x] l [])
def blockM : Nat → PM (List EV)
 | 0 => failT 0
 | n + 1 => bnd (openT [123]) fun _ => bnd (stepsM n []) fun l => bnd (shutT [125]) fun _ => pur l
def stepsM : Nat → List EV → PM (List EV)
 | 0, _ => failT 0
 | n + 1, l => bnd (isT [125]) fun c => ifT c (pur l) (bnd (stepM n) fun s => stepsM n (l ++ [s]))
end
def paP (p : Key × Int) : EV := [.s p.1, .i p.2]
def parsM : Nat → List EV → PM (List EV)
 | 0, _ => failT 0
 | n + 1, l => bnd (isT [44]) fun c => ifT c (bnd (roomT l.length 8) fun _ => bnd (takeT [44]) fun _ => bnd paramT fun p => parsM n (l ++ [paP p])) (pur l)
def paramsM (n : Nat) : PM (List EV) := bnd (isT [41]) fun c => ifT c (pur []) (bnd paramT fun p => parsM n [paP p])
def fnP (s : Key) (o : Bool) (ps : List EV) (k : Int) (b : List EV) : EV := [.s s, .b o, .l ps, .i k, .l b]
def fnM (n : Nat) : PM EV := bnd (isT kOpen) fun o => bnd (ifT o (takeT kOpen) (pur ())) fun _ => bnd (takeT kFn) fun _ => bnd nameT fun s => bnd (takeT [40]) fun _ => bnd (paramsM n) fun l => bnd (takeT [41]) fun _ => bnd (takeT [45, 62]) fun _ => bnd kindT fun k => bnd (blockM n) fun b => pur (fnP s o l k b)
end Go.Proofs.YtpofgnlkhkednaaGreatDoor
