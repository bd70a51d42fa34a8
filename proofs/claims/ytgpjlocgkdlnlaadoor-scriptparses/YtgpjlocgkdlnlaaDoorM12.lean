/- What expressions are read (no program). -/
import Derived.Test.YtgpjlocgkdlnlaaDoorM11

namespace Go.Proofs.YtgpjlocgkdlnlaaDoor
open Go.RowKit
set_option linter.unusedVariables false
set_option linter.unusedSimpArgs false

theorem Rel.unbind {α β : Type} [Inhabited α] {F : PM α} {G : α → PM β} {S S2 : ES} {y : β} (h : Rel (bnd F G) S y S2) : ∃ x S1, Rel F S x S1 ∧ Rel (G x) S1 y S2 := by
  cases S with
  | error e => exact ⟨default, .error e, rfl, h⟩
  | ok σ =>
    cases hF : F σ with
    | error e =>
      have h := h.get_err (e := e) (by simp only [bnd, hF])
      subst h
      exact ⟨default, .error e, Rel.of_err hF, rfl⟩
    | ok p =>
      obtain ⟨x, τ⟩ := p
      refine ⟨x, .ok τ, Rel.of_ok hF, ?_⟩
      unfold Rel at h ⊢
      simpa only [bnd, hF] using h
theorem Rel.stay {s : Key} {S S' : ES} {x : Bool} (h : Rel (isT s) S x S') : S' = S := by
  cases S with
  | error e => exact h
  | ok σ => exact (h.get_ok rfl).2
theorem need_open {s : Key} {S S' : ES} (h : Rel (openT s) S () S') : need S' ≤ need S ∧ (stands s S = true → need S' + 16 ≤ need S) := by
  obtain ⟨x, S1, h1, h2⟩ := Rel.unbind h
  have e := h1.stay
  subst e
  obtain ⟨⟨⟩, S2, h3, h4⟩ := Rel.unbind h2
  have h5 := need_take h4
  cases x with
  | false =>
    have : S2 = S1 := by
      have h3 : Rel (pur ()) S1 () S2 := h3
      cases S1 with
      | error e => exact h3
      | ok σ => exact (h3.get_ok rfl).2
    subst this
    exact h5
  | true =>
    have h6 := need_deeper (show Rel deeperT S1 () S2 from h3)
    refine ⟨by omega, fun q => ?_⟩
    cases S1 with
    | error e => cases q
    | ok σ =>
      by_cases h32 : σ.lv = 32
      · have h3 : S2 = .error 7 := (show Rel deeperT (.ok σ) () S2 from h3).get_err (if_pos h32)
        subst h3
        have h4 : S' = .error 7 := h4
        subst h4
        have := of_decide_eq_true q
        show 0 + 16 ≤ 16 * mu σ
        have : mu σ = σ.rest.length + 1 := by unfold mu; rw [if_neg (by rw [this]; simp)]
        omega
      · have h3 := ((show Rel deeperT (.ok σ) () S2 from h3).get_ok (if_neg h32)).2
        subst h3
        have := h5.2 q
        exact this
theorem need_shut {s : Key} {S S' : ES} (h : Rel (shutT s) S () S') : need S' ≤ need S := by
  obtain ⟨⟨⟩, S1, h1, h2⟩ := Rel.unbind h
  exact Nat.le_trans (need_up h2) (need_take h1).1
theorem need_room {n m : Int} {S S' : ES} (h : Rel (roomT n m) S () S') : need S' ≤ need S := by
  unfold roomT at h
  split at h
  · cases S with
    | error e => have h : S' = .error e := h; subst h; exact Nat.le_refl _
    | ok σ => rw [h.get_err (e := 3) rfl]; exact Nat.zero_le _
  · cases S with
    | error e => have h : S' = .error e := h; subst h; exact Nat.le_refl _
    | ok σ => rw [(h.get_ok (τ := σ) rfl).2]; exact Nat.le_refl _
theorem need_wrong {α : Type} {x : α} {S S' : ES} (h : Rel (wrongT : PM α) S x S') : need S' ≤ need S := by
  cases S with
  | error e => have h : S' = .error e := h; subst h; exact Nat.le_refl _
  | ok σ => rw [h.get_err (e := errT σ) rfl]; exact Nat.zero_le _
theorem need_name {s : Key} {S S' : ES} (h : Rel nameT S s S') : need S' ≤ need S ∧ ((∃ σ t, S = .ok σ ∧ σ.now = .name t) → need S' + 16 ≤ need S) := by
  cases S with
  | error e => have h : S' = .error e := h; subst h; exact ⟨Nat.le_refl _, fun ⟨σ, t, q, _⟩ => by cases q⟩
  | ok σ =>
    by_cases hn : ∃ t, σ.now = .name t
    · obtain ⟨t, ht⟩ := hn
      have e : nameT σ = bnd nextT (fun _ => pur t) σ := by unfold nameT; rw [ht]
      have h' : Rel (bnd nextT fun _ => pur t) (.ok σ) s S' := by unfold Rel at h ⊢; simpa only [e] using h
      obtain ⟨⟨⟩, S1, h1, h2⟩ := Rel.unbind h'
      have e2 : S' = S1 := by
        cases S1 with
        | error e => exact h2
        | ok σ => exact (h2.get_ok rfl).2
      subst e2
      exact ⟨need_next h1, fun _ => need_here h1 ⟨by rw [ht]; simp, by rw [ht]; simp⟩⟩
    · have e : nameT σ = .error (errT σ) := by
        unfold nameT
        cases h : σ.now <;> simp_all
      rw [h.get_err e]
      exact ⟨Nat.zero_le _, fun ⟨τ, t, q, r⟩ => by injection q with q; subst q; exact absurd ⟨t, r⟩ hn⟩
abbrev EV := List Pv
def exP (op n : Int) (s : Key) (es : List EV) : EV := [.i op, .i n, .s s, .l es]
def formI (op : Int) : Int := (formL.map (·.2)).getD op.toNat 0
abbrev kNot : Key := [110, 111, 116]
abbrev kTrue : Key := [116, 114, 117, 101]
abbrev kFalse : Key := [102, 97, 108, 115, 101]
mutual
def exprT : Nat → Int → PM EV
  | 0, _ => failT 0
  | n + 1, r => if r = 7 then atomT n else if r = 3 then bnd (isT kNot) fun c => if c then notT n else exprT n (r + 1) else bnd (exprT n (r + 1)) fun x => loopT n r x
def loopT : Nat → Int → EV → PM EV
  | 0, _, _ => failT 0
  | n + 1, r, x => bnd (pickT (operW r)) fun op => if op = 0 then pur x else bnd nextT fun _ => bnd (exprT n (r + 1)) fun y => if r = 4 then pur (exP op 0 [] [x, y]) else loopT n r (exP op 0 [] [x, y])
def notT : Nat → PM EV
  | 0 => failT 0
  | n + 1 => bnd deeperT fun _ => bnd (takeT kNot) fun _ => bnd (exprT n 3) fun x => bnd upT fun _ => pur (exP 8 0 [] [x])
def innerT : Nat → Key → Key → PM EV
  | 0, _, _ => failT 0
  | n + 1, o, c => bnd (openT o) fun _ => bnd (exprT n 1) fun x => bnd (shutT c) fun _ => pur x
def commaT : Nat → PM (List EV)
  | 0 => failT 0
  | n + 1 => bnd (isT [41]) fun c => if c then pur [] else bnd (exprT n 1) fun x => moreT n [x]
def moreT : Nat → List EV → PM (List EV)
  | 0, _ => failT 0
  | n + 1, l => bnd (isT [44]) fun c => if c then bnd (roomT l.length 8) fun _ => bnd (takeT [44]) fun _ => bnd (exprT n 1) fun x => moreT n (l ++ [x]) else pur l
def argsT : Nat → PM (List EV)
  | 0 => failT 0
  | n + 1 => bnd (openT [40]) fun _ => bnd (commaT n) fun l => bnd (shutT [41]) fun _ => pur l
def namedT : Nat → PM EV
  | 0 => failT 0
  | n + 1 => bnd nameT fun s => bnd (isT [91]) fun c => if c then bnd (innerT n [91] [93]) fun y => pur (exP 4 0 s [y]) else bnd (isT [40]) fun d => if d then bnd (argsT n) fun l => pur (exP 5 0 s l) else pur (exP 3 0 s [])
def wordT : Nat → PM EV
  | 0 => failT 0
  | n + 1 => bnd (isT [40]) fun c => if c then innerT n [40] [41] else bnd (isT kTrue) fun c => if c then bnd (takeT kTrue) fun _ => pur (exP 2 1 [] []) else bnd (isT kFalse) fun c => if c then bnd (takeT kFalse) fun _ => pur (exP 2 0 [] [])
      else bnd (pickT (operW 7)) fun op => if op = 0 then wrongT else bnd nextT fun _ => if formI op = 1 then bnd (innerT n [40] [41]) fun y => pur (exP op 0 [] [y]) else pur (exP op 0 [] [])
def atomT : Nat → PM EV
  | 0 => failT 0
  | n + 1 => fun σ =>
    match σ.now with
    | .num m => bnd nextT (fun _ => pur (exP 1 m [] [])) σ
    | .name _ => namedT n σ
    | _ => wordT n σ
end
end Go.Proofs.YtgpjlocgkdlnlaaDoor

namespace Go.Proofs.YtgpjlocgkdlnlaaDoor
open Go.RowKit
set_option linter.unusedVariables false
set_option linter.unusedSimpArgs false

theorem bnew {w u : World} {b x i : Nat} {v : Value} (h : But (fun k => k = b) w u) (hx : w.heap.size ≤ x) : But (fun k => k = b) w (u.setCell ⟨x, i, none⟩ v) :=
  h.trans_new (But.set (S := fun k => k = x) u (p := ⟨x, i, none⟩) rfl v) (fun k hk q => by omega)
theorem bal {S : Nat → Prop} {w u : World} (h : But S w u) (o : Obj) : But S w (u.alloc o) := h.trans (But.of_below ((Below.refl _ _).alloc (Nat.le_refl _) _))
theorem bbut {w u v : World} {b : Nat} (h : But (fun k => k = b) w u) (k : But (fun k => k = b) u v) : But (fun k => k = b) w v := h.trans k
theorem Hi.refl (lo : Nat) (w : World) : Hi lo w w := ⟨Nat.le_refl _, fun _ _ _ => rfl⟩
theorem Hi.trans {lo : Nat} {a b c : World} (h : Hi lo a b) (k : Hi lo b c) : Hi lo a c := ⟨Nat.le_trans h.size k.size, fun i h1 h2 => (k.block i h1 (Nat.lt_of_lt_of_le h2 h.size)).trans (h.block i h1 h2)⟩
theorem Hi.set {lo : Nat} {w u : World} {x i : Nat} {v : Value} (h : Hi lo w u) (hx : x < lo) : Hi lo w (u.setCell ⟨x, i, none⟩ v) :=
  h.trans ⟨by rw [World.size_setCell]; exact Nat.le_refl _, fun k h1 h2 => Below.heap_setCell _ _ _ _ (fun e => by have e : k = x := e; omega)⟩
theorem Hi.al {lo : Nat} {w u : World} (h : Hi lo w u) (o : Obj) : Hi lo w (u.alloc o) := h.trans (Hi.of_below ((Below.refl _ _).alloc (Nat.le_refl _) _))
theorem Hi.but {lo b : Nat} {w u v : World} (h : Hi lo w u) (k : But (fun k => k = b) u v) (hb : b < lo) : Hi lo w v := h.trans (Hi.of_but k (fun i q => by omega))
theorem Blk.four {w : World} {b : Nat} {x y z u : Value} {t : TypeId} (k : Blk w b #[x, y, z, u] t) : b < w.heap.size ∧ (w.cell? ⟨b, 0, none⟩ = some x ∧ w.cell? ⟨b, 1, none⟩ = some y ∧ w.cell? ⟨b, 2, none⟩ = some z ∧ w.cell? ⟨b, 3, none⟩ = some u) ∧ w.frozen? ⟨b, 0, none⟩ = false ∧ w.frozen? ⟨b, 1, none⟩ = false ∧ w.frozen? ⟨b, 2, none⟩ = false ∧ w.frozen? ⟨b, 3, none⟩ = false :=
  ⟨k.lt, ⟨(k.cell 0).trans rfl, (k.cell 1).trans rfl, (k.cell 2).trans rfl, (k.cell 3).trans rfl⟩, k.frozen 0, k.frozen 1, k.frozen 2, k.frozen 3⟩
/-- Four cells that hold an expression. -/
def exC (op n : Int) (s : Key) (la : Option Addr) (ln lc : Nat) : Array Value := #[.int .i64 op, .int .i64 n, .string (str s), .slice la ln lc]
def exF (op n : Int) (s : Key) (la : Option Addr) (lc : Nat) (es : List (List Fld)) : List Fld := [.i op, .i n, .s s, .l la lc es]
/-- What a function that reads an expression gives. -/
def ExE (b : Nat) (F : PM EV) (S : ES) (w : World) (e : Ending) (w' : World) : Prop :=
  ∃ op n s la lc es, e = .returned (.agg (exC op n s la es.length lc)) ∧ lieAll w.heap.size w' (exF op n s la lc es) ∧ But (fun k => k = b) w w' ∧ ∃ S', RAt w' b S' ∧ need S' ≤ need S ∧ Rel F S (pvAll (exF op n s la lc es)) S'
theorem RAt.setOther {w : World} {b x i : Nat} {v : Value} {S : ES} (R : RAt w b S) (hx : b ≠ x) (h5 : 5 ≤ x) : RAt (w.setCell ⟨x, i, none⟩ v) b S := by
  have Q : But (fun k => k = x) w (w.setCell ⟨x, i, none⟩ v) := But.set (S := fun k => k = x) w (p := ⟨x, i, none⟩) rfl v
  refine ⟨⟨Nat.le_trans R.gl.sz Q.size, fun g hg j u hu => ?_⟩, R.b5, ?_⟩
  · rw [Q.cell (p := ⟨g, 0 + j, none⟩) (Nat.lt_of_lt_of_le (by show g < 5; omega) R.gl.sz) (by show ¬ g = x; omega)]
    exact R.gl.tab g hg j u hu
  · cases S with
    | ok σ => exact ⟨Q.blk R.box.1 hx, R.box.2⟩
    | error e =>
      obtain ⟨h0, r, lv, kb⟩ := R.box
      exact ⟨h0, r, lv, Q.blk kb hx⟩
theorem ex_fin {fn : Func} {i x b : Nat} {A : Act} {F : PM EV} {S S' : ES} {w u : World} {op n : Int} {s : Key} {la : Option Addr} {lc : Nat} {es : List (List Fld)} {t : TypeId} (hres : fn.results = #[.cell i 73]) (hi : A.eval (.tmp i) = .pointer (some ⟨x, 0, none⟩)) (hd : A.defers = [])
    (k : Blk u x (exC op n s la es.length lc) t) (hl : lieAll w.heap.size u (exF op n s la lc es)) (B : But (fun k => k = b) w u) (R : RAt u b S') (hN : need S' ≤ need S) (h : Rel F S (pvAll (exF op n s la lc es)) S') : bodyPost Tryd.prog fn (ExE b F S w) .ret A u :=
  ret_box hres hi hd (by kernel_rfl) (by kernel_rfl) k ⟨op, n, s, la, lc, es, rfl, hl, B, S', R, hN, h⟩
/-- The expression is given, through its box. -/
theorem ex_give {fn : Func} {i x b lo : Nat} {A : Act} {F : PM EV} {S S' : ES} {w u : World} {op n : Int} {s : Key} {la : Option Addr} {lc : Nat} {es : List (List Fld)} {c0 c1 c2 c3 : Value} (hres : fn.results = #[.cell i 73]) (hi : A.eval (.tmp i) = .pointer (some ⟨x, 0, none⟩)) (hd : A.defers = [])
    (k : Blk u x #[c0, c1, c2, c3] 73) (hb : b < w.heap.size) (hx : w.heap.size ≤ x) (hlo : x < lo) (hl : lieAll lo u (exF op n s la lc es)) (B : But (fun k => k = b) w u) (R : RAt u b S') (hN : need S' ≤ need S) (h : Rel F S (pvAll (exF op n s la lc es)) S') :
    bodyPost Tryd.prog fn (ExE b F S w) .ret A ((((u.setCell ⟨x, 0, none⟩ (.int .i64 op)).setCell ⟨x, 1, none⟩ (.int .i64 n)).setCell ⟨x, 2, none⟩ (.string (str s))).setCell ⟨x, 3, none⟩ (.slice la es.length lc)) := by
  have B' : ∀ {u'}, But (fun k => k = x) u u' → But (fun k => k = b) w u' := fun q => B.trans_new q (fun k hk e => by omega)
  have Q : But (fun k => k = x) u ((((u.setCell ⟨x, 0, none⟩ (.int .i64 op)).setCell ⟨x, 1, none⟩ (.int .i64 n)).setCell ⟨x, 2, none⟩ (.string (str s))).setCell ⟨x, 3, none⟩ (.slice la es.length lc)) := bset (bset (bset (bset (But.refl _ _))))
  refine ret_box hres hi hd (by kernel_rfl) (by kernel_rfl) ((((k.set 0 _).set 1 _).set 2 _).set 3 _) ⟨op, n, s, la, lc, es, rfl, (hl.hi (Hi.of_but Q fun k q => by omega)).mono (by omega), B' Q, S', ⟨?_, R.b5, ?_⟩, hN, h⟩
  · have hz := R.gl.sz
    refine ⟨Nat.le_trans R.gl.sz Q.size, fun g hg j v hv => ?_⟩
    rw [Q.cell (p := ⟨g, 0 + j, none⟩) (Nat.lt_of_lt_of_le (by show g < 5; omega) hz) (by have := R.b5; show ¬ g = x; omega)]
    exact R.gl.tab g hg j v hv
  · have hne : ¬ b = x := by omega
    cases S' with
    | ok σ => exact ⟨Q.blk R.box.1 hne, R.box.2⟩
    | error e =>
      obtain ⟨h0, r, lv, kb⟩ := R.box
      exact ⟨h0, r, lv, Q.blk kb hne⟩
def ExC (n : Nat) : Prop := ∀ r : Int, 1 ≤ r → r ≤ 7 → ∀ b S w, RAt w b S → (need S : Int) + 20 ≤ n + r → Calls Tryd.prog 77 #[.pointer (some ⟨b, 0, none⟩), .int .i64 r] w (ExE b (exprT n r) S w)
set_option maxRecDepth 4000 in
set_option maxHeartbeats 3200000 in
theorem inner_b {n : Nat} (H : ExC n) (o c : Key) (b : Nat) (S : ES) (w : World) (R : RAt w b S) (hn : need S + 4 ≤ n + 1) (hn2 : 20 ≤ n + 1) : Calls Tryd.prog 81 #[.pointer (some ⟨b, 0, none⟩), .string (str o), .string (str c)] w (ExE b (innerT (n + 1) o c) S w) := by
  have zb := R.lt
  have bA : Below w.heap.size w (w.alloc (.cells #[.int .i64 0, .int .i64 0, .string ⟨#[]⟩, .slice none 0 0] 73)) := (Below.refl _ _).alloc (Nat.le_refl _) _
  have kA := Blk.new w #[.int .i64 0, .int .i64 0, .string ⟨#[]⟩, .slice none 0 0] 73
  go_enter Tryd.func81, Tryd.ntmps81
  go_wp2_with fail
  refine (open_u o b S _ (R.below bA)).mono ?_
  rintro e w1 ⟨rfl, B1, S1, R1, h1⟩
  have k1 := B1.blk kA (by omega)
  have B01 : But (fun k => k = b) w w1 := bbut (But.of_below bA) B1
  have hz1 : w.heap.size < w1.heap.size := k1.lt
  have hd1 := need_open h1
  have hf : (need S1 : Int) + 20 ≤ n + 1 := by
    by_cases hs : stands o S = true
    · have := hd1.2 hs; omega
    · have : need S1 = 0 := by
        obtain ⟨x, S0, q1, q2⟩ := Rel.unbind h1
        have e := q1.stay
        subst e
        cases S0 with
        | error e => have h1 : S1 = .error e := h1; rw [h1]; rfl
        | ok σ =>
          have hs' : ¬ σ.now = .fixed o := fun q => hs (decide_eq_true q)
          have : openT o σ = .error (errT σ) := by simp [openT, bnd, isT, hs', pur, takeT]
          rw [h1.get_err this]; rfl
      omega
  go_wp2_with fail
  refine (H 1 (by omega) (by omega) b S1 w1 R1 hf).mono ?_
  rintro e w2 ⟨op, m, s, la, lc, es, rfl, hl, B2, S2, R2, hd2, h2⟩
  unfold exC
  have k2 := B2.blk k1 (by omega)
  have B02 := bbut B01 B2
  clear bA kA k1 B1
  have bC : Below w2.heap.size w2 (w2.alloc (.cells #[.int .i64 op, .int .i64 m, .string (str s), .slice la es.length lc] 73)) := (Below.refl _ _).alloc (Nat.le_refl _) _
  have kC := Blk.new w2 #[.int .i64 op, .int .i64 m, .string (str s), .slice la es.length lc] 73
  have k2' := k2.below bC k2.lt
  have R2' := R2.below bC
  have hz2 := B2.size
  go_wp2_with fail
  refine (shut_u c b S2 _ R2').mono ?_
  rintro e w3 ⟨rfl, B3, S3, R3, h3⟩
  have k3 := B3.blk k2' (by omega)
  have kD := B3.blk kC (by omega)
  have B03 := bbut (bal B02 _) B3
  have hl3 : lieAll w1.heap.size w3 (exF op m s la lc es) := hl.hi (((Hi.refl _ _).al _).but B3 (by omega))
  have hd3 := need_shut h3
  have HD : Hid (need S3 ≤ need S) := by have := hd1.1; show _ ≤ _; omega
  have HR : Hid (Rel (innerT (n + 1) o c) S (pvAll (exF op m s la lc es)) S3) := by
    show Rel (innerT (n + 1) o c) S _ _
    rw [innerT]
    exact h1.bind (h2.bind (h3.bind (Rel.pur _ _)))
  clear h1 h2 h3 hd1 hd2 hd3 hf bC kC k2 k2' R2' hl B2 B3 B01 B02 R2 R1 H hn
  obtain ⟨z1, ⟨c0, c1, c2, c3⟩, f0, f1, f2, f3⟩ := k3.four
  obtain ⟨z2, ⟨d0, d1, d2, d3⟩, g0, g1, g2, g3⟩ := kD.four
  go_wp2
  exact ex_give Tryd.results81 rfl rfl k3 zb (Nat.le_refl _) hz1 hl3 B03 R3 HD.out HR.out
end Go.Proofs.YtgpjlocgkdlnlaaDoor
