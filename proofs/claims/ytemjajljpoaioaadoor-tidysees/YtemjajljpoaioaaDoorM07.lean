import Derived.Test.YtemjajljpoaioaaDoorSSpec
namespace Go.Proofs.YtemjajljpoaioaaDoor
open Go.RowKit
set_option linter.unusedVariables false
set_option linter.unusedSimpArgs false
set_option maxRecDepth 20000
set_option maxHeartbeats 8000000
def numbered : Int → List Key → List (Int × Key)
 | _, [] => []
 | k, s :: r => (k, s) :: numbered (k + 1) r
def kindW : List (Int × Key) := numbered 1 (kindL.drop 1)
def stepW : List (Int × Key) := numbered 1 (stepL.drop 1)
def kindT : PM Int := bnd (pickT kindW) fun k => if k = 0 then wrongT else bnd nextT fun _ => pur k
def rankI (n : Int) : Int := if n = 6 then 1 else if n = 7 then 2 else if n = 8 then 3 else if n ≤ 14 then 4 else if n ≤ 16 then 5 else if n ≤ 19 then 6 else 7
def ranked (r : Int) : Int → List Key → List (Int × Key)
 | _, [] => []
 | k, s :: l => if rankI k = r then (k, s) :: ranked r (k + 1) l else ranked r (k + 1) l
def operW (r : Int) : List (Int × Key) := ranked r 6 (exprL.drop 6)
theorem Rel.unbind {α β : Type} [Inhabited α] {F : PM α} {G : α → PM β} {S S2 : ES} {y : β} (h : Rel (bnd F G) S y S2) : ∃ x S1, Rel F S x S1 ∧ Rel (G x) S1 y S2 := by
 cases S with
 | error e => exact ⟨default, .error e, rfl, h⟩
 | ok σ =>
  cases hF : F σ with
  | error e =>
   have h := h.get_err (e := e) (by simp only [bnd, hF])
   subst h
   exact ⟨default, .error e, Rel.of_err hF, rfl⟩
  | ok p =>
   obtain ⟨x, τ⟩ := p
   refine ⟨x, .ok τ, Rel.of_ok hF, ?_⟩
   unfold Rel at h ⊢
   simpa only [bnd, hF] using h
theorem Rel.stay {s : Key} {S S' : ES} {x : Bool} (h : Rel (isT s) S x S') : S' = S := by
 cases S with
 | error e => exact h
 | ok σ => exact (h.get_ok rfl).2
theorem need_open {s : Key} {S S' : ES} (h : Rel (openT s) S () S') : need S' ≤ need S ∧ (stands s S = true → need S' + 16 ≤ need S) := by
 obtain ⟨x, S1, h1, h2⟩ := Rel.unbind h
 have e := h1.stay
 subst e
 obtain ⟨⟨⟩, S2, h3, h4⟩ := Rel.unbind h2
 have h5 := need_take h4
 cases x with
 | false =>
  have : S2 = S1 := by
   have h3 : Rel (pur ()) S1 () S2 := h3
   cases S1 with
   | error e => exact h3
   | ok σ => exact (h3.get_ok rfl).2
  subst this
  exact h5
 | true =>
  have h6 := need_deeper (show Rel deeperT S1 () S2 from h3)
  refine ⟨by omega, fun q => ?_⟩
  cases S1 with
  | error e => cases q
  | ok σ =>
   by_cases h32 : σ.lv = 32
   ·have h3 : S2 = .error 7 := (show Rel deeperT (.ok σ) () S2 from h3).get_err (if_pos h32)
    subst h3
    have h4 : S' = .error 7 := h4
    subst h4
    have := of_decide_eq_true q
    show 0 + 16 ≤ 16 * mu σ
    have : mu σ = σ.rest.length + 1 := by unfold mu; rw [if_neg (by rw [this]; simp)]
    omega
   ·have h3 := ((show Rel deeperT (.ok σ) () S2 from h3).get_ok (if_neg h32)).2
    subst h3
    have := h5.2 q
    exact this
theorem need_room {n m : Int} {S S' : ES} (h : Rel (roomT n m) S () S') : need S' ≤ need S := by
 unfold roomT at h
 split at h
 ·cases S with
  | error e => have h : S' = .error e := h; subst h; exact Nat.le_refl _
  | ok σ => rw [h.get_err (e := 3) rfl]; exact Nat.zero_le _
 ·cases S with
  | error e => have h : S' = .error e := h; subst h; exact Nat.le_refl _
  | ok σ => rw [(h.get_ok (τ := σ) rfl).2]; exact Nat.le_refl _
theorem need_wrong {α : Type} {x : α} {S S' : ES} (h : Rel (wrongT : PM α) S x S') : need S' ≤ need S := by
 cases S with
 | error e => have h : S' = .error e := h; subst h; exact Nat.le_refl _
 | ok σ => rw [h.get_err (e := errT σ) rfl]; exact Nat.zero_le _
theorem need_name {s : Key} {S S' : ES} (h : Rel nameT S s S') : need S' ≤ need S ∧ ((∃ σ t, S = .ok σ ∧ σ.now = .name t) → need S' + 16 ≤ need S) := by
 cases S with
 | error e => have h : S' = .error e := h; subst h; exact ⟨Nat.le_refl _, fun ⟨σ, t, q, _⟩ => by cases q⟩
 | ok σ =>
  by_cases hn : ∃ t, σ.now = .name t
  ·obtain ⟨t, ht⟩ := hn
   have e : nameT σ = bnd nextT (fun _ => pur t) σ := by unfold nameT; rw [ht]
   have h' : Rel (bnd nextT fun _ => pur t) (.ok σ) s S' := by unfold Rel at h ⊢; simpa only [e] using h
   obtain ⟨⟨⟩, S1, h1, h2⟩ := Rel.unbind h'
   have e2 : S' = S1 := by
    cases S1 with
    | error e => exact h2
    | ok σ => exact (h2.get_ok rfl).2
   subst e2
   exact ⟨need_next h1, fun _ => need_here h1 ⟨by rw [ht]; simp, by rw [ht]; simp⟩⟩
  ·have e : nameT σ = .error (errT σ) := by
    unfold nameT
    cases h : σ.now <;> simp_all
   rw [h.get_err e]
   exact ⟨Nat.zero_le _, fun ⟨τ, t, q, r⟩ => by injection q with q; subst q; exact absurd ⟨t, r⟩ hn⟩
abbrev EV := List Pv
def exP (op n : Int) (s : Key) (es : List EV) : EV := [.i op, .i n, .s s, .l es]
def formI (op : Int) : Int := (formL.map (·.2)).getD op.toNat 0
abbrev kNot : Key := [110, 111, 116]
abbrev kTrue : Key := [116, 114, 117, 101]
abbrev kFalse : Key := [102, 97, 108, 115, 101]
mutual
def exprT : Nat → Int → PM EV
 | 0, _ => failT 0
 | n + 1, r => if r = 7 then atomT n else if r = 3 then bnd (isT kNot) fun c => if c then notT n else exprT n (r + 1) else bnd (exprT n (r + 1)) fun x => loopT n r x
def loopT : Nat → Int → EV → PM EV
 | 0, _, _ => failT 0
 | n + 1, r, x => bnd (pickT (operW r)) fun op => if op = 0 then pur x else bnd nextT fun _ => bnd (exprT n (r + 1)) fun y => if r = 4 then pur (exP op 0 [] [x, y]) else loopT n r (exP op 0 [] [x, y])
def notT : Nat → PM EV
 | 0 => failT 0
 | n + 1 => bnd deeperT fun _ => bnd (takeT kNot) fun _ => bnd (exprT n 3) fun x => bnd upT fun _ => pur (exP 8 0 [] [x])
def innerT : Nat → Key → Key → PM EV
 | 0, _, _ => failT 0
 | n + 1, o, c => bnd (openT o) fun _ => bnd (exprT n 1) fun x => bnd (shutT c) fun _ => pur x
def commaT : Nat → PM (List EV)
 | 0 => failT 0
 | n + 1 => bnd (isT [41]) fun c => if c then pur [] else bnd (exprT n 1) fun x => moreT n [x]
def moreT : Nat → List EV → PM (List EV)
 | 0, _ => failT 0
 | n + 1, l => bnd (isT [44]) fun c => if c then bnd (roomT l.length 8) fun _ => bnd (takeT [44]) fun _ => bnd (exprT n 1) fun x => moreT n (l ++ [x]) else pur l
def argsT : Nat → PM (List EV)
 | 0 => failT 0
 | n + 1 => bnd (openT [40]) fun _ => bnd (commaT n) fun l => bnd (shutT [41]) fun _ => pur l
def namedT : Nat → PM EV
 | 0 => failT 0
 | n + 1 => bnd nameT fun s => bnd (isT [91]) fun c => if c then bnd (innerT n [91] [93]) fun y => pur (exP 4 0 s [y]) else bnd (isT [40]) fun d => if d then bnd (argsT n) fun l => pur (exP 5 0 s l) else pur (exP 3 0 s [])
def wordT : Nat → PM EV
 | 0 => failT 0
 | n + 1 => bnd (isT [40]) fun c => if c then innerT n [40] [41] else bnd (isT kTrue) fun c => if c then bnd (takeT kTrue) fun _ => pur (exP 2 1 [] []) else bnd (isT kFalse) fun c => if c then bnd (takeT kFalse) fun _ => pur (exP 2 0 [] [])
   else bnd (pickT (operW 7)) fun op => if op = 0 then wrongT else bnd nextT fun _ => if formI op = 1 then bnd (innerT n [40] [41]) fun y => pur (exP op 0 [] [y]) else pur (exP op 0 [] [])
def atomT : Nat → PM EV
 | 0 => failT 0
 | n + 1 => fun σ =>
  match σ.now with
  | .num m => bnd nextT (fun _ => pur (exP 1 m [] [])) σ
  | .name _ => namedT n σ
  | _ => wordT n σ
end
theorem Hi.refl (lo : Nat) (w : World) : Hi lo w w := ⟨Nat.le_refl _, fun _ _ _ => rfl⟩
theorem Hi.trans {lo : Nat} {a b c : World} (h : Hi lo a b) (k : Hi lo b c) : Hi lo a c := ⟨Nat.le_trans h.size k.size, fun i h1 h2 => (k.block i h1 (Nat.lt_of_lt_of_le h2 h.size)).trans (h.block i h1 h2)⟩
theorem Hi.set {lo : Nat} {w u : World} {x i : Nat} {v : Value} (h : Hi lo w u) (hx : x < lo) : Hi lo w (u.setCell ⟨x, i, none⟩ v) :=
 h.trans ⟨by rw [World.size_setCell]; exact Nat.le_refl _, fun k h1 h2 => Below.heap_setCell _ _ _ _ (fun e => by have e : k = x := e; omega)⟩
theorem Hi.al {lo : Nat} {w u : World} (h : Hi lo w u) (o : Obj) : Hi lo w (u.alloc o) := h.trans (Hi.of_below ((Below.refl _ _).alloc (Nat.le_refl _) _))
theorem Hi.but {lo b : Nat} {w u v : World} (h : Hi lo w u) (k : But (fun k => k = b) u v) (hb : b < lo) : Hi lo w v := h.trans (Hi.of_but k (fun i q => by omega))
def exF (op n : Int) (s : Key) (la : Option Addr) (lc : Nat) (es : List (List Fld)) : List Fld := [.i op, .i n, .s s, .l la lc es]
def wneed (w : World) (b : Nat) : Nat :=
 match w.cell? ⟨b, 5, none⟩, w.cell? ⟨b, 0, none⟩, w.cell? ⟨b, 1, none⟩ with
 | some (.int _ e), some (.string s), some (.int _ c) => if e ≠ 0 then 0 else 16 * (s.size + if c = 1 ∨ c = 0 then 0 else 1)
 | _, _, _ => 0
theorem RowG.one {lo sz : Nat} {ety : TypeId} {fs : List Fld} {u : World} (hl : lieAll lo u fs) (hlo : lo ≤ u.heap.size) (hz : fs.length = sz) : RowG lo ety sz (.slice (some ⟨u.heap.size, 0, none⟩) 1 1) [fs] (u.alloc (.cells (fs.map Fld.val).toArray ety)) := by
 have bA : Below u.heap.size u (u.alloc (.cells (fs.map Fld.val).toArray ety)) := (Below.refl _ _).alloc (Nat.le_refl _) _
 refine ⟨⟨by simp [flatV, hz], .inr ⟨u.heap.size, 1, (fs.map Fld.val).toArray, rfl, hlo, Blk.new u _ ety, by simp, by unfold maxLen; omega, by simp [hz], ?_⟩⟩, fun d hd => ?_, fun b hb d hd => ?_, fun d hd => ?_⟩
 ·rw [List.take_of_length_le (by simp [hz])]; simp [flatV]
 ·rw [List.mem_singleton.1 hd]; exact hl.hi (Hi.of_below bA)
 ·rw [List.mem_singleton.1 hd]
  have hb : u.heap.size = b := by injection hb
  exact fun f hf => Fld.lies_apart (.inr (by omega)) f (hl f hf)
 ·rw [List.mem_singleton.1 hd]; exact hz
theorem Rel.at {α : Type} {F G : PM α} {S S' : ES} {x : α} (h : Rel F S x S') (e : ∀ σ, S = .ok σ → F σ = G σ) : Rel G S x S' := by
 cases S with
 | error e => exact h
 | ok σ => unfold Rel at h ⊢; simp only [← e σ rfl]; exact h
theorem need_pur {α : Type} {x y : α} {S S' : ES} (h : Rel (pur x) S y S') : S' = S := by
 cases S with
 | error e => exact h
 | ok σ => exact (h.get_ok rfl).2
def paramT : PM (Key × Int) := bnd nameT fun s => bnd (takeT [58]) fun _ => bnd kindT fun k => pur (s, k)
theorem Blk.two {w : World} {b : Nat} {x y : Value} {t : TypeId} (k : Blk w b #[x, y] t) : b < w.heap.size ∧ (w.cell? ⟨b, 0, none⟩ = some x ∧ w.cell? ⟨b, 1, none⟩ = some y) ∧ w.frozen? ⟨b, 0, none⟩ = false ∧ w.frozen? ⟨b, 1, none⟩ = false :=
 ⟨k.lt, ⟨(k.cell 0).trans rfl, (k.cell 1).trans rfl⟩, k.frozen 0, k.frozen 1⟩
structure Sm where
 k : Int
 nm : Key
 al : Key
 ca : Key
 ty : Int
 ea : Option Addr
 ec : Nat
 es : List (List Fld)
 ba : Option Addr
 bc : Nat
 bs : List (List Fld)
 la : Option Addr
 lc : Nat
 ls : List (List Fld)
def Sm.cells (x : Sm) : Array Value := #[.int .i64 x.k, .string (str x.nm), .string (str x.al), .string (str x.ca), .int .i64 x.ty, .slice x.ea x.es.length x.ec, .slice x.ba x.bs.length x.bc, .slice x.la x.ls.length x.lc]
def Sm.flds (x : Sm) : List Fld := [.i x.k, .s x.nm, .s x.al, .s x.ca, .i x.ty, .l x.ea x.ec x.es, .l x.ba x.bc x.bs, .l x.la x.lc x.ls]
def stP (k : Int) (nm al ca : Key) (ty : Int) (es bs ls : List EV) : EV := [.i k, .s nm, .s al, .s ca, .i ty, .l es, .l bs, .l ls]
theorem Sm.lie {lo : Nat} {w : World} (x : Sm) (h1 : -9223372036854775808 ≤ x.k ∧ x.k ≤ 9223372036854775807) (h2 : -9223372036854775808 ≤ x.ty ∧ x.ty ≤ 9223372036854775807) (h3 : (Fld.l x.ea x.ec x.es).lies lo w) (h4 : (Fld.l x.ba x.bc x.bs).lies lo w) (h5 : (Fld.l x.la x.lc x.ls).lies lo w) : lieAll lo w x.flds := fun f hf => by
 simp only [Sm.flds, List.mem_cons, List.not_mem_nil, or_false] at hf
 rcases hf with rfl | rfl | rfl | rfl | rfl | rfl | rfl | rfl
 ·exact h1
 ·trivial
 ·trivial
 ·trivial
 ·exact h2
 ·exact h3
 ·exact h4
 ·exact h5
end Go.Proofs.YtemjajljpoaioaaDoor
