import Derived.Test.YtemjajljpoaioaaDoorM07
namespace Go.Proofs.YtemjajljpoaioaaDoor
open Go.RowKit
set_option linter.unusedVariables false
set_option linter.unusedSimpArgs false
set_option maxRecDepth 20000
set_option maxHeartbeats 8000000
def Le {α : Type} (F G : PM α) : Prop := ∀ σ, F σ = .error 0 ∨ F σ = G σ
theorem Le.refl {α : Type} (F : PM α) : Le F F := fun _ => .inr rfl
theorem Le.fail {α : Type} (G : PM α) : Le (failT 0) G := fun _ => .inl rfl
theorem Le.trans {α : Type} {F G H : PM α} (h : Le F G) (k : Le G H) : Le F H := fun σ => by
 rcases h σ with q | q
 ·exact .inl q
 ·rcases k σ with r | r
  ·exact .inl (q.trans r)
  ·exact .inr (q.trans r)
theorem Le.bnd {α β : Type} {F F' : PM α} {G G' : α → PM β} (h : Le F F') (g : ∀ x, Le (G x) (G' x)) : Le (bnd F G) (bnd F' G') := fun σ => by
 rcases h σ with q | q
 ·exact .inl (by simp only [Go.Proofs.YtemjajljpoaioaaDoor.bnd, q])
 ·cases hF : F' σ with
  | error e => exact .inr (by simp only [Go.Proofs.YtemjajljpoaioaaDoor.bnd, q, hF])
  | ok p =>
   obtain ⟨x, τ⟩ := p
   have := g x τ
   simpa only [Go.Proofs.YtemjajljpoaioaaDoor.bnd, q, hF] using this
theorem Le.ite {α : Type} {c : Prop} [Decidable c] {F F' G G' : PM α} (h : Le F F') (g : Le G G') : Le (if c then F else G) (if c then F' else G') := by
 by_cases q : c
 ·rw [if_pos q, if_pos q]; exact h
 ·rw [if_neg q, if_neg q]; exact g
def Shr {α : Type} (F : PM α) : Prop := ∀ S x S', Rel F S x S' → need S' ≤ need S
theorem Shr.bnd {α β : Type} [Inhabited α] {F : PM α} {G : α → PM β} (h : Shr F) (g : ∀ x, Shr (G x)) : Shr (bnd F G) := fun S y S' q => by
 obtain ⟨x, S1, h1, h2⟩ := Rel.unbind q
 exact Nat.le_trans (g x S1 y S' h2) (h S x S1 h1)
theorem Shr.pur {α : Type} (x : α) : Shr (pur x) := fun S y S' h => by rw [need_pur h]; exact Nat.le_refl _
theorem Shr.fail {α : Type} (e : Int) : Shr (failT e : PM α) := fun S y S' h => by
 cases S with
 | error e => have h : S' = .error e := h; subst h; exact Nat.le_refl _
 | ok σ => rw [h.get_err (e := e) rfl]; exact Nat.zero_le _
theorem Shr.wrong {α : Type} : Shr (wrongT : PM α) := fun S y S' h => need_wrong h
theorem Shr.ite {α : Type} {c : Prop} [Decidable c] {F G : PM α} (h : Shr F) (g : Shr G) : Shr (if c then F else G) := by
 by_cases q : c
 ·rw [if_pos q]; exact h
 ·rw [if_neg q]; exact g
theorem Shr.next : Shr nextT := fun S x S' h => need_next h
theorem Shr.is (s : Key) : Shr (isT s) := fun S x S' h => by rw [h.stay]; exact Nat.le_refl _
theorem Shr.pick (l : List (Int × Key)) : Shr (pickT l) := fun S x S' h => by
 have : S' = S := by
  cases S with
  | error e => exact h
  | ok σ => exact (h.get_ok rfl).2
 rw [this]; exact Nat.le_refl _
theorem Shr.take (s : Key) : Shr (takeT s) := fun S x S' h => (need_take h).1
theorem Shr.deeper : Shr deeperT := fun S x S' h => need_deeper h
theorem Shr.up : Shr upT := fun S x S' h => need_up h
theorem Shr.open (s : Key) : Shr (openT s) := fun S x S' h => (need_open h).1
theorem Shr.room (n m : Int) : Shr (roomT n m) := fun S x S' h => need_room h
theorem Shr.name : Shr nameT := fun S x S' h => (need_name h).1
theorem Shr.at {α : Type} {F : PM α} (h : ∀ σ, ∃ G : PM α, Shr G ∧ G σ = F σ) : Shr F := fun S x S' q => by
 cases S with
 | error e => have q : S' = .error e := q; subst q; exact Nat.le_refl _
 | ok σ =>
  obtain ⟨G, hG, e⟩ := h σ
  refine hG (.ok σ) x S' ?_
  unfold Rel at q ⊢
  simp only [e]
  exact q
theorem Le.at {α : Type} {F F' : PM α} (h : ∀ σ, ∃ G G' : PM α, Le G G' ∧ G σ = F σ ∧ G' σ = F' σ) : Le F F' := fun σ => by
 obtain ⟨G, G', q, e, e'⟩ := h σ
 rw [← e, ← e']
 exact q σ
def Rv {α : Type} (F : Nat → PM α) (S : ES) (x : α) (S' : ES) : Prop := ∃ n0, ∀ n, n0 ≤ n → Rel (F n) S x S'
theorem Rv.of {α : Type} {F : PM α} {S S' : ES} {x : α} (h : Rel F S x S') : Rv (fun _ => F) S x S' := ⟨0, fun _ _ => h⟩
theorem Rel.up {α : Type} {F G : PM α} {S S' : ES} {x : α} (h : Rel F S x S') (k : Le F G) (h0 : S' ≠ .error 0) : Rel G S x S' := by
 cases S with
 | error e => exact h
 | ok σ =>
  rcases k σ with q | q
  ·exact absurd (h.get_err q) h0
  ·unfold Rel at h ⊢
   simp only [← q]
   exact h
theorem Rv.up {α : Type} {F : Nat → PM α} {S S' : ES} {x : α} {n : Nat} (h : Rel (F n) S x S') (k : ∀ n, Le (F n) (F (n + 1))) (h0 : S' ≠ .error 0) : Rv F S x S' :=
 ⟨n, fun m hm => by
  obtain ⟨d, rfl⟩ := Nat.exists_eq_add_of_le hm
  induction d with
  | zero => exact h
  | succ d ih => exact (ih (by omega)).up (k _) h0⟩
theorem Rv.bind {α β : Type} {F : Nat → PM α} {G : Nat → α → PM β} {S S1 S2 : ES} {x : α} {y : β} (h : Rv F S x S1) (g : Rv (fun n => G n x) S1 y S2) : Rv (fun n => bnd (F n) (G n)) S y S2 := by
 obtain ⟨n1, h1⟩ := h
 obtain ⟨n2, h2⟩ := g
 exact ⟨max n1 n2, fun n hn => (h1 n (by omega)).bind (h2 n (by omega))⟩
theorem Rv.succ {α : Type} {F : Nat → PM α} {S S' : ES} {x : α} (h : Rv (fun n => F (n + 1)) S x S') : Rv F S x S' := by
 obtain ⟨n0, h⟩ := h
 exact ⟨n0 + 1, fun n hn => by
  obtain ⟨m, rfl⟩ : ∃ m, n = m + 1 := ⟨n - 1, by omega⟩
  exact h m (by omega)⟩
theorem Rv.det {α : Type} {F : Nat → PM α} {S S1 S2 : ES} {x y : α} (h : Rv F S x S1) (k : Rv F S y S2) : S1 = S2 ∧ (∀ σ, S1 = .ok σ → x = y) := by
 obtain ⟨n1, h⟩ := h
 obtain ⟨n2, k⟩ := k
 have h := h (max n1 n2) (by omega)
 have k := k (max n1 n2) (by omega)
 cases S with
 | error e =>
  have h : S1 = .error e := h
  have k : S2 = .error e := k
  exact ⟨h.trans k.symm, fun σ q => by rw [h] at q; cases q⟩
 | ok σ =>
  cases hF : F (max n1 n2) σ with
  | error e =>
   have h := h.get_err hF
   have k := k.get_err hF
   exact ⟨h.trans k.symm, fun σ q => by rw [h] at q; cases q⟩
  | ok p =>
   obtain ⟨z, τ⟩ := p
   have h := h.get_ok hF
   have k := k.get_ok hF
   exact ⟨h.2.trans k.2.symm, fun σ q => h.1.trans k.1.symm⟩
def Kn {α : Type} (F : Nat → PM α) (S : ES) (G : Nat → PM α) (S1 : ES) : Prop := ∀ y S', Rv G S1 y S' → Rv F S y S'
theorem Kn.here {α : Type} {F : Nat → PM α} {S : ES} : Kn F S F S := fun _ _ h => h
theorem Kn.step {α β : Type} {F : Nat → PM α} {F1 : Nat → PM β} {G1 : Nat → β → PM α} {S S1 S2 : ES} {x : β} (k : Kn F S (fun n => bnd (F1 n) (G1 n)) S1) (h : Rv F1 S1 x S2) : Kn F S (fun n => G1 n x) S2 := fun y S' g => k y S' (h.bind g)
theorem Kn.fin {α : Type} {F : Nat → PM α} {S S1 : ES} {x : α} (k : Kn F S (fun _ => pur x) S1) : Rv F S x S1 := k x S1 (Rv.of (Rel.pur x S1))
theorem Kn.to {α : Type} {F G G' : Nat → PM α} {S S1 : ES} (k : Kn F S G S1) (e : ∀ n, G n = G' n) : Kn F S G' S1 := (funext e : G = G') ▸ k
theorem Kn.succ {α : Type} {F G : Nat → PM α} {S S1 : ES} (k : Kn F S G S1) : Kn F S (fun n => G (n + 1)) S1 := fun y S' h => k y S' h.succ
theorem Kn.at {α : Type} {F G G' : Nat → PM α} {S S1 : ES} (k : Kn F S G S1) (e : ∀ n σ, S1 = .ok σ → G' n σ = G n σ) : Kn F S G' S1 := fun y S' h => k y S' (by
 obtain ⟨n0, h⟩ := h
 exact ⟨n0, fun n hn => (h n hn).at (e n)⟩)
theorem Kn.last {α : Type} {F G : Nat → PM α} {S S1 S2 : ES} {x : α} (k : Kn F S G S1) (h : Rv G S1 x S2) : Rv F S x S2 := k x S2 h
def ifT {α : Type} : Bool → PM α → PM α → PM α
 | true, F, _ => F
 | false, _, G => G
theorem Le.ifT {α : Type} {c : Bool} {F F' G G' : PM α} (h : Le F F') (g : Le G G') : Le (ifT c F G) (ifT c F' G') := by cases c <;> assumption
theorem Shr.ifT {α : Type} {c : Bool} {F G : PM α} (h : Shr F) (g : Shr G) : Shr (ifT c F G) := by cases c <;> assumption
abbrev kElse : Key := [101, 108, 115, 101]
abbrev kValue : Key := [118, 97, 108, 117, 101]
abbrev kGas : Key := [103, 97, 115]
abbrev kSlot : Key := [115, 108, 111, 116]
abbrev kMap : Key := [109, 97, 112]
abbrev kFn : Key := [102, 110]
abbrev kOpen : Key := [111, 112, 101, 110]
abbrev kContract : Key := [99, 111, 110, 116, 114, 97, 99, 116]
def semiT (x : EV) : PM EV := bnd (takeT [59]) fun _ => pur x
def giveT (n : Nat) (f : EV → EV) : PM EV := bnd (takeT [61]) fun _ => bnd (exprT n 1) fun x => semiT (f x)
def gift (n : Nat) : PM EV := bnd nameT fun s => bnd (isT [91]) fun c => ifT c (bnd (innerT n [91] [93]) fun y => giveT n fun x => stP 3 s [] [] 0 [y, x] [] []) (giveT n fun x => stP 2 s [] [] 0 [x] [] [])
def letM (n : Nat) : PM EV := bnd nameT fun s => bnd (takeT [58]) fun _ => bnd kindT fun k => giveT n fun x => stP 1 s [] [] k [x] [] []
def askM (n : Nat) : PM EV := bnd nameT fun s => bnd (takeT [44]) fun _ => bnd nameT fun t => bnd (takeT [61]) fun _ => bnd (exprT n 1) fun x => bnd (takeT [46]) fun _ => bnd nameT fun u => bnd (argsT n) fun l => bnd (takeT kValue) fun _ => bnd (exprT n 1) fun y => bnd (takeT kGas) fun _ => bnd (exprT n 1) fun z => semiT (stP 10 s t u 0 (x :: y :: z :: l) [] [])
def payM (n : Nat) : PM EV := bnd (exprT n 1) fun x => bnd (takeT [44]) fun _ => bnd (exprT n 1) fun y => semiT (stP 8 [] [] [] 0 [x, y] [] [])
def oneM (n : Nat) (k : Int) : PM EV := bnd (exprT n 1) fun x => semiT (stP k [] [] [] 0 [x] [] [])
mutual
def stepM : Nat → PM EV
 | 0 => failT 0
 | n + 1 => fun σ =>
  match σ.now with
  | .name _ => gift n σ
  | _ => wordM n σ
def wordM : Nat → PM EV
 | 0 => failT 0
 | n + 1 => bnd (pickT stepW) fun k => if k = 0 then wrongT else bnd nextT fun _ => if k = 4 then ifM n else if k = 5 then whileM n else if k = 1 then letM n else if k = 10 then askM n else if k = 8 then payM n else oneM n k
def ifM : Nat → PM EV
 | 0 => failT 0
 | n + 1 => bnd (exprT n 1) fun x => bnd (blockM n) fun l => bnd (isT kElse) fun c => ifT c (bnd (takeT kElse) fun _ => bnd (blockM n) fun m => pur (stP 4 [] [] [] 0 [x] l m)) (pur (stP 4 [] [] [] 0 [x] l []))
def whileM : Nat → PM EV
 | 0 => failT 0
 | n + 1 => bnd (exprT n 1) fun x => bnd (blockM n) fun l => pur (stP 5 [] [] [] 0 [x] l [])
def blockM : Nat → PM (List EV)
 | 0 => failT 0
 | n + 1 => bnd (openT [123]) fun _ => bnd (stepsM n []) fun l => bnd (shutT [125]) fun _ => pur l
def stepsM : Nat → List EV → PM (List EV)
 | 0, _ => failT 0
 | n + 1, l => bnd (isT [125]) fun c => ifT c (pur l) (bnd (stepM n) fun s => stepsM n (l ++ [s]))
end
def paP (p : Key × Int) : EV := [.s p.1, .i p.2]
def parsM : Nat → List EV → PM (List EV)
 | 0, _ => failT 0
 | n + 1, l => bnd (isT [44]) fun c => ifT c (bnd (roomT l.length 8) fun _ => bnd (takeT [44]) fun _ => bnd paramT fun p => parsM n (l ++ [paP p])) (pur l)
def paramsM (n : Nat) : PM (List EV) := bnd (isT [41]) fun c => ifT c (pur []) (bnd paramT fun p => parsM n [paP p])
def fnP (s : Key) (o : Bool) (ps : List EV) (k : Int) (b : List EV) : EV := [.s s, .b o, .l ps, .i k, .l b]
def fnM (n : Nat) : PM EV := bnd (isT kOpen) fun o => bnd (ifT o (takeT kOpen) (pur ())) fun _ => bnd (takeT kFn) fun _ => bnd nameT fun s => bnd (takeT [40]) fun _ => bnd (paramsM n) fun l => bnd (takeT [41]) fun _ => bnd (takeT [45, 62]) fun _ => bnd kindT fun k => bnd (blockM n) fun b => pur (fnP s o l k b)
end Go.Proofs.YtemjajljpoaioaaDoor
