import Derived.Test.YtemjajljpoaioaaDoorSMod
namespace Go.Proofs.YtemjajljpoaioaaDoor
open Go.RowKit
set_option linter.unusedVariables false
set_option linter.unusedSimpArgs false
set_option maxRecDepth 20000
set_option maxHeartbeats 8000000
theorem name_less {S S' : ES} {s : Key} {σ : St} (h : Rel nameT S s S') (e : S = .ok σ) : (∃ e, S' = .error e) ∨ need S' < need S := by
 subst e
 by_cases hn : ∃ t, σ.now = .name t
 ·obtain ⟨t, ht⟩ := hn
  have := (need_name h).2 ⟨σ, t, rfl, ht⟩
  right; omega
 ·have e : nameT σ = .error (errT σ) := by
   unfold nameT
   cases h : σ.now <;> simp_all
  exact .inl ⟨_, h.get_err e⟩
def Takes {α : Type} (F : PM α) : Prop := ∀ σ x S', Rel F (.ok σ) x S' → (∃ e, S' = .error e) ∨ need S' < need (.ok σ)
theorem Takes.bd {α β : Type} [Inhabited α] {F : PM α} {G : α → PM β} (h : Takes F) (g : ∀ x, Shr (G x)) : Takes (bnd F G) := fun σ y S' q => by
 obtain ⟨x, S1, h1, h2⟩ := Rel.unbind q
 rcases h σ x S1 h1 with ⟨e, rfl⟩ | h3
 ·exact .inl ⟨e, h2⟩
 ·have := g x S1 y S' h2
  exact .inr (by omega)
theorem Takes.after {α β : Type} [Inhabited α] {F : PM α} {G : α → PM β} (h : ∀ σ x S', Rel F (.ok σ) x S' → S' = .ok σ) (g : ∀ x, Takes (G x)) : Takes (bnd F G) := fun σ y S' q => by
 obtain ⟨x, S1, h1, h2⟩ := Rel.unbind q
 have := h σ x S1 h1
 subst this
 exact g x σ y S' h2
theorem Takes.name : Takes nameT := fun σ x S' h => name_less h rfl
theorem Takes.take (s : Key) : Takes (takeT s) := fun σ x S' h => by
 by_cases hs : σ.now = .fixed s
 ·have := (need_take h).2 (decide_eq_true hs)
  right; omega
 ·exact .inl ⟨_, h.get_err (if_neg hs)⟩
theorem Takes.wrong {α : Type} : Takes (wrongT : PM α) := fun σ x S' h => .inl ⟨_, h.get_err (e := errT σ) rfl⟩
theorem Takes.fail {α : Type} (e : Int) : Takes (failT e : PM α) := fun σ x S' h => .inl ⟨_, h.get_err (e := e) rfl⟩
theorem Takes.ifT {α : Type} {c : Bool} {F G : PM α} (h : Takes F) (g : Takes G) : Takes (ifT c F G) := by cases c <;> assumption
theorem Takes.open (s : Key) : Takes (openT s) := fun σ x S' h => by
 by_cases hs : σ.now = .fixed s
 ·have := (need_open h).2 (decide_eq_true hs)
  right; omega
 ·have : openT s σ = .error (errT σ) := by simp [openT, Go.Proofs.YtemjajljpoaioaaDoor.bnd, isT, hs, pur, takeT]
  exact .inl ⟨_, h.get_err this⟩
def wl (w : World) (b : Nat) : Nat :=
 match w.cell? ⟨b, 5, none⟩ with
 | some (.int _ e) => if e ≠ 0 then 0 else wneed w b + 1
 | _ => 0
theorem sw_ext {P : Program} {ops : Array Oper} {Q : Exit → Act → World → Prop} {a : Act} {w : World} {rest : List Oper} {o : Oper} {N : Nat} {L : List (Nat × Value)} (F : Fm N L a) {i : Nat} {t : TypeId} {x : Operand} {p : Addr} {v : Value} (hc : w.cell? p = some v) (h : Is o (some i) (.load t x)) (hx : opv L x = some (.pointer (some p))) (ht : cellT P t = true) (hi : Nat.blt i N = true) (K : ∀ a', Fm N ((i, v) :: L) a' → wpList P ops Q rest a' w) : wpList P ops Q (o :: rest) a w := by
 obtain ⟨d, hu, hd⟩ := cellT_out ht
 refine sw_val F h.1 h.2.2 hi ?_ K
 unfold execOp
 rw [h.2.1]
 simp only [F.ev hx]
 have hagg : (isAgg t).run P w = .ok false w := by
  unfold isAgg
  rw [Sem.run_bind, run_underlying hu w]
  cases d <;> simp_all [TypeDesc.isRow]
 simp [Instr.loadAt, Instr.sureAddr, loadVar, hagg, hc]
def tbP (s : Key) (k j : Int) : EV := [.s s, .i k, .i j]
def tableT : PM EV := bnd (takeT kMap) fun _ => bnd nameT fun s => bnd (takeT [58]) fun _ => bnd kindT fun k => bnd (takeT [45, 62]) fun _ => bnd kindT fun j => bnd (takeT [59]) fun _ => pur (tbP s k j)
abbrev CT := List EV × List EV × List EV
def itemM (n : Nat) (c : CT) : PM CT :=
 bnd (isT kSlot) fun a => ifT a (bnd (roomT ((c.1.length : Int) + (c.2.1.length : Int)) 32) fun _ => bnd (takeT kSlot) fun _ => bnd paramT fun p => bnd (takeT [59]) fun _ => pur (c.1 ++ [paP p], c.2.1, c.2.2))
  (bnd (isT kMap) fun a => ifT a (bnd (roomT ((c.1.length : Int) + (c.2.1.length : Int)) 32) fun _ => bnd tableT fun t => pur (c.1, c.2.1 ++ [t], c.2.2))
   (bnd (isT kFn) fun a => ifT a (bnd (roomT (c.2.2.length : Int) 32) fun _ => bnd (fnM n) fun f => pur (c.1, c.2.1, c.2.2 ++ [f]))
    (bnd (isT kOpen) fun a => ifT a (bnd (roomT (c.2.2.length : Int) 32) fun _ => bnd (fnM n) fun f => pur (c.1, c.2.1, c.2.2 ++ [f])) wrongT)))
def itemsM : Nat → CT → PM CT
 | 0, _ => failT 0
 | n + 1, c => bnd (isT [125]) fun e => ifT e (pur c) (bnd (itemM n c) fun c => itemsM n c)
def ctP (s : Key) (c : CT) : EV := [.s s, .l c.1, .l c.2.1, .l c.2.2]
def contractM (n : Nat) : PM EV := bnd (takeT kContract) fun _ => bnd nameT fun s => bnd (takeT [123]) fun _ => bnd (itemsM n ([], [], [])) fun c => bnd (takeT [125]) fun _ => pur (ctP s c)
def endT : PM Unit := fun σ => if σ.now = .fin then .ok ((), σ) else .error 4
def parseM (n : Nat) : PM EV := bnd nextT fun _ => bnd (contractM n) fun x => bnd endT fun _ => pur x
theorem Takes.room {n m : Int} {α : Type} [Inhabited α] {G : Unit → PM α} (g : ∀ x, Takes (G x)) : Takes (Go.Proofs.YtemjajljpoaioaaDoor.bnd (roomT n m) G) := fun σ y S' q => by
 obtain ⟨⟨⟩, S1, h1, h2⟩ := Rel.unbind q
 unfold roomT at h1
 split at h1
 ·have := h1.get_err (e := 3) rfl
  subst this
  exact .inl ⟨3, h2⟩
 ·have := need_pur h1
  subst this
  exact g () σ y S' h2
theorem Takes.is {s : Key} {α : Type} [Inhabited α] {G : Bool → PM α} (g : ∀ x, Takes (G x)) : Takes (Go.Proofs.YtemjajljpoaioaaDoor.bnd (isT s) G) := Takes.after (fun σ x S' h => h.stay) g
theorem block_norm {id : Nat} {Q : Exit → Act → World → Prop} {a : Act} {w : World} (h : Q .normal a w) : Exit.inBlock id Q .normal a w := h
def ctF (s : Key) (a1 : Option Addr) (c1 : Nat) (e1 : List (List Fld)) (a2 : Option Addr) (c2 : Nat) (e2 : List (List Fld)) (a3 : Option Addr) (c3 : Nat) (e3 : List (List Fld)) : List Fld := [.s s, .l a1 c1 e1, .l a2 c2 e2, .l a3 c3 e3]
theorem Mm.perm {σ : Type} {X : σ → World → Prop} {T : Nat → Prop} {w0 w : World} {E E' : List Ent} {s : σ} (M : Mm X T w0 E s w) (is : List Nat) (h : is.map (fun i => E[i]?) = E'.map Option.some) (hn : is.Nodup) : Mm X T w0 E' s w := by
 have key : ∀ (j : Nat) (f : Ent), E'[j]? = some f → ∃ i, is[j]? = some i ∧ E[i]? = some f := fun j f hj => by
  have h1 : (E'.map Option.some)[j]? = some (some f) := by rw [List.getElem?_map, hj]; rfl
  rw [← h, List.getElem?_map] at h1
  cases hi : is[j]? with
  | none => rw [hi] at h1; cases h1
  | some i => rw [hi] at h1; exact ⟨i, rfl, by injection h1⟩
 refine ⟨M.lt, M.stb, M.but, ⟨M.mem.le, fun j f hj => ?_, fun j k f g b hjk hj hk hm => ?_⟩, M.st⟩
 ·obtain ⟨i, _, hi⟩ := key j f hj
  exact M.mem.at_ i f hi
 ·obtain ⟨i, hi1, hi2⟩ := key j f hj
  obtain ⟨l, hl1, hl2⟩ := key k g hk
  refine M.mem.sep i l f g b (fun e => hjk ?_) hi2 hl2 hm
  subst e
  obtain ⟨q1, q2⟩ := List.getElem?_eq_some_iff.1 hi1
  obtain ⟨q3, q4⟩ := List.getElem?_eq_some_iff.1 hl1
  by_cases hlt : j < k
  ·exact absurd (q2.trans q4.symm) (List.pairwise_iff_getElem.1 hn j k q1 q3 hlt)
  ·by_cases hgt : k < j
   ·exact absurd (q4.trans q2.symm) (List.pairwise_iff_getElem.1 hn k j q3 q1 hgt)
   ·omega
section
variable {P : Program} {ops : Array Oper} {Q : Exit → Act → World → Prop} {a : Act} {w w0 : World} {rest : List Oper} {o : Oper} {N : Nat} {L : List (Nat × Value)}
variable {i t u : Nat} {x y : Operand} {k : IntKind} {m n : Int}
theorem sw_lss (F : Fm N L a) (h : Is o (some i) (.binOp .lss t x y u)) (h1 : opv L x = some (.int k m)) (h2 : opv L y = some (.int k n)) (hi : Nat.blt i N = true) (K : ∀ a', Fm N ((i, .bool (decide (m < n))) :: L) a' → wpList P ops Q rest a' w) : wpList P ops Q (o :: rest) a w :=
 sw_val F h.1 h.2.2 hi (by unfold execOp; rw [h.2.1]; simp [F.ev h1, F.ev h2, eqGuard_at_int, binOp_lss]) K
theorem sw_leq (F : Fm N L a) (h : Is o (some i) (.binOp .leq t x y u)) (h1 : opv L x = some (.int k m)) (h2 : opv L y = some (.int k n)) (hi : Nat.blt i N = true) (K : ∀ a', Fm N ((i, .bool (decide (m ≤ n))) :: L) a' → wpList P ops Q rest a' w) : wpList P ops Q (o :: rest) a w :=
 sw_val F h.1 h.2.2 hi (by unfold execOp; rw [h.2.1]; simp [F.ev h1, F.ev h2, eqGuard_at_int, binOp_leq]) K
theorem sw_gtr (F : Fm N L a) (h : Is o (some i) (.binOp .gtr t x y u)) (h1 : opv L x = some (.int k m)) (h2 : opv L y = some (.int k n)) (hi : Nat.blt i N = true) (K : ∀ a', Fm N ((i, .bool (decide (n < m))) :: L) a' → wpList P ops Q rest a' w) : wpList P ops Q (o :: rest) a w :=
 sw_val F h.1 h.2.2 hi (by unfold execOp; rw [h.2.1]; simp [F.ev h1, F.ev h2, eqGuard_at_int, binOp_gtr]) K
theorem sw_geq (F : Fm N L a) (h : Is o (some i) (.binOp .geq t x y u)) (h1 : opv L x = some (.int k m)) (h2 : opv L y = some (.int k n)) (hi : Nat.blt i N = true) (K : ∀ a', Fm N ((i, .bool (decide (n ≤ m))) :: L) a' → wpList P ops Q rest a' w) : wpList P ops Q (o :: rest) a w :=
 sw_val F h.1 h.2.2 hi (by unfold execOp; rw [h.2.1]; simp [F.ev h1, F.ev h2, eqGuard_at_int, binOp_geq]) K
theorem sw_eql (F : Fm N L a) (h : Is o (some i) (.binOp .eql t x y u)) (h1 : opv L x = some (.int k m)) (h2 : opv L y = some (.int k n)) (hi : Nat.blt i N = true) (K : ∀ a', Fm N ((i, .bool (m == n)) :: L) a' → wpList P ops Q rest a' w) : wpList P ops Q (o :: rest) a w :=
 sw_val F h.1 h.2.2 hi (by unfold execOp; rw [h.2.1]; simp [F.ev h1, F.ev h2, eqGuard_at_int, binOp_eql]) K
theorem sw_neq (F : Fm N L a) (h : Is o (some i) (.binOp .neq t x y u)) (h1 : opv L x = some (.int k m)) (h2 : opv L y = some (.int k n)) (hi : Nat.blt i N = true) (K : ∀ a', Fm N ((i, .bool (m != n)) :: L) a' → wpList P ops Q rest a' w) : wpList P ops Q (o :: rest) a w :=
 sw_val F h.1 h.2.2 hi (by unfold execOp; rw [h.2.1]; simp [F.ev h1, F.ev h2, eqGuard_at_int, binOp_neq]) K
theorem sw_subw (F : Fm N L a) (h : Is o (some i) (.binOp .sub t x y u)) (h1 : opv L x = some (.int k m)) (h2 : opv L y = some (.int k n)) (hi : Nat.blt i N = true) (K : ∀ a', Fm N ((i, .int k (k.wrap (m - n))) :: L) a' → wpList P ops Q rest a' w) : wpList P ops Q (o :: rest) a w :=
 sw_val F h.1 h.2.2 hi (by unfold execOp; rw [h.2.1]; simp [F.ev h1, F.ev h2, eqGuard_at_int, binOp_sub, Op.intArith]) K
theorem sw_mulw (F : Fm N L a) (h : Is o (some i) (.binOp .mul t x y u)) (h1 : opv L x = some (.int k m)) (h2 : opv L y = some (.int k n)) (hi : Nat.blt i N = true) (K : ∀ a', Fm N ((i, .int k (k.wrap (m * n))) :: L) a' → wpList P ops Q rest a' w) : wpList P ops Q (o :: rest) a w :=
 sw_val F h.1 h.2.2 hi (by unfold execOp; rw [h.2.1]; simp [F.ev h1, F.ev h2, eqGuard_at_int, binOp_mul, Op.intArith]) K
theorem sd_build {md : Region.Mode} {S : World → Prop} {fuel : Nat} {listed : Array Bool} (F : Fm N L a) (j : Nat) {d : Nat} {t : TypeId} {ps : Array (Nat × Operand)} (vs : List Value) (Z : List Value) (hj : ops[j]? = some o) (h : Is o (some d) (.build t ps)) (hv : opvs L (ps.toList.map (·.2)) = some vs) (hb : P.built t ((ps.toList.map (·.1)).zip vs) = some Z.toArray) (hs : Region.noSelect ops = true) (hf : Region.free md ops listed j = true) (hr : (Region.ready md ops listed).contains j = true) (hQ : ∀ c a w, Q (.panic c) (a.put (some d) (.agg Z.toArray)) w → Q (.panic c) a w)
  (hi : Nat.blt d N = true) (hS : S w) (K : ∀ a', Fm N ((d, .agg Z.toArray) :: L) a' → wpAnyH P md ops Q S fuel (listed.setIfInBounds j true) a' w) : wpAnyH P md ops Q S (fuel + 1) listed a w := by
 have e := F.evs hv
 have e2 : (ps.map fun q => (q.1, a.eval q.2)).toList = (ps.toList.map (·.1)).zip vs := by
  rw [Array.toList_map, ← e, List.map_map]
  generalize ps.toList = l
  induction l with
  | nil => rfl
  | cons q r ih => simp only [List.map_cons, List.zip_cons_cons, ih]; rfl
 refine sd_val F j hj hs hf hr hQ h.1 h.2.2 hi (fun w _ => ?_) hS K
 unfold execOp
 rw [h.2.1]
 simp only
 rw [Sem.run_bind, run_build w t _ Z.toArray (by rw [e2]; exact hb)]
 rfl
theorem sw_ret2 (F : Fm N L a) {fn : Func} {j b : Nat} {v : Value} {cs : Array Value} {ty : TypeId} {R : Ending → World → Prop} (hres : fn.results = #[.cell i t, .tmp j]) (hi : lk i L = some (ptr b)) (hj : lk j L = some v) (kb : Blk w b cs ty) (ht : rowT P t = true) (hz : (P.info? t).map (·.size) = some cs.size) (hR : R (.returned (.tuple #[.agg cs, v])) w) : bodyPost P fn R .ret a w := by
 obtain ⟨d, hu, hd⟩ := rowT_out ht
 have hld := run_loadVar_mid (P := P) w b 0 t cs.toList d kb.range hu hd (by rw [hz]; simp)
 rw [Array.toArray_toList] at hld
 have at_ : ∀ q u, lk q L = some u → a.tmps[q]?.getD undef = u := fun q u hq => by
  have := F.2.2 q _ hq
  unfold Act.eval at this
  rw [← Array.getD_eq_getD_getElem?]
  exact this
 refine bodyPost_ret (v := .tuple #[.agg cs, v]) ?_ F.2.1 hR
 simp [results, hres, asAddr, at_ i _ hi, at_ j _ hj, ptr, hld]
end
def zeroC : List Value := [.string ⟨#[]⟩, .slice none 0 0, .slice none 0 0, .slice none 0 0]
abbrev st0 (text : Key) : ES := .ok { rest := text, now := .none, lv := 0 }
def PaE (text : Key) (w : World) (e : Ending) (w' : World) : Prop :=
  Below w.heap.size w w' ∧ ((2048 < text.length ∧ e = .returned (.tuple #[.agg zeroC.toArray, .int .i64 3])) ∨
  (text.length ≤ 2048 ∧ ∃ (x : EV) (S' : ES), Rv parseM (st0 text) x S' ∧
    ((∃ er, er ≠ 0 ∧ S' = .error er ∧ e = .returned (.tuple #[.agg zeroC.toArray, .int .i64 er])) ∨
     (∃ σ nm a1 c1 e1 a2 c2 e2 a3 c3 e3, S' = .ok σ ∧ x = pvAll (ctF nm a1 c1 e1 a2 c2 e2 a3 c3 e3) ∧ e = .returned (.tuple #[.agg ((ctF nm a1 c1 e1 a2 c2 e2 a3 c3 e3).map Fld.val).toArray, .int .i64 0]) ∧ lieAll w.heap.size w' (ctF nm a1 c1 e1 a2 c2 e2 a3 c3 e3)))))
def tokK : Tok → Int
 | .none => 0
 | .fin => 101
 | .name _ => 110
 | .num _ => 48
 | .fixed s => if wordL.contains s then 119 else 115
def tokT : Tok → Key → Prop
 | .name s, tx => tx = s
 | .fixed s, tx => tx = s ∧ (wordL.contains s || signL.contains s) = true
 | _, _ => True
theorem RowG.at_ {lo sz x n c : Nat} {e : TypeId} {es : List (List Fld)} {w : World} (r : RowG lo e sz (.slice (some ⟨x, 0, none⟩) n c) es w) : n = es.length ∧ lo ≤ x ∧ x < w.heap.size ∧ ∀ j u, (flatV es)[j]? = some u → w.cell? ⟨x, j, none⟩ = some u := by
 rcases r.own.2 with ⟨e, _⟩ | ⟨g, cap, cur, e1, e2, e3, e4, e5, e6, e7⟩
 ·cases e
 ·injection e1 with e1 q1 q2
  injection e1 with e1
  injection e1 with e1 _ _
  subst e1
  refine ⟨q1, e2, (Array.getElem?_eq_some_iff.1 e3).1, fun j u hj => ?_⟩
  have : cur.toList[j]? = some u := by
   rw [← e7] at hj
   rw [List.getElem?_take] at hj
   split at hj
   ·exact hj
   ·cases hj
  simp [World.cell?, e3]
  simpa using this
section
variable {P : Program} {ops : Array Oper} {Q : Exit → Act → World → Prop} {a : Act} {w : World} {rest : List Oper} {o : Oper} {N : Nat} {L : List (Nat × Value)}
theorem sw_at (F : Fm N L a) (sz : Nat) {i : Nat} {x y : Operand} {t e : TypeId} {rb ro n c k : Nat} (h : Is o (some i) (.indexAddr t x y)) (hx : opv L x = some (.slice (some ⟨rb, ro, none⟩) n c)) (hy : opv L y = some (.int .i64 k)) (hk : k < n) (hu : P.underlying t = some (.slice e)) (hs : (P.info? e).map (·.size) = some sz) (hi : Nat.blt i N = true) (K : ∀ a', Fm N ((i, .pointer (some ⟨rb, ro + k * sz, none⟩)) :: L) a' → wpList P ops Q rest a' w) : wpList P ops Q (o :: rest) a w :=
 ol_at h.2.2 h.2.1 (F.ev hx) (F.ev hy) hk hu hs (by rw [h.1]; exact K _ (F.put hi))
theorem sw_not (F : Fm N L a) {i t : Nat} {x : Operand} {b : Bool} (h : Is o (some i) (.unOp .not t x)) (hx : opv L x = some (.bool b)) (hi : Nat.blt i N = true) (K : ∀ a', Fm N ((i, .bool (!b)) :: L) a' → wpList P ops Q rest a' w) : wpList P ops Q (o :: rest) a w :=
 sw_val F h.1 h.2.2 hi (by unfold execOp; rw [h.2.1]; simp [F.ev hx, Op.unary]) K
end
end Go.Proofs.YtemjajljpoaioaaDoor
