import Derived.Test.YtemjajljpoaioaaDoorSBase
import Derived.Maps.AppendAt
import Derived.OwnWalk
import Derived.Deep.RegionHeld3
namespace Go.Proofs.YtemjajljpoaioaaDoor
open Go.RowKit
set_option linter.unusedVariables false
set_option linter.unusedSimpArgs false
set_option maxRecDepth 20000
set_option maxHeartbeats 8000000
theorem wp_append_run {P : Program} {w : World} {o : Oper} {a : Act} {K : Act → World → Prop} {Q : Exit → Act → World → Prop} (s x : Operand) (t : TypeId) (ho : o.op = .call { callee := .builtin .append, args := #[s, x], argTypes := #[t, t] })
  (v1 v2 v : Value) (w' : World) (hs : a.eval s = v1) (hx : a.eval x = v2) (hr : (Builtin.append_ #[t, t] o.type #[v1, v2]).run P w = .ok v w') (h : K (a.put o.dst v) w') : o.wp P a w K Q := by
 unfold Oper.wp execOp
 simp only [ho, resolve, invoke, builtin, Sem.run_bind, Sem.run_pure, Result.andThen_ok, List.map_toArray, List.map_cons, List.map_nil, hs, hx, hr]
 exact h
theorem wpList_append_run {P : Program} {w : World} {ops : Array Oper} {rest : List Oper} {o : Oper} {a : Act} {Q : Exit → Act → World → Prop} (hgd : o.guard = none) (s x : Operand) (t : TypeId) (ho : o.op = .call { callee := .builtin .append, args := #[s, x], argTypes := #[t, t] })
  (v1 v2 v : Value) (w' : World) (hs : a.eval s = v1) (hx : a.eval x = v2) (hr : (Builtin.append_ #[t, t] o.type #[v1, v2]).run P w = .ok v w') (h : wpList P ops Q rest (a.put o.dst v) w') : wpList P ops Q (o :: rest) a w :=
 wpList_plain hgd fun _ hK => wp_append_run s x t ho v1 v2 v w' hs hx hr (hK _ _ h)
theorem slice_shape {w : World} {lo : Nat} {e : TypeId} {sz n : Nat} {v : Value} {xs : List Value} (h : w.ownsRow lo e sz v n xs) : ∃ la lc, v = .slice la n lc := by
 rcases h.2 with ⟨rfl, rfl⟩ | ⟨g, cap, cur, rfl, _⟩
 ·exact ⟨none, 0, rfl⟩
 ·exact ⟨_, _, rfl⟩
section
variable {P : Program} {md : Region.Mode} {ops : Array Oper} {Q : Exit → Act → World → Prop} {S : World → Prop}
theorem tk (i : Nat) {oi : Oper} {v : Value} {fuel : Nat} {listed : Array Bool} {a a' : Act} {w : World} (h : wpAnyH P md ops Q S fuel (listed.setIfInBounds i true) a' w)
  (hi : ops[i]? = some oi := by exact rfl) (hs : Region.noSelect ops = true := by kernel_rfl) (hf : Region.free md ops listed i = true := by kernel_rfl) (hr : (Region.ready md ops listed).contains i = true := by kernel_rfl)
  (hQ : ∀ c a w, Q (.panic c) (a.put oi.dst v) w → Q (.panic c) a w := by exact fun _ _ _ h => h) (hw : Region.wanted oi (yielded ops a.tmps) = true := by kernel_rfl)
  (hy : ∀ w, S w → (execOp a.eval oi).run P w = .ok (.value v) w := by intro w hSw; (repeat (have y := And.left hSw; replace hSw := And.right hSw)); go_simp; try (with_reducible rfl))
  (hS : S w := by assumption) (ha : a.put oi.dst v = a' := by simp only [Act.put, List.setIfInBounds_toArray, List.set_cons_zero, List.set_cons_succ, List.getElem_toArray, List.getElem_cons_zero, List.getElem_cons_succ]; try rfl) : wpAnyH P md ops Q S (fuel + 1) listed a w :=
 wpAnyH_take hi hs hf hr hQ (Or.inl ⟨hw, hy⟩) hS (ha ▸ h)
end
def lk : Nat → List (Nat × Value) → Option Value
 | _, [] => none
 | i, (j, v) :: r => bif Nat.beq i j then some v else lk i r
def Fm (N : Nat) (L : List (Nat × Value)) (a : Act) : Prop := a.tmps.size = N ∧ a.defers = [] ∧ ∀ i v, lk i L = some v → a.eval (.tmp i) = v
def opv (L : List (Nat × Value)) : Operand → Option Value
 | .tmp i => lk i L
 | .const v => some v
 | .global g => some (.pointer (some ⟨g, 0, none⟩))
 | .func f => some (.func (.func f) #[] #[])
def opvs (L : List (Nat × Value)) : List Operand → Option (List Value)
 | [] => some []
 | x :: r => match opv L x, opvs L r with
  | some v, some vs => some (v :: vs)
  | _, _ => none
section
variable {P : Program} {ops : Array Oper} {Q : Exit → Act → World → Prop} {a : Act} {w w' : World} {rest : List Oper} {o : Oper} {N : Nat} {L : List (Nat × Value)}
theorem Fm.ev (F : Fm N L a) {x : Operand} {v : Value} (h : opv L x = some v) : a.eval x = v := by
 cases x with
 | tmp i => exact F.2.2 i v h
 | const u => injection h
 | global g => injection h
 | func f => injection h
theorem Fm.evs (F : Fm N L a) : ∀ {xs : List Operand} {vs : List Value}, opvs L xs = some vs → xs.map a.eval = vs
 | [], vs, h => by simpa [opvs] using h
 | x :: r, vs, h => by
  unfold opvs at h
  cases h1 : opv L x with
  | none => simp [h1] at h
  | some v =>
   cases h2 : opvs L r with
   | none => simp [h1, h2] at h
   | some us =>
    rw [h1, h2] at h
    injection h with h
    subst h
    rw [List.map_cons, F.ev h1, F.evs h2]
theorem Fm.put (F : Fm N L a) {i : Nat} {v : Value} (hi : Nat.blt i N = true) : Fm N ((i, v) :: L) (a.put (some i) v) := by
 have hi : i < N := by simpa [Nat.blt_eq] using hi
 refine ⟨by rw [size_put]; exact F.1, F.2.1, fun j u h => ?_⟩
 unfold lk at h
 by_cases hj : j = i
 ·subst hj
  rw [Nat.beq_refl] at h
  injection h with h
  subst h
  exact eval_put_self (by rw [F.1]; exact hi)
 ·have : Nat.beq j i = false := by
   cases hb : Nat.beq j i with
   | false => rfl
   | true => exact absurd (Nat.eq_of_beq_eq_true hb) hj
  rw [this] at h
  rw [eval_put (fun e => hj e.symm)]
  exact F.2.2 j u h
theorem Fm.sub {L' : List (Nat × Value)} (F : Fm N L a) (h : ∀ i v, lk i L' = some v → lk i L = some v) : Fm N L' a := ⟨F.1, F.2.1, fun i v q => F.2.2 i v (h i v q)⟩
def keepL (L : List (Nat × Value)) : List Nat → Option (List (Nat × Value))
 | [] => some []
 | i :: r => match lk i L, keepL L r with
  | some v, some m => some ((i, v) :: m)
  | _, _ => none
theorem keepL_sub {L : List (Nat × Value)} : ∀ {is : List Nat} {L' : List (Nat × Value)}, keepL L is = some L' → ∀ i v, lk i L' = some v → lk i L = some v
 | [], L', h, i, v, q => by simp [keepL] at h; subst h; cases q
 | j :: r, L', h, i, v, q => by
  unfold keepL at h
  cases h1 : lk j L with
  | none => simp [h1] at h
  | some u =>
   cases h2 : keepL L r with
   | none => simp [h1, h2] at h
   | some m =>
    rw [h1, h2] at h
    injection h with h
    subst h
    unfold lk at q
    by_cases hj : i = j
    ·subst hj
     rw [Nat.beq_refl] at q
     injection q with q
     subst q
     exact h1
    ·have : Nat.beq i j = false := by
      cases hb : Nat.beq i j with
      | false => rfl
      | true => exact absurd (Nat.eq_of_beq_eq_true hb) hj
     rw [this] at q
     exact keepL_sub h2 i v q
theorem Fm.keep {L' : List (Nat × Value)} (F : Fm N L a) (is : List Nat) (h : keepL L is = some L') : Fm N L' a := F.sub (keepL_sub h)
theorem sw_val (F : Fm N L a) {i : Nat} {v : Value} (hd : o.dst = some i) (hg : o.guard = none) (hi : Nat.blt i N = true) (hr : (execOp a.eval o).run P w = .ok (.value v) w') (K : ∀ a', Fm N ((i, v) :: L) a' → wpList P ops Q rest a' w') : wpList P ops Q (o :: rest) a w :=
 ol_val hg hr (by rw [hd]; exact K _ (F.put hi))
theorem sw_move (F : Fm N L a) {i : Nat} {x : Operand} {v : Value} (h : Is o (some i) (.move x)) (hv : opv L x = some v) (hi : Nat.blt i N = true) (K : ∀ a', Fm N ((i, v) :: L) a' → wpList P ops Q rest a' w) : wpList P ops Q (o :: rest) a w :=
 ol_move h.2.2 (.inl h.2.1) (by rw [h.1, F.ev hv]; exact K _ (F.put hi))
theorem sw_asg (F : Fm N L a) {i : Nat} {x : Operand} {v : Value} (h : Is o (some i) (.assign x)) (hv : opv L x = some v) (hi : Nat.blt i N = true) (K : ∀ a', Fm N ((i, v) :: L) a' → wpList P ops Q rest a' w) : wpList P ops Q (o :: rest) a w :=
 ol_move h.2.2 (.inr h.2.1) (by rw [h.1, F.ev hv]; exact K _ (F.put hi))
theorem sw_nil (F : Fm N L a) {i : Nat} {x : Operand} {p : Addr} (h : Is o (some i) (.nilCheck x)) (hv : opv L x = some (.pointer (some p))) (hi : Nat.blt i N = true) (K : ∀ a', Fm N ((i, .pointer (some p)) :: L) a' → wpList P ops Q rest a' w) : wpList P ops Q (o :: rest) a w :=
 ol_nil h.2.2 h.2.1 (F.ev hv) (by rw [h.1]; exact K _ (F.put hi))
theorem run_fldo {P : Program} {w : World} {s k n b o : Nat} (h : fldOff P s k = some n) : (Instr.fieldAt s (.pointer (some ⟨b, o, none⟩)) k).run P w = .ok (.pointer (some ⟨b, o + n, none⟩)) w := by
 unfold fldOff at h
 cases hu : P.underlying s with
 | none => rw [hu] at h; cases h
 | some d =>
  rw [hu] at h
  cases d with
  | struct fs =>
   simp only at h
   cases hf : fs[k]? with
   | none => rw [hf] at h; cases h
   | some f =>
    rw [hf] at h
    simp only at h
    cases hi : P.info? f.type with
    | none => rw [hi] at h; cases h
    | some i =>
     rw [hi] at h
     simp only at h
     split at h
     ·cases h
     ·rename_i hz
      injection h with h
      subst h
      simp [Instr.fieldAt, run_underlying hu, hf, Instr.sureAddr, fieldPlace, sizeOf, typeInfo, hi, hz, Addr.add_lit]
  | _ => cases h
theorem sw_fld (F : Fm N L a) (n : Nat) {i s k b f m : Nat} {x : Operand} (h : Is o (some i) (.fieldAddr s x k)) (hv : opv L x = some (.pointer (some ⟨b, f, none⟩))) (hf : fldOff P s k = some n) (hm : f + n = m) (hi : Nat.blt i N = true) (K : ∀ a', Fm N ((i, .pointer (some ⟨b, m, none⟩)) :: L) a' → wpList P ops Q rest a' w) : wpList P ops Q (o :: rest) a w := by
 subst hm
 exact sw_val F h.1 h.2.2 hi (by unfold execOp; rw [h.2.1]; simp only [F.ev hv]; simp [Sem.run_bind, run_fldo hf]) K
theorem sw_build (F : Fm N L a) {i : Nat} {t : TypeId} {ps : Array (Nat × Operand)} (vs : List Value) (Z : List Value) (h : Is o (some i) (.build t ps)) (hv : opvs L (ps.toList.map (·.2)) = some vs) (hb : P.built t ((ps.toList.map (·.1)).zip vs) = some Z.toArray) (hi : Nat.blt i N = true) (K : ∀ a', Fm N ((i, .agg Z.toArray) :: L) a' → wpList P ops Q rest a' w) : wpList P ops Q (o :: rest) a w := by
 have e := F.evs hv
 have e2 : (ps.map fun q => (q.1, a.eval q.2)).toList = (ps.toList.map (·.1)).zip vs := by
  rw [Array.toList_map, ← e, List.map_map]
  generalize ps.toList = l
  induction l with
  | nil => rfl
  | cons q r ih => simp only [List.map_cons, List.zip_cons_cons, ih]; rfl
 exact ol_build h.2.2 h.2.1 (by rw [e2]; exact hb) (by rw [h.1]; exact K _ (F.put hi))
theorem sw_len (F : Fm N L a) {i : Nat} {x : Operand} {t e : TypeId} {la : Option Addr} {n c : Nat} (h : Is o (some i) (.call { callee := .builtin .len, args := #[x], argTypes := #[t] })) (hv : opv L x = some (.slice la n c)) (hu : P.underlying t = some (.slice e)) (hi : Nat.blt i N = true) (K : ∀ a', Fm N ((i, .int .i64 n) :: L) a' → wpList P ops Q rest a' w) : wpList P ops Q (o :: rest) a w :=
 ol_len h.2.2 h.2.1 (F.ev hv) hu (by rw [h.1]; exact K _ (F.put hi))
theorem sw_on (F : Fm N L a) (gi : Nat) {gb : Bool} {og : Oper} {t : Nat} {c : Bool} (hg : o.guard = some (gi, gb)) (ho : ops[gi]? = some og) (hd : og.dst = some t) (hv : lk t L = some (.bool c)) (hc : (c == gb) = true) (h : wpList P ops Q ({ o with guard := none } :: rest) a w) : wpList P ops Q (o :: rest) a w := by
 have e := F.2.2 t _ hv
 have hw : Region.wanted o (yielded ops a.tmps) = true := by
  have hcb : c = gb := by simpa using hc
  unfold Region.wanted
  rw [hg]
  simp only [yielded, ho, hd, Option.bind_some]
  have : a.tmps[t]? = some (.bool c) := by
   have e : a.tmps.getD t undef = .bool c := e
   rw [Array.getD_eq_getD_getElem?] at e
   cases hq : a.tmps[t]? with
   | none => rw [hq] at e; cases e
   | some u => rw [hq] at e; have e : u = .bool c := e; rw [e]
  rw [this]
  subst hcb
  cases c <;> rfl
 have hw2 : ∀ x, Region.wanted { o with guard := none } x = true := fun x => by simp [Region.wanted]
 unfold wpList at h ⊢
 rw [if_pos hw]
 rw [if_pos (hw2 _)] at h
 exact h
theorem sw_off (F : Fm N L a) (gi : Nat) {i : Nat} {gb : Bool} {og : Oper} {t : Nat} {c : Bool} (hg : o.guard = some (gi, gb)) (ho : ops[gi]? = some og) (hd : og.dst = some t) (hv : lk t L = some (.bool c)) (hc : (c == gb) = false) (hi : o.dst = some i) (hb : Nat.blt i N = true) (K : ∀ a', Fm N ((i, undef) :: L) a' → wpList P ops Q rest a' w) : wpList P ops Q (o :: rest) a w := by
 have e := F.2.2 t _ hv
 have hw : Region.wanted o (yielded ops a.tmps) = false := by
  have hcb : c ≠ gb := by simpa using hc
  unfold Region.wanted
  rw [hg]
  simp only [yielded, ho, hd, Option.bind_some]
  have : a.tmps[t]? = some (.bool c) := by
   have e : a.tmps.getD t undef = .bool c := e
   rw [Array.getD_eq_getD_getElem?] at e
   cases hq : a.tmps[t]? with
   | none => rw [hq] at e; cases e
   | some u => rw [hq] at e; have e : u = .bool c := e; rw [e]
  rw [this]
  cases c <;> cases gb <;> first | rfl | exact absurd rfl hcb
 unfold wpList
 rw [if_neg (by rw [hw]; simp), hi]
 exact K _ (F.put hb)
theorem sw_offU (F : Fm N L a) (gi : Nat) {i : Nat} {gb : Bool} {og : Oper} {t : Nat} (hg : o.guard = some (gi, gb)) (ho : ops[gi]? = some og) (hd : og.dst = some t) (hv : lk t L = some undef) (hi : o.dst = some i) (hb : Nat.blt i N = true) (K : ∀ a', Fm N ((i, undef) :: L) a' → wpList P ops Q rest a' w) : wpList P ops Q (o :: rest) a w := by
 have e := F.2.2 t _ hv
 have hw : Region.wanted o (yielded ops a.tmps) = false := by
  unfold Region.wanted
  rw [hg]
  simp only [yielded, ho, hd, Option.bind_some]
  have e : a.tmps.getD t undef = undef := e
  rw [Array.getD_eq_getD_getElem?] at e
  cases hq : a.tmps[t]? with
  | none => cases gb <;> rfl
  | some u =>
   rw [hq] at e
   have e : u = undef := e
   rw [e]
   cases gb <;> rfl
 unfold wpList
 rw [if_neg (by rw [hw]; simp), hi]
 exact K _ (F.put hb)
theorem sw_pickT (F : Fm N L a) {i : Nat} {c x y : Operand} {v : Value} (h : Is o (some i) (.pick c x y)) (hc : opv L c = some (.bool true)) (hv : opv L x = some v) (hi : Nat.blt i N = true) (K : ∀ a', Fm N ((i, v) :: L) a' → wpList P ops Q rest a' w) : wpList P ops Q (o :: rest) a w :=
 sw_val F h.1 h.2.2 hi (by unfold execOp; rw [h.2.1]; simp only [F.ev hc, F.ev hv]; rfl) K
theorem sw_pickF (F : Fm N L a) {i : Nat} {c x y : Operand} {v : Value} (h : Is o (some i) (.pick c x y)) (hc : opv L c = some (.bool false)) (hv : opv L y = some v) (hi : Nat.blt i N = true) (K : ∀ a', Fm N ((i, v) :: L) a' → wpList P ops Q rest a' w) : wpList P ops Q (o :: rest) a w :=
 sw_val F h.1 h.2.2 hi (by unfold execOp; rw [h.2.1]; simp only [F.ev hc, F.ev hv]; rfl) K
theorem then_ret {next : Act → World → Prop} (h : Q .ret a w) : Exit.then next Q .ret a w := h
theorem block_ret {id : Nat} (h : Q .ret a w) : Exit.inBlock id Q .ret a w := h
theorem sw_seq {x y : Code} (h : x.wp P (Exit.then (y.wp P Q) Q) a w) : (Code.seq x y).wp P Q a w := wp_seq h
theorem sw_reg {id : Nat} (h : wpList P ops Q ops.toList a w) : (Code.region id ops false).wp P Q a w := wp_region_list h
theorem sw_end (h : Q .normal a w) : wpList P ops Q [] a w := h
theorem sw_cond (F : Fm N L a) {c : Operand} {x y : Code} {t : Bool} (hc : opv L c = some (.bool t)) (ht : t = true → x.wp P Q a w) (hf : t = false → y.wp P Q a w) : (Code.cond c x y).wp P Q a w :=
 wp_cond_split (F.ev hc) ht hf
theorem sw_true (F : Fm N L a) {c : Operand} {x y : Code} (hc : opv L c = some (.bool true)) (h : x.wp P Q a w) : (Code.cond c x y).wp P Q a w := wp_cond_true (F.ev hc) h
theorem sw_false (F : Fm N L a) {c : Operand} {x y : Code} (hc : opv L c = some (.bool false)) (h : y.wp P Q a w) : (Code.cond c x y).wp P Q a w := wp_cond_false (F.ev hc) h
end
def numL : Nat → List Value → List (Nat × Value)
 | _, [] => []
 | i, v :: r => (i, v) :: numL (i + 1) r
theorem lk_num : ∀ (vs : List Value) (k i : Nat) (v : Value), lk i (numL k vs) = some v → k ≤ i ∧ vs[i - k]? = some v
 | [], k, i, v, h => by cases h
 | u :: r, k, i, v, h => by
  unfold numL lk at h
  by_cases hj : i = k
  ·subst hj
   rw [Nat.beq_refl] at h
   injection h with h
   subst h
   simp
  ·have : Nat.beq i k = false := by
    cases hb : Nat.beq i k with
    | false => rfl
    | true => exact absurd (Nat.eq_of_beq_eq_true hb) hj
   rw [this] at h
   obtain ⟨h1, h2⟩ := lk_num r (k + 1) i v h
   refine ⟨by omega, ?_⟩
   rw [show i - k = (i - (k + 1)) + 1 by omega]
   simpa using h2
theorem sw_fn {P : Program} {f : FuncId} {fn : Func} {c : Code} {vs : List Value} {w : World} {R : Ending → World → Prop} (hf : P.funcs[f]? = some fn) (hb : fn.body = some c) (N : Nat) (hN : fn.ntmps = N) (hl : Nat.ble vs.length N = true) (K : ∀ a, Fm N (numL 0 vs) a → c.wp P (bodyPost P fn R) a w) : Calls P f vs.toArray w R := by
 have hl : vs.length ≤ N := by simpa [Nat.ble_eq] using hl
 refine calls_of_wp hf hb (K _ ⟨by simp; omega, rfl, fun i v h => ?_⟩)
 obtain ⟨_, h2⟩ := lk_num vs 0 i v h
 simp only [Nat.sub_zero] at h2
 have hi := (List.getElem?_eq_some_iff.1 h2).1
 simp only [Act.eval, Array.getD_eq_getD_getElem?]
 rw [Array.getElem?_append_left (by simpa using hi)]
 simp [h2]
end Go.Proofs.YtemjajljpoaioaaDoor
