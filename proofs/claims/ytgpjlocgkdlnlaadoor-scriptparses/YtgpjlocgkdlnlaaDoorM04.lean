/- A region that draws its order and whose last operation waits for all others: the others in whatever order, then the last one. -/
import Derived.OrdersHeld
import Derived.WalkKit
import Derived.Test.YtgpjlocgkdlnlaaDoorSWk3

namespace Go.Proofs.YtgpjlocgkdlnlaaDoor
set_option linter.unusedVariables false
variable {P : Program} {md : Region.Mode} {ops ops' : Array Oper} {Q : Exit → Act → World → Prop}

/-- Behind all others the last one is still to come. -/
def ThenLast (P : Program) (ops : Array Oper) (Q : Exit → Act → World → Prop) (m : Nat) : Exit → Act → World → Prop
  | .normal, a, w => wpOp P ops Q m (fun a w => Q .normal a w) a w
  | e, a, w => Q e a w

/-- What an operation asks of an ending is the same but at its plain end. -/
theorem wp_last {m : Nat} {o : Oper} {a : Act} {w : World} {K K' : Act → World → Prop} (h : ∀ a w, K a w → K' a w) (hh : o.wp P a w K (ThenLast P ops Q m)) : o.wp P a w K' Q := by
  unfold Oper.wp at hh ⊢
  generalize (execOp a.eval o).run P w = r at hh ⊢
  cases r with
  | ok n w' =>
    cases n with
    | value v => exact h _ _ hh
    | skip => exact h _ _ hh
    | defer d => exact h _ _ hh
    | enter f args =>
      refine Calls.mono (R := _) hh fun e w'' he => ?_
      cases e with
      | returned v => exact h _ _ he
      | panicked c => exact he
      | outgrown => exact he
    | row r args => exact Rows.mono hh fun _ _ he => h _ _ he
    | _ => exact hh
  | halt x w' => cases x <;> exact hh

theorem getD_tf {listed : Array Bool} {i : Nat} (hi : i < listed.size) (h : listed.getD i true = true) : listed.getD i false = true := by
  simp [Array.getD, hi] at h ⊢; exact h

/-- Where one is left, one may come. -/
theorem ready_some (hord : ∀ (j : Nat) (o : Oper), ops[j]? = some o → ∀ e ∈ o.after, e.on < j) (listed : Array Bool) (hs : listed.size = ops.size) : ∀ m, m < ops.size → listed.getD m true = false → Region.ready md ops listed ≠ [] := by
  intro m
  induction m using Nat.strongRecOn with
  | _ m ih =>
    intro hm hl
    by_cases hx : ∃ j, j < m ∧ listed.getD j true = false
    · obtain ⟨j, hj, hjl⟩ := hx
      exact ih j hj (by omega) hjl
    · intro h0
      have hmem : m ∈ Region.ready md ops listed := by
        unfold Region.ready
        rw [List.mem_filter]
        refine ⟨List.mem_range.2 hm, ?_⟩
        rw [hl]
        have hg : ops[m]? = some ops[m] := Array.getElem?_eq_getElem hm
        rw [hg]
        simp only [Bool.not_false, Bool.true_and, Option.map_some, Option.getD_some]
        rw [Array.all_eq_true']
        intro e he
        have hlt := hord m _ hg e he
        have : listed.getD e.on true = true := by
          cases hq : listed.getD e.on true with
          | true => rfl
          | false => exact (hx ⟨e.on, hlt, hq⟩).elim
        rw [getD_tf (by omega) this]
        simp
      rw [h0] at hmem
      simp at hmem

theorem wpAny_last (m : Nat) (om om' : Oper) (hsz : ops'.size = ops.size) (hm : ops[m]? = some om) (hm' : ops'[m]? = some om') (heq : ∀ j, j ≠ m → ops'[j]? = ops[j]?) (haf : om'.after = om.after)
    (hd : om'.dst = om.dst) (hno : om.dst = none) (hg : om'.guard = none) (hnop : ∀ (a : Act) (w : World) (K : Act → World → Prop) (R : Exit → Act → World → Prop), om'.wp P a w K R → K a w) (hask : ∀ a w, ¬ om'.asks P a w)
    (hord : ∀ (j : Nat) (o : Oper), ops[j]? = some o → ∀ e ∈ o.after, e.on < j) (hwait : ∀ j, j < ops.size → j ≠ m → ∃ e ∈ om.after, Region.binds md e = true ∧ e.on = j) :
    ∀ fuel listed a w, listed.size = ops.size → listed.getD m true = false → wpAny P md ops' (ThenLast P ops Q m) fuel listed a w → wpAny P md ops Q fuel listed a w := by
  have hml : m < ops.size := (Array.getElem?_eq_some_iff.1 hm).1
  have hy : ∀ tm, yielded ops' tm = yielded ops tm := by
    intro tm
    funext j
    unfold yielded
    by_cases hj : j = m
    · subst hj; rw [hm, hm']; simp only [Option.bind_some, hd]
    · rw [heq j hj]
  have hr : ∀ listed, Region.ready md ops' listed = Region.ready md ops listed := by
    intro listed
    unfold Region.ready
    rw [hsz]
    congr 1
    funext j
    by_cases hj : j = m
    · subst hj; rw [hm, hm']; simp only [Option.map_some, haf]
    · rw [heq j hj]
  intro fuel
  induction fuel with
  | zero =>
    intro listed a w hs hl h
    have := h.1
    rw [hr] at this
    exact (ready_some hord listed hs m hml hl this).elim
  | succ fuel ih =>
    intro listed a w hs hl h
    refine ⟨fun h0 => (ready_some hord listed hs m hml hl h0).elim, fun i hi => ?_⟩
    have h2 := h.2 i (by rw [hr]; exact hi)
    by_cases him : i = m
    · subst him
      have hall : ∀ j, j < ops.size → j ≠ i → listed.getD j true = true := by
        intro j hj hji
        unfold Region.ready at hi
        rw [List.mem_filter] at hi
        have h3 := hi.2
        rw [hm] at h3
        simp only [Option.map_some, Option.getD_some, Bool.and_eq_true] at h3
        obtain ⟨e, he, hb, hon⟩ := hwait j hj hji
        have h4 := (Array.all_eq_true'.1 h3.2) e he
        rw [hb, hon] at h4
        have hjs : j < listed.size := by omega
        simp [Array.getD, hjs] at h4 ⊢
        exact h4
      have hrn : Region.ready md ops (listed.setIfInBounds i true) = [] := by
        unfold Region.ready
        rw [List.filter_eq_nil_iff]
        intro j hj
        have hj := List.mem_range.1 hj
        have : (listed.setIfInBounds i true).getD j true = true := by
          by_cases hji : j = i
          · subst hji; simp [Array.getD]
          · have := hall j hj hji
            have hjs : j < listed.size := by omega
            have hij : i ≠ j := fun e => hji e.symm
            simp only [Array.getD_eq_getD_getElem?] at this ⊢
            rw [Array.getElem?_setIfInBounds_ne hij]
            exact this
        rw [this]; simp
      unfold wpOp at h2
      rw [hm'] at h2
      simp only [Region.wanted, hg, if_true] at h2
      have h5 : wpAny P md ops' (ThenLast P ops Q i) fuel (listed.setIfInBounds i true) a w := by
        rcases h2 with h2 | ⟨h2, _⟩
        · exact hnop _ _ _ _ h2
        · exact (hask _ _ h2).elim
      have h6 : ThenLast P ops Q i .normal a w := by
        cases fuel with
        | zero => exact h5.2
        | succ n => exact h5.1 (by rw [hr]; exact hrn)
      exact wpOp_mono (fun a' w' hq => wpAny_done hrn hq _) h6
    · have ho : ops'[i]? = ops[i]? := heq i him
      have hl' : (listed.setIfInBounds i true).getD m true = false := by
        have hms : m < listed.size := by omega
        simp [Array.getD, hms, him] at hl ⊢
        exact hl
      have key : wpOp P ops Q i (wpAny P md ops Q fuel (listed.setIfInBounds i true)) a w := by
        unfold wpOp at h2 ⊢
        rw [ho, hy] at h2
        cases hoi : ops[i]? with
        | none => rw [hoi] at h2; exact ih _ _ _ (by simpa using hs) hl' h2
        | some o =>
          rw [hoi] at h2
          simp only at h2 ⊢
          split
          · rename_i hw
            rw [if_pos hw] at h2
            exact h2.imp (wp_last fun a' w' hk => ih _ _ _ (by simpa using hs) hl' hk) (fun ⟨x, y⟩ => ⟨x, y⟩)
          · rename_i hw
            rw [if_neg hw] at h2
            exact ih _ _ _ (by simpa using hs) hl' h2
      exact key

theorem nop_wp {o : Oper} (ho : o.op = .move (.const undef)) (hd : o.dst = none) (a : Act) (w : World) (K : Act → World → Prop) (R : Exit → Act → World → Prop) (h : o.wp P a w K R) : K a w := by
  unfold Oper.wp execOp at h
  rw [ho] at h
  have h : K (a.put o.dst (a.eval (.const undef))) w := h
  rw [hd] at h
  exact h
theorem nop_asks {o : Oper} (ho : o.op = .move (.const undef)) (a : Act) (w : World) : ¬ o.asks P a w := by
  unfold Oper.asks execOp
  rw [ho]
  intro h
  have h1 : noRoomEvent ∈ (#[] : Array Event) := h.1
  simp at h1

/-- Every edge leads back; and the last one waits for all. -/
def lastB (md : Region.Mode) (ops : Array Oper) (m : Nat) : Bool :=
  (List.range ops.size).all (fun j => match ops[j]? with | some o => o.after.all fun e => decide (e.on < j) | none => true) &&
  (match ops[m]? with | some om => (List.range ops.size).all (fun j => j == m || om.after.any fun e => Region.binds md e && e.on == j) && om.dst.isNone && om.guard.isNone | none => false)

theorem wp_region_last {S : World → Prop} {id : Nat} {a : Act} {w : World} (m : Nat) (om : Oper) (hm : ops[m]? = some om) (hB : lastB .any ops m = true) (hx : P.follows .mixedOrders = true)
    (h : wpAnyH P .any (ops.setIfInBounds m { om with op := .move (.const undef) }) (ThenLast P ops Q m) S ops.size (Array.replicate ops.size false) a w.drew) : (Code.region id ops true).wp P Q a w := by
  unfold lastB at hB
  rw [hm] at hB
  simp only [Bool.and_eq_true, List.all_eq_true, List.mem_range] at hB
  obtain ⟨h1, ⟨h2, h3⟩, h4⟩ := hB
  have hml : m < ops.size := (Array.getElem?_eq_some_iff.1 hm).1
  have hd : om.dst = none := Option.isNone_iff_eq_none.1 h3
  have hgd : om.guard = none := Option.isNone_iff_eq_none.1 h4
  refine wp_region_any hx (wpAny_last (ops' := ops.setIfInBounds m { om with op := .move (.const undef) }) m om { om with op := .move (.const undef) } (by simp) hm (by simp [hml]) (fun j hj => Array.getElem?_setIfInBounds_ne (Ne.symm hj)) rfl rfl hd hgd (nop_wp rfl hd) (nop_asks rfl) ?_ ?_ ops.size _ a _ (by simp) ?_ (wpAny_of_held _ _ _ _ h))
  · intro j o hj e he
    have hjl : j < ops.size := (Array.getElem?_eq_some_iff.1 hj).1
    have := h1 j hjl
    rw [hj] at this
    have := (Array.all_eq_true'.1 this) e he
    simpa using this
  · intro j hj hjm
    have := h2 j hj
    rw [Bool.or_eq_true] at this
    rcases this with h5 | h5
    · exact (hjm (by simpa using h5)).elim
    · obtain ⟨e, he, hb⟩ := Array.any_eq_true'.1 h5
      rw [Bool.and_eq_true] at hb
      exact ⟨e, he, hb.1, by simpa using hb.2⟩
  · simp [Array.getD, hml]
end Go.Proofs.YtgpjlocgkdlnlaaDoor

namespace Go.Proofs.YtgpjlocgkdlnlaaDoor
open Go.RowKit
set_option linter.unusedVariables false
set_option linter.unusedSimpArgs false

section
variable {P : Program} {md : Region.Mode} {ops ops0 : Array Oper} {Q : Exit → Act → World → Prop} {S : World → Prop} {a : Act} {w w0 : World} {o : Oper} {N : Nat} {L : List (Nat × Value)} {fuel : Nat} {listed : Array Bool}
theorem sd_val (F : Fm N L a) (i : Nat) {d : Nat} {v : Value} (hi : ops[i]? = some o) (hs : Region.noSelect ops = true) (hf : Region.free md ops listed i = true) (hr : (Region.ready md ops listed).contains i = true) (hQ : ∀ c a w, Q (.panic c) (a.put (some d) v) w → Q (.panic c) a w)
    (hd : o.dst = some d) (hg : o.guard = none) (hb : Nat.blt d N = true) (hy : ∀ w, S w → (execOp a.eval o).run P w = .ok (.value v) w) (hS : S w) (K : ∀ a', Fm N ((d, v) :: L) a' → wpAnyH P md ops Q S fuel (listed.setIfInBounds i true) a' w) : wpAnyH P md ops Q S (fuel + 1) listed a w :=
  wpAnyH_take hi hs hf hr (fun c a w => by rw [hd]; exact hQ c a w) (.inl ⟨by unfold Region.wanted; rw [hg], hy⟩) hS (by rw [hd]; exact K _ (F.put hb))
theorem sd_move (F : Fm N L a) (i : Nat) {d : Nat} {x : Operand} {v : Value} (hi : ops[i]? = some o) (h : Is o (some d) (.move x)) (hv : opv L x = some v) (hs : Region.noSelect ops = true) (hf : Region.free md ops listed i = true) (hr : (Region.ready md ops listed).contains i = true) (hQ : ∀ c a w, Q (.panic c) (a.put (some d) v) w → Q (.panic c) a w)
    (hb : Nat.blt d N = true) (hS : S w) (K : ∀ a', Fm N ((d, v) :: L) a' → wpAnyH P md ops Q S fuel (listed.setIfInBounds i true) a' w) : wpAnyH P md ops Q S (fuel + 1) listed a w :=
  sd_val F i hi hs hf hr hQ h.1 h.2.2 hb (fun w _ => by unfold execOp; rw [h.2.1]; simp only [F.ev hv]; rfl) hS K
theorem sd_nil (F : Fm N L a) (i : Nat) {d : Nat} {x : Operand} {p : Addr} (hi : ops[i]? = some o) (h : Is o (some d) (.nilCheck x)) (hv : opv L x = some (.pointer (some p))) (hs : Region.noSelect ops = true) (hf : Region.free md ops listed i = true) (hr : (Region.ready md ops listed).contains i = true) (hQ : ∀ c a w, Q (.panic c) (a.put (some d) (.pointer (some p))) w → Q (.panic c) a w)
    (hb : Nat.blt d N = true) (hS : S w) (K : ∀ a', Fm N ((d, .pointer (some p)) :: L) a' → wpAnyH P md ops Q S fuel (listed.setIfInBounds i true) a' w) : wpAnyH P md ops Q S (fuel + 1) listed a w :=
  sd_val F i hi hs hf hr hQ h.1 h.2.2 hb (fun w _ => by unfold execOp; rw [h.2.1]; simp only [F.ev hv]; rfl) hS K
theorem sd_fld (F : Fm N L a) (i n : Nat) {d s k b f m : Nat} {x : Operand} (hi : ops[i]? = some o) (h : Is o (some d) (.fieldAddr s x k)) (hv : opv L x = some (.pointer (some ⟨b, f, none⟩))) (hn : fldOff P s k = some n) (hm : f + n = m) (hs : Region.noSelect ops = true) (hf : Region.free md ops listed i = true) (hr : (Region.ready md ops listed).contains i = true) (hQ : ∀ c a w, Q (.panic c) (a.put (some d) (.pointer (some ⟨b, m, none⟩))) w → Q (.panic c) a w)
    (hb : Nat.blt d N = true) (hS : S w) (K : ∀ a', Fm N ((d, .pointer (some ⟨b, m, none⟩)) :: L) a' → wpAnyH P md ops Q S fuel (listed.setIfInBounds i true) a' w) : wpAnyH P md ops Q S (fuel + 1) listed a w := by
  subst hm
  exact sd_val F i hi hs hf hr hQ h.1 h.2.2 hb (fun w _ => by unfold execOp; rw [h.2.1]; simp only [F.ev hv]; simp [Sem.run_bind, run_fldo hn]) hS K
theorem run_cell {t : TypeId} {x : Operand} {b n : Nat} {v : Value} {d : TypeDesc} (ho : o.op = .load t x) (hx : a.eval x = .pointer (some ⟨b, n, none⟩)) (hc : w.cell? ⟨b, n, none⟩ = some v) (hu : P.underlying t = some d) (hd : d.isRow = false) : (execOp a.eval o).run P w = .ok (.value v) w := by
  unfold execOp
  rw [ho]
  simp only [hx]
  have hagg : (isAgg t).run P w = .ok false w := by
    unfold isAgg
    rw [Sem.run_bind, run_underlying hu w]
    cases d <;> simp_all [TypeDesc.isRow]
  simp [Instr.loadAt, Instr.sureAddr, loadVar, hagg, hc]
theorem sd_cell (F : Fm N L a) (i : Nat) {d : Nat} {t : TypeId} {x : Operand} {b n : Nat} {v : Value} (hi : ops[i]? = some o) (h : Is o (some d) (.load t x)) (hv : opv L x = some (.pointer (some ⟨b, n, none⟩))) (ht : cellT P t = true) (hc : ∀ w, S w → w.cell? ⟨b, n, none⟩ = some v) (hs : Region.noSelect ops = true) (hf : Region.free md ops listed i = true) (hr : (Region.ready md ops listed).contains i = true) (hQ : ∀ c a w, Q (.panic c) (a.put (some d) v) w → Q (.panic c) a w)
    (hb : Nat.blt d N = true) (hS : S w) (K : ∀ a', Fm N ((d, v) :: L) a' → wpAnyH P md ops Q S fuel (listed.setIfInBounds i true) a' w) : wpAnyH P md ops Q S (fuel + 1) listed a w := by
  obtain ⟨ds, hu, hd⟩ := cellT_out ht
  exact sd_val F i hi hs hf hr hQ h.1 h.2.2 hb (fun w hw => run_cell h.2.1 (F.ev hv) (hc w hw) hu hd) hS K
theorem oper_then {o : Oper} {a : Act} {w : World} {K : Act → World → Prop} {Q : Exit → Act → World → Prop} (hh : o.wp P a w K (Exit.then K Q)) : o.wp P a w K Q := by
  unfold Oper.wp at hh ⊢
  generalize (execOp a.eval o).run P w = r at hh ⊢
  cases r with
  | ok n w' =>
    cases n with
    | value v => exact hh
    | skip => exact hh
    | defer d => exact hh
    | enter f args =>
      refine Calls.mono (R := _) hh fun e w'' he => ?_
      cases e with
      | returned v => exact he
      | panicked c => exact he
      | outgrown => exact he
    | row r args => exact Rows.mono hh fun _ _ he => he
    | _ => exact hh
  | halt x w' => cases x <;> exact hh
/-- The one that may come up now. -/
theorem sd_one (i : Nat) (hi : ops[i]? = some o) (hr : Region.ready md ops listed = [i]) (hg : o.guard = none) (h : wpList P ops (Exit.then (fun a w => S w ∧ wpAnyH P md ops Q S fuel (listed.setIfInBounds i true) a w) Q) [o] a w) : wpAnyH P md ops Q S (fuel + 1) listed a w :=
  wpAnyH_all hr (by simp) fun j hj => by
    have hj : j = i := by simpa using hj
    subst hj
    have hw : ∀ t, Region.wanted o t = true := fun t => by simp [Region.wanted, hg]
    unfold wpList at h
    rw [if_pos (hw _)] at h
    unfold wpOp
    simp only [hi]
    rw [if_pos (hw _)]
    rcases h with h | ⟨h1, h2⟩
    · exact .inl (oper_then h)
    · exact .inr ⟨h1, h2⟩
/-- The last one. -/
theorem sd_last (m : Nat) (hm : ops[m]? = some o) (hg : o.guard = none) (hr : Region.ready md ops0 listed = []) (h : wpList P ops Q [o] a w) : wpAnyH P md ops0 (ThenLast P ops Q m) S fuel listed a w := by
  refine wpAnyH_done hr ?_ _
  show wpOp P ops Q m _ a w
  have hw : ∀ t, Region.wanted o t = true := fun t => by simp [Region.wanted, hg]
  unfold wpList at h
  rw [if_pos (hw _)] at h
  unfold wpOp
  simp only [hm]
  rw [if_pos (hw _)]
  exact h
end
section
variable {σ : Type} {X : σ → World → Prop} {T : Nat → Prop} {w0 w : World} {E : List Ent} {s : σ}
theorem Mm.drew (M : Mm X T w0 E s w) : Mm X T w0 E s w.drew := M.own ((Below.refl _ _).drew) (M.mem.hi (Hi.of_below ((Below.refl w.heap.size w).drew)))
theorem Mm.cell (M : Mm X T w0 E s w) (k : Nat) {x n : Nat} {cs : List Value} {t : TypeId} {v : Value} (hk : E[k]? = some (.box x cs t)) (hc : cs[n]? = some v) : w.cell? ⟨x, n, none⟩ = some v := ((M.mem.box hk).1.cell n).trans (by simpa using hc)
/-- A call that gives nothing that lies in memory. -/
theorem sw_call0 {P : Program} {ops : Array Oper} {Q : Exit → Act → World → Prop} {a : Act} {rest : List Oper} {o : Oper} {N : Nat} {L : List (Nat × Value)} {f : FuncId} {vs : List Value} {Post : Value → List Fld → σ → Prop} (hM : Meth P X T f vs s Post) (F : Fm N L a) (M : Mm X T w0 E s w) {i : Nat} {xs : Array Operand} {ts : Array TypeId} (h : Is o (some i) (.call { callee := .value (.func f), args := xs, argTypes := ts })) (hv : opvs L xs.toList = some vs) (hi : Nat.blt i N = true)
    (K : ∀ v s' a' w', (∃ fs, Post v fs s') → Fm N ((i, v) :: L) a' → Mm X T w0 E s' w' → wpList P ops Q rest a' w') : wpList P ops Q (o :: rest) a w :=
  sw_call hM F M h hv hi fun v fs s' a' w' p F' M' => K v s' a' w' ⟨fs, p⟩ F' M'.tl
theorem Mem.rowlie {base : Nat} {L : List Ent} {w : World} (M : Mem base L w) (k : Nat) {la : Option Addr} {n lc : Nat} {e : TypeId} {sz : Nat} {es : List (List Fld)} (h : L[k]? = some (.row (.slice la n lc) e sz es)) : (Fld.l la lc es).lies base w := by
  obtain ⟨la', lc', e1, h1⟩ := M.rowval h
  injection e1 with e1 e2 e3
  subst e1 e3
  exact h1
theorem Mem.vallie {base : Nat} {L : List Ent} {w : World} (M : Mem base L w) (k : Nat) {f : Fld} (h : L[k]? = some (.val [f])) : f.lies base w := M.val h f (by simp)
theorem Mem.valat {base : Nat} {L : List Ent} {w : World} (M : Mem base L w) (k i : Nat) {f : Fld} {fs : List Fld} (h : L[k]? = some (.val fs)) (hi : fs[i]? = some f) : f.lies base w := M.val h f (List.mem_of_getElem? hi)
theorem lie_nil (lo : Nat) (w : World) : lieAll lo w [] := fun f hf => by cases hf
theorem lie_cons {lo : Nat} {w : World} {f : Fld} {fs : List Fld} (h : f.lies lo w) (g : lieAll lo w fs) : lieAll lo w (f :: fs) := fun x hx => by
  rcases List.mem_cons.1 hx with rfl | hx
  · exact h
  · exact g x hx
theorem lie_i {lo : Nat} {w : World} {n : Int} (h : -9223372036854775808 ≤ n ∧ n ≤ 9223372036854775807) : (Fld.i n).lies lo w := h
theorem lies_nil (lo : Nat) (w : World) : (Fld.l none 0 []).lies lo w := ⟨by simp, by unfold maxLen; omega, .inl rfl⟩
end
end Go.Proofs.YtgpjlocgkdlnlaaDoor
