/- The way of a proof: the top's image, and the list turned about. -/
import Derived.Test.YtcpjcjonlkgblaaM41
import Derived.OrdersHeld
import Derived.WalkKit

namespace Go.Proofs.Ytcpjcjonlkgblaa
open Go.RowKit Go.Shelf
set_option linter.unusedVariables false
set_option linter.unusedSimpArgs false

/-- What the last region's loads find. -/
def LastS (wb L : Nat) (wd : Int) (sv : Value) (e : Ent) (w' : World) : Prop := w'.cell? ⟨L + 2, 0, none⟩ = some sv ∧ w'.cell? ⟨wb, 0, none⟩ = some (.int .i64 wd) ∧ w'.cell? ⟨L, 0, none⟩ = some (.int .i64 e.tag) ∧ w'.cell? ⟨L, 1, none⟩ = some (.slice e.a e.ss.length e.cap)

theorem WayAt.lastS {wB : World} {L wb : Nat} {wd : Int} {key val : Key} {bsv : Value} {ts : List (Int × Int)} {E0 : List Ent} {e : Ent} {sv : Value} {W : World} (h : WayAt wB L wd key val bsv ts E0 e sv W) (kW : Blk wB wb #[.int .i64 wd] 3) : LastS wb L wd sv e W :=
  ⟨(h.box.cell 0).trans rfl, ((kW.below h.below kW.lt).cell 0).trans rfl, (h.last.cell 0).trans rfl, (h.last.cell 1).trans rfl⟩

theorem WayAt.top {wB : World} {L wb : Nat} {wd : Int} {key val : Key} {bsv : Value} {ts : List (Int × Int)} {E0 : List Ent} {e e' : Ent} {sv : Value} {W W1 W4 : World} {b' g cg : Nat} (kW : Blk wB wb #[.int .i64 wd] 3)
    (h : WayAt wB L wd key val bsv ts E0 e sv W) (h1 : Below W.heap.size W W1) (ha : e'.a = some ⟨b', 0, none⟩) (hb1 : W.heap.size ≤ b') (hb2 : b' < W1.heap.size) (hS : Strs W1 e'.a e'.ss) (hi : e'.img = (5, [str (be (upsD wd key val ts) 8)]))
    (hown : W4.ownsRow (L + 1) 47 2 (.slice (some ⟨g, 0, none⟩) ((E0 ++ [e]).length + 1) cg) ((E0 ++ [e]).length + 1) (flatE (E0 ++ [e]) ++ e'.cells))
    (hgrow : (W1.alloc (.cells #[.int .i64 e'.tag, .slice e'.a e'.ss.length e'.cap] 47)).grownBy W4 sv.ownBlock) (hat : sv.ownBlock = some g ∨ g = W1.heap.size + 1) :
    LastS wb L wd sv e W4 ∧ Blk W4 (L + 2) #[sv] 70 ∧ ∀ wF, wF = W4.setCell ⟨L + 2, 0, none⟩ (.slice (some ⟨g, 0, none⟩) ((E0 ++ [e]).length + 1) cg) →
      Blk wF (L + 2) #[.slice (some ⟨g, 0, none⟩) ((E0 ++ [e]).length + 1) cg] 70 ∧ g ≠ L + 2 ∧ L + 1 ≤ g ∧ okE wF (E0 ++ [e] ++ [e']) ∧ Apart (.slice (some ⟨g, 0, none⟩) ((E0 ++ [e]).length + 1) cg) (E0 ++ [e] ++ [e']) ∧ Below wB.heap.size wB wF ∧ KeepsOthers W1 wF ∧ ((E0 ++ [e] ++ [e']).reverse.map Ent.img = wayP wd ⟨true, key, val, ts⟩) ∧
      ∃ cur, Blk wF g cur 47 ∧ (E0 ++ [e] ++ [e']).length * 2 ≤ cur.size ∧ (E0 ++ [e] ++ [e']).length ≤ cg ∧ cg ≤ maxLen ∧ Holds2 cur (fun m => (E0 ++ [e] ++ [e']).getD m noEnt) (E0 ++ [e] ++ [e']).length := by
  have hW := h
  have h := h.next h1
  have zW := hW.it.lt
  have hsz := h1.size
  have hL := h.hL
  have zb := kW.lt
  have n1 : sv.ownBlock ≠ some L := fun e => by have := (h.row.lt L e).1; omega
  have n0 : sv.ownBlock ≠ some wb := fun e => by have := (h.row.lt wb e).1; omega
  have n4 : sv.ownBlock ≠ some b' := fun e => by have := (hW.row.lt b' e).2; omega
  have o2 : OffB (L + 2) (E0 ++ [e] ++ [e']) := h.off2.snoc e' fun b off hb => by rw [ha] at hb; injection hb with hb; injection hb with hb _; omega
  have ap : Apart sv (E0 ++ [e] ++ [e']) := h.apart.snoc e' fun b off hb => by rw [ha] at hb; injection hb with hb; injection hb with hb _; subst hb; exact n4
  have ok1 : okE W1 (E0 ++ [e] ++ [e']) := h.ok.snoc e' ⟨hS, b', 0, ha, hb2⟩
  have hv : Boxed W1 (L + 2) 70 sv := h.box
  obtain ⟨hv1, hv2, hr2, hk2, hb3⟩ := hv.appended (by decide) h.row (by omega) (by omega) hown hgrow
  have last4 : Blk W4 L #[.int .i64 e.tag, .slice e.a e.ss.length e.cap] 47 := (h.last.alloc _).grown hgrow n1
  have w4 : Blk W4 wb #[.int .i64 wd] 3 := ((kW.below h.below kW.lt).alloc _).grown hgrow n0
  have ok3 : okE (W1.alloc (.cells #[.int .i64 e'.tag, .slice e'.a e'.ss.length e'.cap] 47)) (E0 ++ [e] ++ [e']) := ok1.below ((Below.refl _ _).alloc (Nat.le_refl _) _)
  have ok4 : okE W4 (E0 ++ [e] ++ [e']) := ok3.grown hgrow ap
  have hlen : (E0 ++ [e] ++ [e']).length = (E0 ++ [e]).length + 1 := by simp
  have hv1' : Blk W4 (L + 2) #[sv] 70 := hv1
  refine ⟨⟨(hv1'.cell 0).trans rfl, (w4.cell 0).trans rfl, (last4.cell 0).trans rfl, (last4.cell 1).trans rfl⟩, hv1', ?_⟩
  rintro wF rfl
  have hr3 : (W4.setCell ⟨L + 2, 0, none⟩ (.slice (some ⟨g, 0, none⟩) ((E0 ++ [e]).length + 1) cg)).ownsRow (L + 1) 47 2 (.slice (some ⟨g, 0, none⟩) ((E0 ++ [e]).length + 1) cg) ((E0 ++ [e]).length + 1) (flatE (E0 ++ [e] ++ [e'])) := by rw [flatE_snoc]; exact hr2
  have hv2' : Boxed (W4.setCell ⟨L + 2, 0, none⟩ (.slice (some ⟨g, 0, none⟩) ((E0 ++ [e]).length + 1) cg)) (L + 2) 70 (.slice (some ⟨g, 0, none⟩) ((E0 ++ [e]).length + 1) cg) := hv2
  have hne : g ≠ L + 2 := fun e0 => by
    have := hv2'.not_row (by decide) hr3
    simp only [Value.ownBlock] at this
    exact this (by rw [e0])
  obtain ⟨cur, c1, c2, c3, c4, c5⟩ := owns_blk hlen hr3
  refine ⟨hv2, hne, (hr3.lt g rfl).1, ok4.set o2 0 _, Apart.next ap ok3 hat (by rw [World.size_alloc]), h.below.trans (hb3.mono (by omega)), hk2, ?_, cur, c1, by omega, by omega, c4, by rw [hlen]; exact c5⟩
  rw [List.map_reverse, List.map_append, h.imgs, List.map_cons, List.map_nil, hi]
  simp [wayP]
end Go.Proofs.Ytcpjcjonlkgblaa

namespace Go.Proofs.Ytcpjcjonlkgblaa
set_option linter.unusedVariables false
variable {P : Program} {md : Region.Mode} {ops : Array Oper} {Q : Exit → Act → World → Prop} {S T : World → Prop} {m : Nat}

/-- Whatever order: S holds behind every operation as long as number m has not come. -/
def wpAnyM (P : Program) (md : Region.Mode) (ops : Array Oper) (Q : Exit → Act → World → Prop) (S : World → Prop) (m : Nat) : Nat → Array Bool → Act → World → Prop
  | 0, ls, a, w => Region.ready md ops ls = [] ∧ Q .normal a w
  | n + 1, ls, a, w => (Region.ready md ops ls = [] → Q .normal a w) ∧
      ∀ i ∈ Region.ready md ops ls, wpOp P ops Q i (fun a' w' => ((ls.setIfInBounds i true).getD m true = false → S w') ∧ wpAnyM P md ops Q S m n (ls.setIfInBounds i true) a' w') a w

theorem wpAny_of_M : ∀ (n : Nat) (ls : Array Bool) (a : Act) (w : World), wpAnyM P md ops Q S m n ls a w → wpAny P md ops Q n ls a w
  | 0, _, _, _, h => h
  | n + 1, _, _, _, h => ⟨h.1, fun i hi => wpOp_mono (fun a' w' h' => wpAny_of_M n _ a' w' h'.2) (h.2 i hi)⟩

theorem unlisted {ls : Array Bool} {i : Nat} (h : ls.getD i true = false) : ls.getD i false = false := by
  rcases Nat.lt_or_ge i ls.size with h' | h'
  · simp [h'] at h ⊢; exact h
  · simp [Array.getElem?_eq_none h']

/-- Is i waited for by number m? -/
def waits (md : Region.Mode) (ops : Array Oper) (m i : Nat) : Prop := ∃ om, ops[m]? = some om ∧ ∃ e ∈ om.after, Region.binds md e = true ∧ e.on = i

theorem wpAnyM_first {i : Nat} {oi : Oper} {v : Value} (hi : ops[i]? = some oi) (hsel : ∀ (j : Nat) (o : Oper) cs b, ops[j]? = some o → o.op ≠ .select cs b)
    (hQ : ∀ c a w, Q (.panic c) (a.put oi.dst v) w → Q (.panic c) a w) (him : i ≠ m) :
    ∀ (n : Nat) (ls : Array Bool) (a : Act) (w : World), (∀ w, T w) ∨ ((∀ w, S w → T w) ∧ waits md ops m i ∧ ls.getD m true = false) →
      (∀ j oj, ops[j]? = some oj → j ≠ i → ls.getD j true = false → (∀ e ∈ oj.after, Region.binds md e = true → e.on ≠ i) → oi.apart ops oj = true) →
      i ∈ Region.ready md ops ls → YieldsIf P ops T oi v a → (ls.getD m true = false → S w) →
      wpAnyM P md ops Q S m n (ls.setIfInBounds i true) (a.put oi.dst v) w → wpAnyM P md ops Q S m (n + 1) ls a w := by
  have hTw : ∀ (ls : Array Bool) (w : World), ((∀ w, T w) ∨ ((∀ w, S w → T w) ∧ waits md ops m i ∧ ls.getD m true = false)) → (ls.getD m true = false → S w) → T w := by
    intro ls w h hS
    rcases h with h | ⟨h, _, h2⟩
    · exact h w
    · exact h w (hS h2)
  have self : ∀ (n : Nat) (ls : Array Bool) (a : Act) (w : World), ((∀ w, T w) ∨ ((∀ w, S w → T w) ∧ waits md ops m i ∧ ls.getD m true = false)) → YieldsIf P ops T oi v a → (ls.getD m true = false → S w) → wpAnyM P md ops Q S m n (ls.setIfInBounds i true) (a.put oi.dst v) w →
      wpOp P ops Q i (fun a' w' => ((ls.setIfInBounds i true).getD m true = false → S w') ∧ wpAnyM P md ops Q S m n (ls.setIfInBounds i true) a' w') a w := by
    intro n ls a w hT hy hS H
    refine hy.wpOp hi (hTw ls w hT hS) ⟨fun h => hS ?_, H⟩
    rw [getD_set_ne true him] at h
    exact h
  intro n
  induction n with
  | zero =>
    intro ls a w hT _ hr hy hS H
    refine ⟨fun h => (by rw [h] at hr; cases hr), fun j hj => ?_⟩
    by_cases hji : j = i
    · subst hji; exact self 0 ls a w hT hy hS H
    · have := ready_mono hj hji
      rw [H.1] at this
      cases this
  | succ n ih =>
    intro ls a w hT hfree hr hy hS H
    refine ⟨fun h => (by rw [h] at hr; cases hr), fun j hj => ?_⟩
    by_cases hji : j = i
    · subst hji; exact self (n + 1) ls a w hT hy hS H
    · have h1 := H.2 j (ready_mono hj hji)
      obtain ⟨hjun, oj, hoj, hall⟩ := mem_ready.1 hj
      have hiun := unlisted (mem_ready.1 hr).1
      have hnot : ∀ e ∈ oj.after, Region.binds md e = true → e.on ≠ i := fun e he hb heq => by
        have h1 := hall e he hb
        rw [heq, hiun] at h1
        cases h1
      have hT' : (∀ w, T w) ∨ ((∀ w, S w → T w) ∧ waits md ops m i ∧ (ls.setIfInBounds j true).getD m true = false) := by
        rcases hT with hT | ⟨hT, hw, hl⟩
        · exact .inl hT
        · refine .inr ⟨hT, hw, ?_⟩
          have hjm : j ≠ m := by
            intro e
            subst e
            obtain ⟨om, hom, e, he, hb, heq⟩ := hw
            rw [hoj] at hom
            exact hnot e (Option.some.inj hom ▸ he) hb heq
          rw [getD_set_ne true hjm]
          exact hl
      have h2 := wpOp_putIf hoj (hfree j oj hoj hji hjun hnot) (fun cs b => hsel i oi cs b hi) (fun cs b => hsel j oj cs b hoj) hQ hy h1
      refine wpOp_mono (fun a' w' h3 => ?_) h2
      obtain ⟨hy', hS', H'⟩ := h3
      have hS2 : (ls.setIfInBounds j true).getD m true = false → S w' := fun h => hS' (by rw [Array.setIfInBounds_comm _ _ (Ne.symm hji), getD_set_ne true him]; exact h)
      refine ⟨hS2, ih (ls.setIfInBounds j true) a' w' hT' (fun k ok hk hki hun hno => hfree k ok hk hki ?_ hno) (ready_mono hr (Ne.symm hji)) hy' hS2 ?_⟩
      · by_cases hjk : j = k
        · subst hjk; exact hjun
        · rw [getD_set_ne true hjk] at hun; exact hun
      · rw [Array.setIfInBounds_comm _ _ hji]
        exact H'

/-- Number i, which the store waits for, is taken first: it yields the same wherever S holds. -/
theorem wpAnyM_take {i : Nat} {oi : Oper} {v : Value} {n : Nat} {ls : Array Bool} {a : Act} {w : World} (hi : ops[i]? = some oi)
    (hs : Region.noSelect ops = true) (hf : Region.free md ops ls i = true) (hr : (Region.ready md ops ls).contains i = true)
    (hm : (match ops[m]? with | some om => om.after.any (fun e => Region.binds md e && e.on == i) | none => false) = true) (him : i ≠ m) (hl : ls.getD m true = false)
    (hQ : ∀ c a w, Q (.panic c) (a.put oi.dst v) w → Q (.panic c) a w) (hy : YieldsIf P ops S oi v a) (hS : S w)
    (h : wpAnyM P md ops Q S m n (ls.setIfInBounds i true) (a.put oi.dst v) w) : wpAnyM P md ops Q S m (n + 1) ls a w := by
  have hw : waits md ops m i := by
    cases hom : ops[m]? with
    | none => rw [hom] at hm; cases hm
    | some om =>
      rw [hom] at hm
      obtain ⟨e, he, hb⟩ := Array.any_eq_true'.1 hm
      rw [Bool.and_eq_true] at hb
      exact ⟨om, hom, e, he, hb.1, by simpa using hb.2⟩
  exact wpAnyM_first (T := S) hi (Region.noSelect_spec hs) hQ him n ls a w (.inr ⟨fun _ h => h, hw, hl⟩) (Region.free_spec hi hf) (by simpa using hr) hy (fun _ => hS) h

/-- Number i reads no memory: it is taken first. -/
theorem wpAnyM_pure {i : Nat} {oi : Oper} {v : Value} {n : Nat} {ls : Array Bool} {a : Act} {w : World} (hi : ops[i]? = some oi)
    (hs : Region.noSelect ops = true) (hf : Region.free md ops ls i = true) (hr : (Region.ready md ops ls).contains i = true) (him : i ≠ m)
    (hQ : ∀ c a w, Q (.panic c) (a.put oi.dst v) w → Q (.panic c) a w) (hy : YieldsIf P ops (fun _ => True) oi v a) (hS : S w)
    (h : wpAnyM P md ops Q S m n (ls.setIfInBounds i true) (a.put oi.dst v) w) : wpAnyM P md ops Q S m (n + 1) ls a w :=
  wpAnyM_first (T := fun _ => True) hi (Region.noSelect_spec hs) hQ him n ls a w (.inl fun _ => trivial) (Region.free_spec hi hf) (by simpa using hr) hy (fun _ => hS) h

/-- One alone may come. -/
theorem wpAnyM_one {i : Nat} {n : Nat} {ls : Array Bool} {a : Act} {w : World} (hr : Region.ready md ops ls = [i])
    (h : wpOp P ops Q i (fun a' w' => ((ls.setIfInBounds i true).getD m true = false → S w') ∧ wpAnyM P md ops Q S m n (ls.setIfInBounds i true) a' w') a w) : wpAnyM P md ops Q S m (n + 1) ls a w := by
  refine ⟨fun h0 => ?_, fun j hj => ?_⟩
  · rw [hr] at h0; cases h0
  · rw [hr] at hj; rw [List.mem_singleton.1 hj]; exact h

theorem wpAnyM_done {ls : Array Bool} {a : Act} {w : World} (hr : Region.ready md ops ls = []) (h : Q .normal a w) : ∀ n, wpAnyM P md ops Q S m n ls a w
  | 0 => ⟨hr, h⟩
  | _ + 1 => ⟨fun _ => h, by rw [hr]; simp⟩

/-- The beginning. -/
theorem wp_region_late {id : Nat} {a : Act} {w : World} (S : World → Prop) (m : Nat) (hx : P.follows .mixedOrders = true)
    (h : wpAnyM P .any ops Q S m ops.size (Array.replicate ops.size false) a w.drew) : (Code.region id ops true).wp P Q a w :=
  wp_region_any hx (wpAny_of_M _ _ _ _ h)
end Go.Proofs.Ytcpjcjonlkgblaa
