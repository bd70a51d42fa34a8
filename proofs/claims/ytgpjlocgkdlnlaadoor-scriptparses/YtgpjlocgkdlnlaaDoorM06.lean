/- A region that draws its order, with one operation (a store) behind which what was loaded need not hold any more: what is loaded ahead of it may be taken first, and what reads no memory may come behind it. -/
import Derived.OrdersHeld
import Derived.WalkKit
import Derived.Test.YtgpjlocgkdlnlaaDoorM05
import Derived.Test.YtgpjlocgkdlnlaaDoorSBase
import Derived.Deep.CutBlock
import Derived.Deep.CutRange
import Derived.Deep.DeepCutAuto
import Derived.Laws.Bits64b
import Derived.Laws.MakeOwn
import Derived.Lib.BufferWrite
import Derived.Lib.UnsafeStr

namespace Go.Proofs.YtgpjlocgkdlnlaaDoor
set_option linter.unusedVariables false
variable {P : Program} {md : Region.Mode} {ops : Array Oper} {Q : Exit → Act → World → Prop} {S T : World → Prop} {m : Nat}

/-- Whatever order: S holds behind every operation as long as number m has not come. -/
def wpAnyM (P : Program) (md : Region.Mode) (ops : Array Oper) (Q : Exit → Act → World → Prop) (S : World → Prop) (m : Nat) : Nat → Array Bool → Act → World → Prop
  | 0, ls, a, w => Region.ready md ops ls = [] ∧ Q .normal a w
  | n + 1, ls, a, w => (Region.ready md ops ls = [] → Q .normal a w) ∧
      ∀ i ∈ Region.ready md ops ls, wpOp P ops Q i (fun a' w' => ((ls.setIfInBounds i true).getD m true = false → S w') ∧ wpAnyM P md ops Q S m n (ls.setIfInBounds i true) a' w') a w

theorem wpAny_of_M : ∀ (n : Nat) (ls : Array Bool) (a : Act) (w : World), wpAnyM P md ops Q S m n ls a w → wpAny P md ops Q n ls a w
  | 0, _, _, _, h => h
  | n + 1, _, _, _, h => ⟨h.1, fun i hi => wpOp_mono (fun a' w' h' => wpAny_of_M n _ a' w' h'.2) (h.2 i hi)⟩

theorem unlisted {ls : Array Bool} {i : Nat} (h : ls.getD i true = false) : ls.getD i false = false := by
  rcases Nat.lt_or_ge i ls.size with h' | h'
  · simp [h'] at h ⊢; exact h
  · simp [Array.getElem?_eq_none h']

/-- Is i waited for by number m? -/
def waits (md : Region.Mode) (ops : Array Oper) (m i : Nat) : Prop := ∃ om, ops[m]? = some om ∧ ∃ e ∈ om.after, Region.binds md e = true ∧ e.on = i

theorem wpAnyM_first {i : Nat} {oi : Oper} {v : Value} (hi : ops[i]? = some oi) (hsel : ∀ (j : Nat) (o : Oper) cs b, ops[j]? = some o → o.op ≠ .select cs b)
    (hQ : ∀ c a w, Q (.panic c) (a.put oi.dst v) w → Q (.panic c) a w) (him : i ≠ m) :
    ∀ (n : Nat) (ls : Array Bool) (a : Act) (w : World), (∀ w, T w) ∨ ((∀ w, S w → T w) ∧ waits md ops m i ∧ ls.getD m true = false) →
      (∀ j oj, ops[j]? = some oj → j ≠ i → ls.getD j true = false → (∀ e ∈ oj.after, Region.binds md e = true → e.on ≠ i) → oi.apart ops oj = true) →
      i ∈ Region.ready md ops ls → YieldsIf P ops T oi v a → (ls.getD m true = false → S w) →
      wpAnyM P md ops Q S m n (ls.setIfInBounds i true) (a.put oi.dst v) w → wpAnyM P md ops Q S m (n + 1) ls a w := by
  have hTw : ∀ (ls : Array Bool) (w : World), ((∀ w, T w) ∨ ((∀ w, S w → T w) ∧ waits md ops m i ∧ ls.getD m true = false)) → (ls.getD m true = false → S w) → T w := by
    intro ls w h hS
    rcases h with h | ⟨h, _, h2⟩
    · exact h w
    · exact h w (hS h2)
  have self : ∀ (n : Nat) (ls : Array Bool) (a : Act) (w : World), ((∀ w, T w) ∨ ((∀ w, S w → T w) ∧ waits md ops m i ∧ ls.getD m true = false)) → YieldsIf P ops T oi v a → (ls.getD m true = false → S w) → wpAnyM P md ops Q S m n (ls.setIfInBounds i true) (a.put oi.dst v) w →
      wpOp P ops Q i (fun a' w' => ((ls.setIfInBounds i true).getD m true = false → S w') ∧ wpAnyM P md ops Q S m n (ls.setIfInBounds i true) a' w') a w := by
    intro n ls a w hT hy hS H
    refine hy.wpOp hi (hTw ls w hT hS) ⟨fun h => hS ?_, H⟩
    rw [getD_set_ne true him] at h
    exact h
  intro n
  induction n with
  | zero =>
    intro ls a w hT _ hr hy hS H
    refine ⟨fun h => (by rw [h] at hr; cases hr), fun j hj => ?_⟩
    by_cases hji : j = i
    · subst hji; exact self 0 ls a w hT hy hS H
    · have := ready_mono hj hji
      rw [H.1] at this
      cases this
  | succ n ih =>
    intro ls a w hT hfree hr hy hS H
    refine ⟨fun h => (by rw [h] at hr; cases hr), fun j hj => ?_⟩
    by_cases hji : j = i
    · subst hji; exact self (n + 1) ls a w hT hy hS H
    · have h1 := H.2 j (ready_mono hj hji)
      obtain ⟨hjun, oj, hoj, hall⟩ := mem_ready.1 hj
      have hiun := unlisted (mem_ready.1 hr).1
      have hnot : ∀ e ∈ oj.after, Region.binds md e = true → e.on ≠ i := fun e he hb heq => by
        have h1 := hall e he hb
        rw [heq, hiun] at h1
        cases h1
      have hT' : (∀ w, T w) ∨ ((∀ w, S w → T w) ∧ waits md ops m i ∧ (ls.setIfInBounds j true).getD m true = false) := by
        rcases hT with hT | ⟨hT, hw, hl⟩
        · exact .inl hT
        · refine .inr ⟨hT, hw, ?_⟩
          have hjm : j ≠ m := by
            intro e
            subst e
            obtain ⟨om, hom, e, he, hb, heq⟩ := hw
            rw [hoj] at hom
            exact hnot e (Option.some.inj hom ▸ he) hb heq
          rw [getD_set_ne true hjm]
          exact hl
      have h2 := wpOp_putIf hoj (hfree j oj hoj hji hjun hnot) (fun cs b => hsel i oi cs b hi) (fun cs b => hsel j oj cs b hoj) hQ hy h1
      refine wpOp_mono (fun a' w' h3 => ?_) h2
      obtain ⟨hy', hS', H'⟩ := h3
      have hS2 : (ls.setIfInBounds j true).getD m true = false → S w' := fun h => hS' (by rw [Array.setIfInBounds_comm _ _ (Ne.symm hji), getD_set_ne true him]; exact h)
      refine ⟨hS2, ih (ls.setIfInBounds j true) a' w' hT' (fun k ok hk hki hun hno => hfree k ok hk hki ?_ hno) (ready_mono hr (Ne.symm hji)) hy' hS2 ?_⟩
      · by_cases hjk : j = k
        · subst hjk; exact hjun
        · rw [getD_set_ne true hjk] at hun; exact hun
      · rw [Array.setIfInBounds_comm _ _ hji]
        exact H'

/-- Number i, which the store waits for, is taken first: it yields the same wherever S holds. -/
theorem wpAnyM_take {i : Nat} {oi : Oper} {v : Value} {n : Nat} {ls : Array Bool} {a : Act} {w : World} (hi : ops[i]? = some oi)
    (hs : Region.noSelect ops = true) (hf : Region.free md ops ls i = true) (hr : (Region.ready md ops ls).contains i = true)
    (hm : (match ops[m]? with | some om => om.after.any (fun e => Region.binds md e && e.on == i) | none => false) = true) (him : i ≠ m) (hl : ls.getD m true = false)
    (hQ : ∀ c a w, Q (.panic c) (a.put oi.dst v) w → Q (.panic c) a w) (hy : YieldsIf P ops S oi v a) (hS : S w)
    (h : wpAnyM P md ops Q S m n (ls.setIfInBounds i true) (a.put oi.dst v) w) : wpAnyM P md ops Q S m (n + 1) ls a w := by
  have hw : waits md ops m i := by
    cases hom : ops[m]? with
    | none => rw [hom] at hm; cases hm
    | some om =>
      rw [hom] at hm
      obtain ⟨e, he, hb⟩ := Array.any_eq_true'.1 hm
      rw [Bool.and_eq_true] at hb
      exact ⟨om, hom, e, he, hb.1, by simpa using hb.2⟩
  exact wpAnyM_first (T := S) hi (Region.noSelect_spec hs) hQ him n ls a w (.inr ⟨fun _ h => h, hw, hl⟩) (Region.free_spec hi hf) (by simpa using hr) hy (fun _ => hS) h

/-- Number i reads no memory: it is taken first. -/
theorem wpAnyM_pure {i : Nat} {oi : Oper} {v : Value} {n : Nat} {ls : Array Bool} {a : Act} {w : World} (hi : ops[i]? = some oi)
    (hs : Region.noSelect ops = true) (hf : Region.free md ops ls i = true) (hr : (Region.ready md ops ls).contains i = true) (him : i ≠ m)
    (hQ : ∀ c a w, Q (.panic c) (a.put oi.dst v) w → Q (.panic c) a w) (hy : YieldsIf P ops (fun _ => True) oi v a) (hS : S w)
    (h : wpAnyM P md ops Q S m n (ls.setIfInBounds i true) (a.put oi.dst v) w) : wpAnyM P md ops Q S m (n + 1) ls a w :=
  wpAnyM_first (T := fun _ => True) hi (Region.noSelect_spec hs) hQ him n ls a w (.inl fun _ => trivial) (Region.free_spec hi hf) (by simpa using hr) hy (fun _ => hS) h

/-- One alone may come. -/
theorem wpAnyM_one {i : Nat} {n : Nat} {ls : Array Bool} {a : Act} {w : World} (hr : Region.ready md ops ls = [i])
    (h : wpOp P ops Q i (fun a' w' => ((ls.setIfInBounds i true).getD m true = false → S w') ∧ wpAnyM P md ops Q S m n (ls.setIfInBounds i true) a' w') a w) : wpAnyM P md ops Q S m (n + 1) ls a w := by
  refine ⟨fun h0 => ?_, fun j hj => ?_⟩
  · rw [hr] at h0; cases h0
  · rw [hr] at hj; rw [List.mem_singleton.1 hj]; exact h

theorem wpAnyM_done {ls : Array Bool} {a : Act} {w : World} (hr : Region.ready md ops ls = []) (h : Q .normal a w) : ∀ n, wpAnyM P md ops Q S m n ls a w
  | 0 => ⟨hr, h⟩
  | _ + 1 => ⟨fun _ => h, by rw [hr]; simp⟩

/-- The beginning. -/
theorem wp_region_late {id : Nat} {a : Act} {w : World} (S : World → Prop) (m : Nat) (hx : P.follows .mixedOrders = true)
    (h : wpAnyM P .any ops Q S m ops.size (Array.replicate ops.size false) a w.drew) : (Code.region id ops true).wp P Q a w :=
  wp_region_any hx (wpAny_of_M _ _ _ _ h)
end Go.Proofs.YtgpjlocgkdlnlaaDoor

namespace Go.Proofs.YtgpjlocgkdlnlaaDoor
open Go.RowKit
set_option linter.unusedVariables false
set_option linter.unusedSimpArgs false

section
variable {P : Program} {md : Region.Mode} {ops : Array Oper} {Q : Exit → Act → World → Prop} {S : World → Prop} {a : Act} {w w0 : World} {o : Oper} {N m : Nat} {L : List (Nat × Value)} {fuel : Nat} {listed : Array Bool}
theorem sm_val (F : Fm N L a) (i : Nat) {d : Nat} {v : Value} (hi : ops[i]? = some o) (hs : Region.noSelect ops = true) (hf : Region.free md ops listed i = true) (hr : (Region.ready md ops listed).contains i = true) (him : Nat.beq i m = false) (hQ : ∀ c a w, Q (.panic c) (a.put (some d) v) w → Q (.panic c) a w)
    (hd : o.dst = some d) (hg : o.guard = none) (hb : Nat.blt d N = true) (hy : ∀ w, (execOp a.eval o).run P w = .ok (.value v) w) (hS : S w) (K : ∀ a', Fm N ((d, v) :: L) a' → wpAnyM P md ops Q S m fuel (listed.setIfInBounds i true) a' w) : wpAnyM P md ops Q S m (fuel + 1) listed a w :=
  wpAnyM_pure hi hs hf hr (fun e => by subst e; rw [Nat.beq_refl] at him; cases him) (fun c a w => by rw [hd]; exact hQ c a w) (.inl ⟨by unfold Region.wanted; rw [hg], fun w _ => hy w⟩) hS (by rw [hd]; exact K _ (F.put hb))
theorem sm_move (F : Fm N L a) (i : Nat) {d : Nat} {x : Operand} {v : Value} (hi : ops[i]? = some o) (h : Is o (some d) (.move x)) (hv : opv L x = some v) (hs : Region.noSelect ops = true) (hf : Region.free md ops listed i = true) (hr : (Region.ready md ops listed).contains i = true) (him : Nat.beq i m = false) (hQ : ∀ c a w, Q (.panic c) (a.put (some d) v) w → Q (.panic c) a w)
    (hb : Nat.blt d N = true) (hS : S w) (K : ∀ a', Fm N ((d, v) :: L) a' → wpAnyM P md ops Q S m fuel (listed.setIfInBounds i true) a' w) : wpAnyM P md ops Q S m (fuel + 1) listed a w :=
  sm_val F i hi hs hf hr him hQ h.1 h.2.2 hb (fun w => by unfold execOp; rw [h.2.1]; simp only [F.ev hv]; rfl) hS K
theorem sm_nil (F : Fm N L a) (i : Nat) {d : Nat} {x : Operand} {p : Addr} (hi : ops[i]? = some o) (h : Is o (some d) (.nilCheck x)) (hv : opv L x = some (.pointer (some p))) (hs : Region.noSelect ops = true) (hf : Region.free md ops listed i = true) (hr : (Region.ready md ops listed).contains i = true) (him : Nat.beq i m = false) (hQ : ∀ c a w, Q (.panic c) (a.put (some d) (.pointer (some p))) w → Q (.panic c) a w)
    (hb : Nat.blt d N = true) (hS : S w) (K : ∀ a', Fm N ((d, .pointer (some p)) :: L) a' → wpAnyM P md ops Q S m fuel (listed.setIfInBounds i true) a' w) : wpAnyM P md ops Q S m (fuel + 1) listed a w :=
  sm_val F i hi hs hf hr him hQ h.1 h.2.2 hb (fun w => by unfold execOp; rw [h.2.1]; simp only [F.ev hv]; rfl) hS K
theorem sm_fld (F : Fm N L a) (i n : Nat) {d s k b f e : Nat} {x : Operand} (hi : ops[i]? = some o) (h : Is o (some d) (.fieldAddr s x k)) (hv : opv L x = some (.pointer (some ⟨b, f, none⟩))) (hn : fldOff P s k = some n) (hm : f + n = e) (hs : Region.noSelect ops = true) (hf : Region.free md ops listed i = true) (hr : (Region.ready md ops listed).contains i = true) (him : Nat.beq i m = false) (hQ : ∀ c a w, Q (.panic c) (a.put (some d) (.pointer (some ⟨b, e, none⟩))) w → Q (.panic c) a w)
    (hb : Nat.blt d N = true) (hS : S w) (K : ∀ a', Fm N ((d, .pointer (some ⟨b, e, none⟩)) :: L) a' → wpAnyM P md ops Q S m fuel (listed.setIfInBounds i true) a' w) : wpAnyM P md ops Q S m (fuel + 1) listed a w := by
  subst hm
  exact sm_val F i hi hs hf hr him hQ h.1 h.2.2 hb (fun w => by unfold execOp; rw [h.2.1]; simp only [F.ev hv]; simp [Sem.run_bind, run_fldo hn]) hS K
def waitsB (md : Region.Mode) (ops : Array Oper) (m i : Nat) : Bool := match ops[m]? with | some om => om.after.any (fun e => Region.binds md e && e.on == i) | none => false
theorem sm_cell (F : Fm N L a) (i : Nat) {d : Nat} {t : TypeId} {x : Operand} {b n : Nat} {v : Value} (hi : ops[i]? = some o) (h : Is o (some d) (.load t x)) (hv : opv L x = some (.pointer (some ⟨b, n, none⟩))) (ht : cellT P t = true) (hc : ∀ w, S w → w.cell? ⟨b, n, none⟩ = some v) (hwt : (waitsB md ops m i && !(listed.getD m true)) = true) (hs : Region.noSelect ops = true) (hf : Region.free md ops listed i = true) (hr : (Region.ready md ops listed).contains i = true) (him : Nat.beq i m = false) (hQ : ∀ c a w, Q (.panic c) (a.put (some d) v) w → Q (.panic c) a w)
    (hb : Nat.blt d N = true) (hS : S w) (K : ∀ a', Fm N ((d, v) :: L) a' → wpAnyM P md ops Q S m fuel (listed.setIfInBounds i true) a' w) : wpAnyM P md ops Q S m (fuel + 1) listed a w := by
  obtain ⟨ds, hu, hd⟩ := cellT_out ht
  rw [Bool.and_eq_true] at hwt
  exact wpAnyM_take hi hs hf hr hwt.1 (fun e => by subst e; rw [Nat.beq_refl] at him; cases him) (by simpa using hwt.2) (fun c a w => by rw [h.1]; exact hQ c a w) (.inl ⟨by unfold Region.wanted; rw [h.2.2], fun w hw => run_cell h.2.1 (F.ev hv) (hc w hw) hu hd⟩) hS (by rw [h.1]; exact K _ (F.put hb))
/-- The one that may come up now. -/
theorem sm_one (i : Nat) (hi : ops[i]? = some o) (hr : Region.ready md ops listed = [i]) (hg : o.guard = none) (h : wpList P ops (Exit.then (fun a w => ((listed.setIfInBounds i true).getD m true = false → S w) ∧ wpAnyM P md ops Q S m fuel (listed.setIfInBounds i true) a w) Q) [o] a w) : wpAnyM P md ops Q S m (fuel + 1) listed a w :=
  wpAnyM_one hr (by
    have hw : ∀ t, Region.wanted o t = true := fun t => by simp [Region.wanted, hg]
    unfold wpList at h
    rw [if_pos (hw _)] at h
    unfold wpOp
    simp only [hi]
    rw [if_pos (hw _)]
    rcases h with h | ⟨h1, h2⟩
    · exact .inl (oper_then h)
    · exact .inr ⟨h1, h2⟩)
end
end Go.Proofs.YtgpjlocgkdlnlaaDoor

namespace Go.Proofs.YtgpjlocgkdlnlaaDoor
open Go.RowKit
set_option linter.unusedVariables false
set_option linter.unusedSimpArgs false

abbrev Key := List UInt8
def str (k : Key) : ByteArray := ⟨k.toArray⟩
theorem str_size (k : Key) : (str k).size = k.length := by simp [str, ByteArray.size]
theorem str_get (k : Key) (i : Nat) (h : i < k.length) (h' : i < (str k).size) : (str k)[i] = k[i] := by
  show (k.toArray)[i]'(by simpa using h) = k[i]
  exact List.getElem_toArray _
theorem str_inj {a b : Key} (h : str a = str b) : a = b := by
  have := congrArg (fun x => x.data.toList) h
  simpa [str] using this
theorem str_toList (k : Key) : (str k).toList = k := ByteArray.toList_mk k
theorem ext_take (l : List UInt8) (n : Nat) : (⟨l.toArray⟩ : ByteArray).extract 0 n = ⟨(l.take n).toArray⟩ := by
  apply ByteArray.ext
  rw [ByteArray.data_extract]
  apply Array.ext'
  simp [List.extract_eq_take_drop]
theorem ext_drop (l : List UInt8) (n : Nat) : (⟨l.toArray⟩ : ByteArray).extract n l.length = ⟨(l.drop n).toArray⟩ := by
  apply ByteArray.ext
  rw [ByteArray.data_extract]
  apply Array.ext'
  simp only [Array.toList_extract, List.toList_toArray, List.extract_eq_take_drop]
  rw [List.take_of_length_le (by simp)]
theorem str_size' (l : List UInt8) : (⟨l.toArray⟩ : ByteArray).size = l.length := by simp [ByteArray.size]
set_option maxHeartbeats 800000 in
theorem hasPre2_any (k p : Key) (w : World) (hp : p.length ≤ maxLen) :
    Calls Tryd.prog 56 #[.string (str k), .string (str p)] w fun e w' => e = .returned (.bool (p.isPrefixOf k)) ∧ w = w' := by
  have s1 := str_size k
  have s2 := str_size p
  unfold maxLen at hp
  by_cases h : p.length ≤ k.length
  · have h' : (p.length : Int) ≤ (k.length : Int) := by omega
    have hex : (str k).extract 0 p.length = str (k.take p.length) := by
      unfold str
      apply ByteArray.ext
      rw [ByteArray.data_extract]
      apply Array.ext'
      simp
    have HP : Hid (p.isPrefixOf k = ((str (k.take p.length)).toList == (str p).toList)) := by
      show _ = _
      rw [str_toList, str_toList, Bool.eq_iff_iff, List.isPrefixOf_iff_prefix, beq_iff_eq]
      constructor
      · intro h2; exact (List.prefix_iff_eq_take.1 h2).symm
      · intro h2; rw [← h2]; exact List.take_prefix _ _
    go_enter Tryd.func56, Tryd.ntmps56
    go_wp2
    go_ret
    exact ⟨by rw [HP.out]; rfl, rfl⟩
  · have h' : ¬ (p.length : Int) ≤ (k.length : Int) := by omega
    have HP : Hid (p.isPrefixOf k = false) := by
      show _ = _
      rw [Bool.eq_false_iff]
      intro e
      have := (List.isPrefixOf_iff_prefix.1 e).length_le
      omega
    go_enter Tryd.func56, Tryd.ntmps56
    go_wp2
    go_ret
    exact ⟨by rw [HP.out]; rfl, rfl⟩
theorem hasPre_any (k p : Key) (w : World) (hp : p.length ≤ maxLen) :
    Calls Tryd.prog 43 #[.string (str k), .string (str p)] w fun e w' => e = .returned (.bool (p.isPrefixOf k)) ∧ w = w' := by
  have K := hasPre2_any k p w hp
  go_enter Tryd.func43, Tryd.ntmps43
  go_wp2_with fail
  refine K.mono ?_
  rintro e w' ⟨rfl, rfl⟩
  go_wp2
  go_ret
  exact ⟨rfl, rfl⟩
set_option maxHeartbeats 800000 in
theorem rbegins_any (k p : Key) (w : World) (hk : k.length ≤ 1000000) (hp : p.length ≤ maxLen) :
    Calls Tryd.prog 31 #[.string (str k), .string (str p)] w fun e w' => e = .returned (.bool (p.isPrefixOf k)) ∧ w = w' := by
  have s1 := str_size k
  have s2 := str_size p
  unfold maxLen at hp
  by_cases h : p.length ≤ k.length
  · have h' : (p.length : Int) ≤ (k.length : Int) := by omega
    have hex : (str k).extract 0 p.length = str (k.take p.length) := by
      unfold str
      apply ByteArray.ext
      rw [ByteArray.data_extract]
      apply Array.ext'
      simp
    have HP : Hid (p.isPrefixOf k = ((str (k.take p.length)).toList == (str p).toList)) := by
      show _ = _
      rw [str_toList, str_toList, Bool.eq_iff_iff, List.isPrefixOf_iff_prefix, beq_iff_eq]
      constructor
      · intro h2; exact (List.prefix_iff_eq_take.1 h2).symm
      · intro h2; rw [← h2]; exact List.take_prefix _ _
    go_enter Tryd.func31, Tryd.ntmps31
    go_wp2
    go_ret
    exact ⟨by rw [HP.out]; rfl, rfl⟩
  · have h' : ¬ (p.length : Int) ≤ (k.length : Int) := by omega
    have HP : Hid (p.isPrefixOf k = false) := by
      show _ = _
      rw [Bool.eq_false_iff]
      intro e
      have := (List.isPrefixOf_iff_prefix.1 e).length_le
      omega
    go_enter Tryd.func31, Tryd.ntmps31
    go_wp2
    go_ret
    exact ⟨by rw [HP.out]; rfl, rfl⟩
theorem infoB8 : (Tryd.prog.info? 5).map (fun i => (i.zero, i.size, i.bytes)) = some (some (.int .u8 0), 1, 1) := by kernel_rfl
set_option maxRecDepth 8000 in
set_option maxHeartbeats 1600000 in
theorem clone_any (l : List UInt8) (w : World) (hl : l.length ≤ 1000000) :
    Calls Tryd.prog 64 #[.string ⟨l.toArray⟩] w fun e w' => e = .returned (.string ⟨l.toArray⟩) ∧ Below w.heap.size w w' := by
  have sz := str_size' l
  cases l with
  | nil =>
    go_enter Tryd.func64, Tryd.ntmps64
    go_wp2
    go_ret
    exact ⟨rfl, Below.refl _ _⟩
  | cons c r =>
    obtain ⟨i0, hi, hz0, hz1, hz2⟩ := info_parts infoB8
    have hne : (((c :: r).length : Int) == 0) = false := by rw [beq_eq_false_iff_ne]; simp only [List.length_cons]; omega
    obtain ⟨n, hn⟩ : ∃ n, (c :: r).length = n := ⟨_, rfl⟩
    have hmk := run_makeSlice (P := Tryd.prog) w 89 5 i0 (.int .u8 0) Tryd.underlying89 hi hz0 .i64 .i64 (n : Int) (n : Int) (by omega) (by omega) (by rw [hz1]; simp; omega) (by rw [hz2]; simp; omega) (by omega)
    rw [hz1, Nat.mul_one, Int.toNat_natCast, show (Value.int .u8 0).cells = #[.int .u8 0] from rfl] at hmk
    have k1 := Blk.new w (madeCells #[.int .u8 0] n) 5
    have bA : Below w.heap.size w (w.alloc (.cells (madeCells #[.int .u8 0] n) 5)) := (Below.refl _ _).alloc (Nat.le_refl _) _
    have hcp := Lib.run_copy_row_string (P := Tryd.prog) (w.alloc (.cells (madeCells #[.int .u8 0] n) 5)) 89 9 3 5 w.heap.size 0 n n ⟨(c :: r).toArray⟩ (madeCells #[.int .u8 0] n) 5 Tryd.underlying89 (by rw [hi]; simp [hz1]) k1 (by rw [sz]; omega) (by rw [sz, size_madeCells]; omega)
    rw [sz] at hcp
    have hlen : (madeCells #[.int .u8 0] n).toList.length = n := by rw [Array.length_toList, size_madeCells]
    have ecs : (List.take 0 (madeCells #[.int .u8 0] n).toList ++ Lib.byteCells (c :: r) ++ List.drop (0 + (c :: r).length) (madeCells #[.int .u8 0] n).toList) = Lib.byteCells (c :: r) := by
      rw [List.take_zero, List.nil_append, List.drop_of_length_le (by rw [hlen]; omega), List.append_nil]
    rw [show (⟨(c :: r).toArray⟩ : ByteArray).data.toList = c :: r from rfl, ecs] at hcp
    have HB : Hid ((w.alloc (.cells (madeCells #[.int .u8 0] n) 5)).setRow w.heap.size (Lib.byteCells (c :: r)).toArray = w.alloc (.cells (Lib.byteCells (c :: r)).toArray 5)) := by
      show _ = _
      unfold World.setRow World.alloc
      congr 1
      apply Array.ext
      · simp
      · intro i h1 h2
        simp only [Array.getElem_modify, Array.getElem_push]
        by_cases hi2 : w.heap.size = i
        · subst hi2
          simp
        · have : i < w.heap.size := by simp at h2; omega
          simp [hi2, this]
    generalize hl2 : c :: r = l at *
    have hcell : ∀ j x, l[j]? = some x → (w.alloc (.cells (Lib.byteCells l).toArray 5)).cell? ((⟨w.heap.size, 0, none⟩ : Addr).add j) = some (.int .u8 x.toNat) := by
      intro j x hx
      rw [show (⟨w.heap.size, 0, none⟩ : Addr).add j = ⟨w.heap.size, j, none⟩ by unfold Addr.add; split <;> simp_all]
      rw [(Blk.new w (Lib.byteCells l).toArray 5).cell]
      simp [Lib.byteCells, hx]
    have hus := Lib.run_unsafeString_row (P := Tryd.prog) (w.alloc (.cells (Lib.byteCells l).toArray 5)) 90 3 9 5 Tryd.underlying90 (by kernel_rfl) w.heap.size n (by
      have k2 := Blk.new w (Lib.byteCells l).toArray 5
      unfold Blk at k2
      simp only [World.shape?, k2]
      rw [show (Lib.byteCells l).toArray.size = n by simp [Lib.byteCells]; exact hn]) l (by rw [← hl2]; simp) (by omega) (by omega) hcell
    rw [HB.out] at hcp
    rw [hn] at hcp hus
    have hn0 : (0 : Int) < (n : Int) := by rw [← hn, ← hl2]; simp only [List.length_cons]; omega
    have bB : Below w.heap.size w ((w.alloc (.cells (Lib.byteCells l).toArray 5)).freeze ⟨w.heap.size, 0, none⟩ n) := Lib.below_freeze ((Below.refl _ _).alloc (Nat.le_refl _) _) (Nat.le_refl _) _
    rw [hn] at hne sz
    have HN : Hid (l.length = n) := hn
    clear hlen ecs k1 bA hcell hz0 hz1 hz2 hi hl hn hl2 HB
    go_enter Tryd.func64, Tryd.ntmps64
    go_wp2
    go_ret
    exact ⟨rfl, bB⟩
set_option maxHeartbeats 1600000 in
theorem sclone_any (l : List UInt8) (w : World) (hl : l.length ≤ 1000000) :
    Calls Tryd.prog 55 #[.string ⟨l.toArray⟩] w fun e w' => e = .returned (.string ⟨l.toArray⟩) ∧ Below w.heap.size w w' := by
  have K := clone_any l w hl
  go_enter Tryd.func55, Tryd.ntmps55
  go_wp2_with fail
  refine K.mono ?_
  rintro e w1 ⟨rfl, b1⟩
  go_wp2
  go_ret
  exact ⟨rfl, b1⟩
end Go.Proofs.YtgpjlocgkdlnlaaDoor

namespace Go.Proofs.YtgpjlocgkdlnlaaDoor
open Go.RowKit
set_option linter.unusedVariables false
set_option linter.unusedSimpArgs false

def isL (c : UInt8) : Bool := decide (97 ≤ c.toNat) && decide (c.toNat ≤ 122)
def isD (c : UInt8) : Bool := decide (48 ≤ c.toNat) && decide (c.toNat ≤ 57)
def goes (c : UInt8) : Bool := isL c || isD c || decide (c.toNat = 95)
def noNl (c : UInt8) : Bool := decide (c.toNat ≠ 10)
/-- How many of the bytes, from the first on, are such. -/
def spanN (f : UInt8 → Bool) : List UInt8 → Nat
  | [] => 0
  | c :: r => if f c then spanN f r + 1 else 0
theorem spanN_le (f : UInt8 → Bool) : ∀ s, spanN f s ≤ s.length
  | [] => Nat.le_refl _
  | c :: r => by
    unfold spanN
    split
    · have := spanN_le f r; simp; omega
    · simp
theorem spanN_at (f : UInt8 → Bool) : ∀ (s : List UInt8) (k : Nat), k ≤ s.length → (∀ i c, i < k → s[i]? = some c → f c = true) → (∀ c, s[k]? = some c → f c = false) → spanN f s = k
  | [], k, hk, _, _ => by simp at hk; subst hk; rfl
  | c :: r, 0, _, _, h => by
    have := h c rfl
    simp [spanN, this]
  | c :: r, k + 1, hk, ha, h => by
    have h0 := ha 0 c (by omega) rfl
    have := spanN_at f r k (by simpa using hk) (fun i d hi hd => ha (i + 1) d (by omega) (by simpa using hd)) (fun d hd => h d (by simpa using hd))
    simp [spanN, h0, this]
/-- What stands behind blanks, ends of lines and remarks. -/
def gap : Bool → List UInt8 → List UInt8
  | _, [] => []
  | false, c :: r => if c.toNat = 32 ∨ c.toNat = 10 then gap false r else if c.toNat = 35 then gap true r else c :: r
  | true, c :: r => if c.toNat = 10 then gap false r else gap true r
theorem gap_span : ∀ s : List UInt8, gap true s = gap false (s.drop (spanN noNl s))
  | [] => rfl
  | c :: r => by
    by_cases h : c.toNat = 10
    · simp [gap, spanN, noNl, h]
    · have ih := gap_span r
      simp [gap, spanN, noNl, h, ih]
theorem gap_len : ∀ (b : Bool) (s : List UInt8), (gap b s).length ≤ s.length
  | _, [] => by cases ‹Bool› <;> simp [gap]
  | false, c :: r => by
    have h1 := gap_len false r
    have h2 := gap_len true r
    unfold gap
    split
    · simp; omega
    · split
      · simp; omega
      · simp
  | true, c :: r => by
    have h1 := gap_len false r
    have h2 := gap_len true r
    unfold gap
    split <;> simp <;> omega
def wordL : List (List UInt8) := [[99, 111, 110, 116, 114, 97, 99, 116], [115, 108, 111, 116], [109, 97, 112], [102, 110], [111, 112, 101, 110], [108, 101, 116], [105, 102], [101, 108, 115, 101], [119, 104, 105, 108, 101], [114, 101, 116, 117, 114, 110], [110, 101, 101, 100], [112, 97, 121], [110, 111, 116, 101], [97, 115, 107], [118, 97, 108, 117, 101], [103, 97, 115], [116, 114, 117, 101], [102, 97, 108, 115, 101], [115, 101, 108, 102], [99, 97, 108, 108, 101, 114], [104, 101, 105, 103, 104, 116], [98, 97, 108, 97, 110, 99, 101], [119, 104, 111], [110, 117, 109], [102, 108, 97, 103], [111, 114], [97, 110, 100], [110, 111, 116]]
def signL : List (List UInt8) := [[45, 62], [61, 61], [33, 61], [60, 61], [62, 61], [123], [125], [40], [41], [91], [93], [59], [58], [44], [46], [61], [60], [62], [43], [45], [42], [47], [37]]
inductive Tok where
  | none
  | fin
  | name (s : List UInt8)
  | num (n : Int)
  | fixed (s : List UInt8)
deriving DecidableEq
def wordOf (s : List UInt8) : Tok := if wordL.contains s then .fixed s else if s.length ≤ 16 then .name s else .none
def val10 (s : List UInt8) : Int := s.foldl (fun n c => 10 * n + ((c.toNat : Int) - 48)) 0
def numberOf (s : List UInt8) : Tok := if 1 < s.length ∧ s.head? = some 48 then .none else if 1099511627775 < val10 s then .none else .num (val10 s)
def signOf (s : List UInt8) : Tok × List UInt8 :=
  match signL.find? (fun g => decide (s.take g.length = g)) with
  | some g => (.fixed g, s.drop g.length)
  | none => (.none, s)
def cutT : List UInt8 → Tok × List UInt8
  | [] => (.fin, [])
  | c :: r =>
    if isL c then (wordOf ((c :: r).take (spanN goes (c :: r))), (c :: r).drop (spanN goes (c :: r)))
    else if isD c then (numberOf ((c :: r).take (spanN isD (c :: r))), (c :: r).drop (spanN isD (c :: r)))
    else signOf (c :: r)
def Tok.class : Tok → Int
  | .none => 0
  | .fin => 1
  | .name _ => 2
  | .num _ => 3
  | .fixed _ => 4
def Tok.text : Tok → List UInt8
  | .name s => s
  | .fixed s => s
  | _ => []
def Tok.n : Tok → Int
  | .num n => n
  | _ => 0
def Tok.vals (t : Tok) : List Value := [.int .i64 t.class, .string (str t.text), .int .i64 t.n]
end Go.Proofs.YtgpjlocgkdlnlaaDoor
