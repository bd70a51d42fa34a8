import Derived.Test.YtpofgnlkhkednaaGreatDoorM21
namespace Go.Proofs.YtpofgnlkhkednaaGreatDoor
open Go.RowKit
set_option linter.unusedVariables false
set_option linter.unusedSimpArgs false
set_option maxRecDepth 20000
set_option maxHeartbeats 8000000
variable {P : Program} {md : Region.Mode} {ops : Array Oper} {Q : Exit → Act → World → Prop} {S T : World → Prop} {m : Nat}
def wpAnyM (P : Program) (md : Region.Mode) (ops : Array Oper) (Q : Exit → Act → World → Prop) (S : World → Prop) (m : Nat) : Nat → Array Bool → Act → World → Prop
 | 0, ls, a, w => Region.ready md ops ls = [] ∧ Q .normal a w
 | n + 1, ls, a, w => (Region.ready md ops ls = [] → Q .normal a w) ∧
   ∀ i ∈ Region.ready md ops ls, wpOp P ops Q i (fun a' w' => ((ls.setIfInBounds i true).getD m true = false → S w') ∧ wpAnyM P md ops Q S m n (ls.setIfInBounds i true) a' w') a w
theorem wpAny_of_M : ∀ (n : Nat) (ls : Array Bool) (a : Act) (w : World), wpAnyM P md ops Q S m n ls a w → wpAny P md ops Q n ls a w
 | 0, _, _, _, h => h
 | n + 1, _, _, _, h => ⟨h.1, fun i hi => wpOp_mono (fun a' w' h' => wpAny_of_M n _ a' w' h'.2) (h.2 i hi)⟩
theorem unlisted {ls : Array Bool} {i : Nat} (h : ls.getD i true = false) : ls.getD i false = false := by
 rcases Nat.lt_or_ge i ls.size with h' | h'
 ·simp [h'] at h ⊢; exact h
 ·simp [Array.getElem?_eq_none h']
def waits (md : Region.Mode) (ops : Array Oper) (m i : Nat) : Prop := ∃ om, ops[m]? = some om ∧ ∃ e ∈ om.after, Region.binds md e = true ∧ e.on = i
theorem wpAnyM_first {i : Nat} {oi : Oper} {v : Value} (hi : ops[i]? = some oi) (hsel : ∀ (j : Nat) (o : Oper) cs b, ops[j]? = some o → o.op ≠ .select cs b)
  (hQ : ∀ c a w, Q (.panic c) (a.put oi.dst v) w → Q (.panic c) a w) (him : i ≠ m) :
  ∀ (n : Nat) (ls : Array Bool) (a : Act) (w : World), (∀ w, T w) ∨ ((∀ w, S w → T w) ∧ waits md ops m i ∧ ls.getD m true = false) →
   (∀ j oj, ops[j]? = some oj → j ≠ i → ls.getD j true = false → (∀ e ∈ oj.after, Region.binds md e = true → e.on ≠ i) → oi.apart ops oj = true) →
   i ∈ Region.ready md ops ls → YieldsIf P ops T oi v a → (ls.getD m true = false → S w) →
   wpAnyM P md ops Q S m n (ls.setIfInBounds i true) (a.put oi.dst v) w → wpAnyM P md ops Q S m (n + 1) ls a w := by
 have hTw : ∀ (ls : Array Bool) (w : World), ((∀ w, T w) ∨ ((∀ w, S w → T w) ∧ waits md ops m i ∧ ls.getD m true = false)) → (ls.getD m true = false → S w) → T w := by
  intro ls w h hS;rcases h with h | ⟨h, _, h2⟩
  ·exact h w
  ·exact h w (hS h2)
 have self : ∀ (n : Nat) (ls : Array Bool) (a : Act) (w : World), ((∀ w, T w) ∨ ((∀ w, S w → T w) ∧ waits md ops m i ∧ ls.getD m true = false)) → YieldsIf P ops T oi v a → (ls.getD m true = false → S w) → wpAnyM P md ops Q S m n (ls.setIfInBounds i true) (a.put oi.dst v) w →
   wpOp P ops Q i (fun a' w' => ((ls.setIfInBounds i true).getD m true = false → S w') ∧ wpAnyM P md ops Q S m n (ls.setIfInBounds i true) a' w') a w := by
  intro n ls a w hT hy hS H;refine hy.wpOp hi (hTw ls w hT hS) ⟨fun h => hS ?_, H⟩;rw [getD_set_ne true him] at h;exact h
 intro n
 induction n with
 | zero =>
  intro ls a w hT _ hr hy hS H;refine ⟨fun h => (by rw [h] at hr; cases hr), fun j hj => ?_⟩
  by_cases hji : j = i
  ·subst hji; exact self 0 ls a w hT hy hS H
  ·have := ready_mono hj hji;rw [H.1] at this;cases this
 | succ n ih =>
  intro ls a w hT hfree hr hy hS H;refine ⟨fun h => (by rw [h] at hr; cases hr), fun j hj => ?_⟩
  by_cases hji : j = i
  ·subst hji; exact self (n + 1) ls a w hT hy hS H
  ·have h1 := H.2 j (ready_mono hj hji);obtain ⟨hjun, oj, hoj, hall⟩ := mem_ready.1 hj;have hiun := unlisted (mem_ready.1 hr).1
   have hnot : ∀ e ∈ oj.after, Region.binds md e = true → e.on ≠ i := fun e he hb heq => by
    have h1 := hall e he hb;rw [heq, hiun] at h1;cases h1
   have hT' : (∀ w, T w) ∨ ((∀ w, S w → T w) ∧ waits md ops m i ∧ (ls.setIfInBounds j true).getD m true = false) := by
    rcases hT with hT | ⟨hT, hw, hl⟩
    ·exact .inl hT
    ·refine .inr ⟨hT, hw, ?_⟩
     have hjm : j ≠ m := by
      intro e;subst e;obtain ⟨om, hom, e, he, hb, heq⟩ := hw;rw [hoj] at hom;exact hnot e (Option.some.inj hom ▸ he) hb heq
     rw [getD_set_ne true hjm];exact hl
   have h2 := wpOp_putIf hoj (hfree j oj hoj hji hjun hnot) (fun cs b => hsel i oi cs b hi) (fun cs b => hsel j oj cs b hoj) hQ hy h1;refine wpOp_mono (fun a' w' h3 => ?_) h2;obtain ⟨hy', hS', H'⟩ := h3;have hS2 : (ls.setIfInBounds j true).getD m true = false → S w' := fun h => hS' (by rw [Array.setIfInBounds_comm _ _ (Ne.symm hji), getD_set_ne true him]; exact h);refine ⟨hS2, ih (ls.setIfInBounds j true) a' w' hT' (fun k ok hk hki hun hno => hfree k ok hk hki ?_ hno) (ready_mono hr (Ne.symm hji)) hy' hS2 ?_⟩
   ·by_cases hjk : j = k
    ·subst hjk; exact hjun
    ·rw [getD_set_ne true hjk] at hun; exact hun
   ·rw [Array.setIfInBounds_comm _ _ hji];exact H'
theorem wpAnyM_take {i : Nat} {oi : Oper} {v : Value} {n : Nat} {ls : Array Bool} {a : Act} {w : World} (hi : ops[i]? = some oi)
  (hs : Region.noSelect ops = true) (hf : Region.free md ops ls i = true) (hr : (Region.ready md ops ls).contains i = true)
  (hm : (match ops[m]? with | some om => om.after.any (fun e => Region.binds md e && e.on == i) | none => false) = true) (him : i ≠ m) (hl : ls.getD m true = false)
  (hQ : ∀ c a w, Q (.panic c) (a.put oi.dst v) w → Q (.panic c) a w) (hy : YieldsIf P ops S oi v a) (hS : S w)
  (h : wpAnyM P md ops Q S m n (ls.setIfInBounds i true) (a.put oi.dst v) w) : wpAnyM P md ops Q S m (n + 1) ls a w := by
 have hw : waits md ops m i := by
  cases hom : ops[m]? with
  | none => rw [hom] at hm; cases hm
  | some om =>
   rw [hom] at hm;obtain ⟨e, he, hb⟩ := Array.any_eq_true'.1 hm;rw [Bool.and_eq_true] at hb;exact ⟨om, hom, e, he, hb.1, by simpa using hb.2⟩
 exact wpAnyM_first (T := S) hi (Region.noSelect_spec hs) hQ him n ls a w (.inr ⟨fun _ h => h, hw, hl⟩) (Region.free_spec hi hf) (by simpa using hr) hy (fun _ => hS) h
theorem wpAnyM_pure {i : Nat} {oi : Oper} {v : Value} {n : Nat} {ls : Array Bool} {a : Act} {w : World} (hi : ops[i]? = some oi)
  (hs : Region.noSelect ops = true) (hf : Region.free md ops ls i = true) (hr : (Region.ready md ops ls).contains i = true) (him : i ≠ m)
  (hQ : ∀ c a w, Q (.panic c) (a.put oi.dst v) w → Q (.panic c) a w) (hy : YieldsIf P ops (fun _ => True) oi v a) (hS : S w)
  (h : wpAnyM P md ops Q S m n (ls.setIfInBounds i true) (a.put oi.dst v) w) : wpAnyM P md ops Q S m (n + 1) ls a w :=
 wpAnyM_first (T := fun _ => True) hi (Region.noSelect_spec hs) hQ him n ls a w (.inl fun _ => trivial) (Region.free_spec hi hf) (by simpa using hr) hy (fun _ => hS) h
theorem wpAnyM_one {i : Nat} {n : Nat} {ls : Array Bool} {a : Act} {w : World} (hr : Region.ready md ops ls = [i])
  (h : wpOp P ops Q i (fun a' w' => ((ls.setIfInBounds i true).getD m true = false → S w') ∧ wpAnyM P md ops Q S m n (ls.setIfInBounds i true) a' w') a w) : wpAnyM P md ops Q S m (n + 1) ls a w := by
 refine ⟨fun h0 => ?_, fun j hj => ?_⟩
 ·rw [hr] at h0; cases h0
 ·rw [hr] at hj; rw [List.mem_singleton.1 hj]; exact h
theorem wpAnyM_done {ls : Array Bool} {a : Act} {w : World} (hr : Region.ready md ops ls = []) (h : Q .normal a w) : ∀ n, wpAnyM P md ops Q S m n ls a w
 | 0 => ⟨hr, h⟩
 | _ + 1 => ⟨fun _ => h, by rw [hr]; simp⟩
theorem wp_region_late {id : Nat} {a : Act} {w : World} (S : World → Prop) (m : Nat) (hx : P.follows .mixedOrders = true)
  (h : wpAnyM P .any ops Q S m ops.size (Array.replicate ops.size false) a w.drew) : (Code.region id ops true).wp P Q a w :=
 wp_region_any hx (wpAny_of_M _ _ _ _ h)
section
variable {P : Program} {md : Region.Mode} {ops : Array Oper} {Q : Exit → Act → World → Prop} {S : World → Prop} {a : Act} {w w0 : World} {o : Oper} {N m : Nat} {L : List (Nat × Value)} {fuel : Nat} {listed : Array Bool}
theorem sm_val (F : Fm N L a) (i : Nat) {d : Nat} {v : Value} (hi : ops[i]? = some o) (hs : Region.noSelect ops = true) (hf : Region.free md ops listed i = true) (hr : (Region.ready md ops listed).contains i = true) (him : Nat.beq i m = false) (hQ : ∀ c a w, Q (.panic c) (a.put (some d) v) w → Q (.panic c) a w)
  (hd : o.dst = some d) (hg : o.guard = none) (hb : Nat.blt d N = true) (hy : ∀ w, (execOp a.eval o).run P w = .ok (.value v) w) (hS : S w) (K : ∀ a', Fm N ((d, v) :: L) a' → wpAnyM P md ops Q S m fuel (listed.setIfInBounds i true) a' w) : wpAnyM P md ops Q S m (fuel + 1) listed a w :=
 wpAnyM_pure hi hs hf hr (fun e => by subst e; rw [Nat.beq_refl] at him; cases him) (fun c a w => by rw [hd]; exact hQ c a w) (.inl ⟨by unfold Region.wanted; rw [hg], fun w _ => hy w⟩) hS (by rw [hd]; exact K _ (F.put hb))
theorem sm_move (F : Fm N L a) (i : Nat) {d : Nat} {x : Operand} {v : Value} (hi : ops[i]? = some o) (h : Is o (some d) (.move x)) (hv : opv L x = some v) (hs : Region.noSelect ops = true) (hf : Region.free md ops listed i = true) (hr : (Region.ready md ops listed).contains i = true) (him : Nat.beq i m = false) (hQ : ∀ c a w, Q (.panic c) (a.put (some d) v) w → Q (.panic c) a w)
  (hb : Nat.blt d N = true) (hS : S w) (K : ∀ a', Fm N ((d, v) :: L) a' → wpAnyM P md ops Q S m fuel (listed.setIfInBounds i true) a' w) : wpAnyM P md ops Q S m (fuel + 1) listed a w :=
 sm_val F i hi hs hf hr him hQ h.1 h.2.2 hb (fun w => by unfold execOp; rw [h.2.1]; simp only [F.ev hv]; rfl) hS K
theorem sm_nil (F : Fm N L a) (i : Nat) {d : Nat} {x : Operand} {p : Addr} (hi : ops[i]? = some o) (h : Is o (some d) (.nilCheck x)) (hv : opv L x = some (.pointer (some p))) (hs : Region.noSelect ops = true) (hf : Region.free md ops listed i = true) (hr : (Region.ready md ops listed).contains i = true) (him : Nat.beq i m = false) (hQ : ∀ c a w, Q (.panic c) (a.put (some d) (.pointer (some p))) w → Q (.panic c) a w)
  (hb : Nat.blt d N = true) (hS : S w) (K : ∀ a', Fm N ((d, .pointer (some p)) :: L) a' → wpAnyM P md ops Q S m fuel (listed.setIfInBounds i true) a' w) : wpAnyM P md ops Q S m (fuel + 1) listed a w :=
 sm_val F i hi hs hf hr him hQ h.1 h.2.2 hb (fun w => by unfold execOp; rw [h.2.1]; simp only [F.ev hv]; rfl) hS K
theorem sm_fld (F : Fm N L a) (i n : Nat) {d s k b f e : Nat} {x : Operand} (hi : ops[i]? = some o) (h : Is o (some d) (.fieldAddr s x k)) (hv : opv L x = some (.pointer (some ⟨b, f, none⟩))) (hn : fldOff P s k = some n) (hm : f + n = e) (hs : Region.noSelect ops = true) (hf : Region.free md ops listed i = true) (hr : (Region.ready md ops listed).contains i = true) (him : Nat.beq i m = false) (hQ : ∀ c a w, Q (.panic c) (a.put (some d) (.pointer (some ⟨b, e, none⟩))) w → Q (.panic c) a w)
  (hb : Nat.blt d N = true) (hS : S w) (K : ∀ a', Fm N ((d, .pointer (some ⟨b, e, none⟩)) :: L) a' → wpAnyM P md ops Q S m fuel (listed.setIfInBounds i true) a' w) : wpAnyM P md ops Q S m (fuel + 1) listed a w := by
 subst hm;exact sm_val F i hi hs hf hr him hQ h.1 h.2.2 hb (fun w => by unfold execOp; rw [h.2.1]; simp only [F.ev hv]; simp [Sem.run_bind, run_fldo hn]) hS K
def waitsB (md : Region.Mode) (ops : Array Oper) (m i : Nat) : Bool := match ops[m]? with | some om => om.after.any (fun e => Region.binds md e && e.on == i) | none => false
theorem sm_cell (F : Fm N L a) (i : Nat) {d : Nat} {t : TypeId} {x : Operand} {b n : Nat} {v : Value} (hi : ops[i]? = some o) (h : Is o (some d) (.load t x)) (hv : opv L x = some (.pointer (some ⟨b, n, none⟩))) (ht : cellT P t = true) (hc : ∀ w, S w → w.cell? ⟨b, n, none⟩ = some v) (hwt : (waitsB md ops m i && !(listed.getD m true)) = true) (hs : Region.noSelect ops = true) (hf : Region.free md ops listed i = true) (hr : (Region.ready md ops listed).contains i = true) (him : Nat.beq i m = false) (hQ : ∀ c a w, Q (.panic c) (a.put (some d) v) w → Q (.panic c) a w)
  (hb : Nat.blt d N = true) (hS : S w) (K : ∀ a', Fm N ((d, v) :: L) a' → wpAnyM P md ops Q S m fuel (listed.setIfInBounds i true) a' w) : wpAnyM P md ops Q S m (fuel + 1) listed a w := by
 obtain ⟨ds, hu, hd⟩ := cellT_out ht;rw [Bool.and_eq_true] at hwt;exact wpAnyM_take hi hs hf hr hwt.1 (fun e => by subst e; rw [Nat.beq_refl] at him; cases him) (by simpa using hwt.2) (fun c a w => by rw [h.1]; exact hQ c a w) (.inl ⟨by unfold Region.wanted; rw [h.2.2], fun w hw => run_cell h.2.1 (F.ev hv) (hc w hw) hu hd⟩) hS (by rw [h.1]; exact K _ (F.put hb))
theorem sm_one (i : Nat) (hi : ops[i]? = some o) (hr : Region.ready md ops listed = [i]) (hg : o.guard = none) (h : wpList P ops (Exit.then (fun a w => ((listed.setIfInBounds i true).getD m true = false → S w) ∧ wpAnyM P md ops Q S m fuel (listed.setIfInBounds i true) a w) Q) [o] a w) : wpAnyM P md ops Q S m (fuel + 1) listed a w :=
 wpAnyM_one hr (by
  have hw : ∀ t, Region.wanted o t = true := fun t => by simp [Region.wanted, hg]
  unfold wpList at h;rw [if_pos (hw _)] at h;unfold wpOp;simp only [hi];rw [if_pos (hw _)];rcases h with h | ⟨h1, h2⟩
  ·exact .inl (oper_then h)
  ·exact .inr ⟨h1, h2⟩)
end
section
variable {P : Program} {ops : Array Oper} {Q : Exit → Act → World → Prop} {a : Act} {w w0 : World} {rest : List Oper} {o : Oper} {N : Nat} {L : List (Nat × Value)}
variable {i t u : Nat} {x y : Operand} {k : IntKind} {m n : Int}
theorem sw_lss (F : Fm N L a) (h : Is o (some i) (.binOp .lss t x y u)) (h1 : opv L x = some (.int k m)) (h2 : opv L y = some (.int k n)) (hi : Nat.blt i N = true) (K : ∀ a', Fm N ((i, .bool (decide (m < n))) :: L) a' → wpList P ops Q rest a' w) : wpList P ops Q (o :: rest) a w :=
 sw_val F h.1 h.2.2 hi (by unfold execOp; rw [h.2.1]; simp [F.ev h1, F.ev h2, eqGuard_at_int, binOp_lss]) K
theorem sw_leq (F : Fm N L a) (h : Is o (some i) (.binOp .leq t x y u)) (h1 : opv L x = some (.int k m)) (h2 : opv L y = some (.int k n)) (hi : Nat.blt i N = true) (K : ∀ a', Fm N ((i, .bool (decide (m ≤ n))) :: L) a' → wpList P ops Q rest a' w) : wpList P ops Q (o :: rest) a w :=
 sw_val F h.1 h.2.2 hi (by unfold execOp; rw [h.2.1]; simp [F.ev h1, F.ev h2, eqGuard_at_int, binOp_leq]) K
theorem sw_gtr (F : Fm N L a) (h : Is o (some i) (.binOp .gtr t x y u)) (h1 : opv L x = some (.int k m)) (h2 : opv L y = some (.int k n)) (hi : Nat.blt i N = true) (K : ∀ a', Fm N ((i, .bool (decide (n < m))) :: L) a' → wpList P ops Q rest a' w) : wpList P ops Q (o :: rest) a w :=
 sw_val F h.1 h.2.2 hi (by unfold execOp; rw [h.2.1]; simp [F.ev h1, F.ev h2, eqGuard_at_int, binOp_gtr]) K
theorem sw_geq (F : Fm N L a) (h : Is o (some i) (.binOp .geq t x y u)) (h1 : opv L x = some (.int k m)) (h2 : opv L y = some (.int k n)) (hi : Nat.blt i N = true) (K : ∀ a', Fm N ((i, .bool (decide (n ≤ m))) :: L) a' → wpList P ops Q rest a' w) : wpList P ops Q (o :: rest) a w :=
 sw_val F h.1 h.2.2 hi (by unfold execOp; rw [h.2.1]; simp [F.ev h1, F.ev h2, eqGuard_at_int, binOp_geq]) K
theorem sw_eql (F : Fm N L a) (h : Is o (some i) (.binOp .eql t x y u)) (h1 : opv L x = some (.int k m)) (h2 : opv L y = some (.int k n)) (hi : Nat.blt i N = true) (K : ∀ a', Fm N ((i, .bool (m == n)) :: L) a' → wpList P ops Q rest a' w) : wpList P ops Q (o :: rest) a w :=
 sw_val F h.1 h.2.2 hi (by unfold execOp; rw [h.2.1]; simp [F.ev h1, F.ev h2, eqGuard_at_int, binOp_eql]) K
theorem sw_neq (F : Fm N L a) (h : Is o (some i) (.binOp .neq t x y u)) (h1 : opv L x = some (.int k m)) (h2 : opv L y = some (.int k n)) (hi : Nat.blt i N = true) (K : ∀ a', Fm N ((i, .bool (m != n)) :: L) a' → wpList P ops Q rest a' w) : wpList P ops Q (o :: rest) a w :=
 sw_val F h.1 h.2.2 hi (by unfold execOp; rw [h.2.1]; simp [F.ev h1, F.ev h2, eqGuard_at_int, binOp_neq]) K
theorem sw_subw (F : Fm N L a) (h : Is o (some i) (.binOp .sub t x y u)) (h1 : opv L x = some (.int k m)) (h2 : opv L y = some (.int k n)) (hi : Nat.blt i N = true) (K : ∀ a', Fm N ((i, .int k (k.wrap (m - n))) :: L) a' → wpList P ops Q rest a' w) : wpList P ops Q (o :: rest) a w :=
 sw_val F h.1 h.2.2 hi (by unfold execOp; rw [h.2.1]; simp [F.ev h1, F.ev h2, eqGuard_at_int, binOp_sub, Op.intArith]) K
theorem sw_seq2 (F : Fm N L a) {s r : Key} (h : Is o (some i) (.binOp .eql t x y u)) (h1 : opv L x = some (.string (str s))) (h2 : opv L y = some (.string (str r))) (hi : Nat.blt i N = true) (K : ∀ a', Fm N ((i, .bool (s == r)) :: L) a' → wpList P ops Q rest a' w) : wpList P ops Q (o :: rest) a w :=
 sw_val F h.1 h.2.2 hi (by
  unfold execOp; rw [h.2.1]; simp [F.ev h1, F.ev h2, eqGuard_at_string, binOp, Op.stringOp, str_toList]) K
theorem sw_slen (F : Fm N L a) {s : Key} (h : Is o (some i) (.call { callee := .builtin .len, args := #[x], argTypes := #[t] })) (h1 : opv L x = some (.string (str s))) (hu : P.underlying t = some .string) (hi : Nat.blt i N = true) (K : ∀ a', Fm N ((i, .int .i64 s.length) :: L) a' → wpList P ops Q rest a' w) : wpList P ops Q (o :: rest) a w :=
 sw_val F h.1 h.2.2 hi (by unfold execOp; rw [h.2.1]; simp [resolve, F.ev h1, invoke, builtin, Builtin.len_, run_underlying hu, goInt, str_size]) K
theorem sw_index (F : Fm N L a) {s : Key} {j : Nat} {c : UInt8} (h : Is o (some i) (.index t x y)) (h1 : opv L x = some (.string (str s))) (h2 : opv L y = some (.int .i64 j)) (hc : s[j]? = some c) (hu : P.underlying t = some .string) (hi : Nat.blt i N = true) (K : ∀ a', Fm N ((i, .int .u8 c.toNat) :: L) a' → wpList P ops Q rest a' w) : wpList P ops Q (o :: rest) a w :=
 sw_val F h.1 h.2.2 hi (by
  have hj : j < s.length := (List.getElem?_eq_some_iff.1 hc).1
  have e : (str s)[j]? = some c := by
   rw [getElem?_pos (str s) j (by rw [str_size]; exact hj), str_get s j hj];exact hc ▸ (List.getElem?_eq_getElem hj).symm ▸ rfl
  unfold execOp; rw [h.2.1]; simp [F.ev h1, F.ev h2, Instr.index, asIntOf, run_underlying hu, e]) K
theorem sd_build {md : Region.Mode} {S : World → Prop} {fuel : Nat} {listed : Array Bool} (F : Fm N L a) (j : Nat) {d : Nat} {t : TypeId} {ps : Array (Nat × Operand)} (vs : List Value) (Z : List Value) (hj : ops[j]? = some o) (h : Is o (some d) (.build t ps)) (hv : opvs L (ps.toList.map (·.2)) = some vs) (hb : P.built t ((ps.toList.map (·.1)).zip vs) = some Z.toArray) (hs : Region.noSelect ops = true) (hf : Region.free md ops listed j = true) (hr : (Region.ready md ops listed).contains j = true) (hQ : ∀ c a w, Q (.panic c) (a.put (some d) (.agg Z.toArray)) w → Q (.panic c) a w)
  (hi : Nat.blt d N = true) (hS : S w) (K : ∀ a', Fm N ((d, .agg Z.toArray) :: L) a' → wpAnyH P md ops Q S fuel (listed.setIfInBounds j true) a' w) : wpAnyH P md ops Q S (fuel + 1) listed a w := by
 have e := F.evs hv
 have e2 : (ps.map fun q => (q.1, a.eval q.2)).toList = (ps.toList.map (·.1)).zip vs := by
  rw [Array.toList_map, ← e, List.map_map];generalize ps.toList = l
  induction l with
  | nil => rfl
  | cons q r ih => simp only [List.map_cons, List.zip_cons_cons, ih]; rfl
 refine sd_val F j hj hs hf hr hQ h.1 h.2.2 hi (fun w _ => ?_) hS K;unfold execOp;rw [h.2.1];simp only;rw [Sem.run_bind, run_build w t _ Z.toArray (by rw [e2]; exact hb)];rfl
theorem sw_setX (F : Fm N L a) {b : Nat} {us cs : List Value} {ty : TypeId} (h : Is o none (.store t x y)) (hx : opv L x = some (.pointer (some ⟨b, 0, none⟩))) (hv : opv L y = some (.agg us.toArray)) (kb : Blk w b cs.toArray ty) (hi : (P.info? t).map (·.size) = some us.length) (hl : us.length = cs.length) (h1 : (us.all fun u => u.oneCell') = true) (K : ∀ w', But (fun k => k = b) w w' → Blk w' b us.toArray ty → wpList P ops Q rest a w') : wpList P ops Q (o :: rest) a w := by
 refine ol_store h.2.2 h.1 h.2.1 (F.ev hx) (F.ev hv) (v := .agg us.toArray) ?_ ?_ ?_ ?_
 ·exact kb.thereAt 0 _ (by show 0 + us.toArray.size ≤ _; simp; omega)
 ·rw [hi]; simp [Value.cells]
 ·intro u hu;have : u ∈ us := by simpa [Value.cells] using hu
  exact List.all_eq_true.1 h1 u this
 ·have e : (Value.agg us.toArray).cells.toList = us := by simp [Value.cells]
  rw [e];have := kb.putCells us 0 _ _;rw [putAt_all (by simp [hl])] at this;exact K _ (but_cells b us 0 w) this
theorem sw_ret2 (F : Fm N L a) {fn : Func} {j b : Nat} {v : Value} {cs : Array Value} {ty : TypeId} {R : Ending → World → Prop} (hres : fn.results = #[.cell i t, .tmp j]) (hi : lk i L = some (ptr b)) (hj : lk j L = some v) (kb : Blk w b cs ty) (ht : rowT P t = true) (hz : (P.info? t).map (·.size) = some cs.size) (hR : R (.returned (.tuple #[.agg cs, v])) w) : bodyPost P fn R .ret a w := by
 obtain ⟨d, hu, hd⟩ := rowT_out ht;have hld := run_loadVar_mid (P := P) w b 0 t cs.toList d kb.range hu hd (by rw [hz]; simp);rw [Array.toArray_toList] at hld
 have at_ : ∀ q u, lk q L = some u → a.tmps[q]?.getD undef = u := fun q u hq => by
  have := F.2.2 q _ hq;unfold Act.eval at this;rw [← Array.getD_eq_getD_getElem?];exact this
 refine bodyPost_ret (v := .tuple #[.agg cs, v]) ?_ F.2.1 hR;simp [results, hres, asAddr, at_ i _ hi, at_ j _ hj, ptr, hld]
end
end Go.Proofs.YtpofgnlkhkednaaGreatDoor
