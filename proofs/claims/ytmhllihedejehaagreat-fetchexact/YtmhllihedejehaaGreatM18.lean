/- The answer's: is it a node of a tree, whichever? -/
import Derived.Test.YtmhllihedejehaaGreatFMay
import Derived.Test.YtmhllihedejehaaGreatM17
import Derived.OrdersHeld
import Derived.WalkKit

namespace Go.Proofs.YtmhllihedejehaaGreat
open Go.RowKit
set_option linter.unusedVariables false
set_option linter.unusedSimpArgs false

set_option maxRecDepth 8000 in
set_option maxHeartbeats 6400000 in
theorem rnodeMay_any (k : Int) (key val : Key) (pos l r : Int) (w : World) (hk : key.length ≤ maxLen) (hv : val.length ≤ maxLen) :
    Calls Tryz.prog 35 #[.agg #[.int .i64 k, .string (str key), .string (str val), .int .i64 pos, .int .u64 l, .int .u64 r]] w fun e w' => e = .returned (.bool (mayN k key val pos l r)) ∧ Below w.heap.size w w' := by
  have s1 := str_toList key
  have s2 := str_toList val
  have z1 := str_size key
  have z2 := str_size val
  unfold maxLen at hk hv
  by_cases h2 : k = 2
  · subst h2
    go_enter Tryz.func35, Tryz.ntmps35
    go_wp2
    all_goals
      go_ret
      refine ⟨?_, (Below.refl _ _).alloc (Nat.le_refl _) _⟩
      first
      | (simp_all [mayN]; done)
      | (simp_all [mayN]; omega)
  · have h2' : (k == 2) = false := by simpa using h2
    by_cases h1 : k = 1
    · subst h1
      go_enter Tryz.func35, Tryz.ntmps35
      go_wp2
      all_goals
        go_ret
        refine ⟨?_, (Below.refl _ _).alloc (Nat.le_refl _) _⟩
        first
        | (simp_all [mayN]; done)
        | (simp_all [mayN]; omega)
        | (simp_all [mayN]; cases val <;> first | (simp_all; done) | (simp_all; omega) | (simp at *; omega) | (rw [Bool.eq_iff_iff]; simp_all; omega))
    · have h1' : (k == 1) = false := by simpa using h1
      by_cases h0 : k = 0
      · subst h0
        go_enter Tryz.func35, Tryz.ntmps35
        go_wp2
        all_goals
          go_ret
          refine ⟨?_, (Below.refl _ _).alloc (Nat.le_refl _) _⟩
          first
          | (simp_all [mayN]; done)
          | (simp_all [mayN]; cases val <;> rfl)
          | (simp_all [mayN]; cases val <;> simp)
      · have h0' : (k == 0) = false := by simpa using h0
        go_enter Tryz.func35, Tryz.ntmps35
        go_wp2
        all_goals
          go_ret
          refine ⟨?_, (Below.refl _ _).alloc (Nat.le_refl _) _⟩
          simp_all [mayN]
end Go.Proofs.YtmhllihedejehaaGreat

namespace Go.Proofs.YtmhllihedejehaaGreat
open Go.RowKit
set_option linter.unusedVariables false
set_option linter.unusedSimpArgs false

/-- What is wanted, a cell behind the other. -/
def flatW : List (Key × Int) → List Value
  | [] => []
  | x :: r => .string (str x.1) :: .int .u64 x.2 :: flatW r
theorem flatW_app : ∀ (l m : List (Key × Int)), flatW (l ++ m) = flatW l ++ flatW m
  | [], m => rfl
  | x :: r, m => by simp only [List.cons_append, flatW, flatW_app r m]
theorem flatW_len : ∀ (l : List (Key × Int)), (flatW l).length = l.length * 2
  | [] => rfl
  | x :: r => by simp only [flatW, List.length_cons, flatW_len r]; omega
theorem flatW_get : ∀ (l : List (Key × Int)) (i : Nat) (h : i < l.length), (flatW l)[i * 2]? = some (.string (str l[i].1)) ∧ (flatW l)[i * 2 + 1]? = some (.int .u64 l[i].2)
  | x :: r, 0, h => ⟨rfl, rfl⟩
  | x :: r, i + 1, h => by
    have := flatW_get r i (by simpa using h)
    have e : (i + 1) * 2 = i * 2 + 1 + 1 := by omega
    rw [e]
    simpa [flatW] using this
/-- A list of ints, a cell behind the other. -/
def flatI (l : List Int) : List Value := l.map fun x => .int .i64 x

/-- The answer's record. -/
structure RFet (w : World) (base gb : Nat) (wd root : Int) (L : List (Key × Int)) (o : Option Tr) (bar : List Int) (vL vB : Value) (li : Option Addr) (ci : Nat) : Prop where
  k : Blk w gb #[.int .i64 wd, .int .u64 root, vL, .int .i64 wd, .slice li (itemsO o).length ci, vB] 55
  wl : w.ownsRow base 81 2 vL L.length (flatW L)
  wb : w.ownsRow base 3 1 vB bar.length (flatI bar)
theorem RFet.lt {w : World} {base gb : Nat} {wd root : Int} {L : List (Key × Int)} {o : Option Tr} {bar : List Int} {vL vB : Value} {li : Option Addr} {ci : Nat} (h : RFet w base gb wd root L o bar vL vB li ci) : gb < w.heap.size := h.k.lt
theorem row_keep {w w' : World} {base : Nat} {e : TypeId} {size : Nat} {v : Value} {n : Nat} {xs : List Value} (h : w.ownsRow base e size v n xs) (hk : ∀ k cs, Blk w k cs e → Blk w' k cs e) : w'.ownsRow base e size v n xs := by
  refine ⟨h.1, ?_⟩
  rcases h.2 with q | ⟨g, cap, cur, e1, hb, hg, r⟩
  · exact .inl q
  · exact .inr ⟨g, cap, cur, e1, hb, hk g cur hg, r⟩
theorem RFet.keep {w w' : World} {base gb : Nat} {wd root : Int} {L : List (Key × Int)} {o : Option Tr} {bar : List Int} {vL vB : Value} {li : Option Addr} {ci : Nat} (h : RFet w base gb wd root L o bar vL vB li ci) (hk : ∀ k cs t, Blk w k cs t → t = 55 ∨ t = 81 ∨ t = 3 → Blk w' k cs t) : RFet w' base gb wd root L o bar vL vB li ci :=
  ⟨hk _ _ _ h.k (.inl rfl), row_keep h.wl fun k cs q => hk _ _ _ q (.inr (.inl rfl)), row_keep h.wb fun k cs q => hk _ _ _ q (.inr (.inr rfl))⟩
theorem RFet.below {w w' : World} {base gb : Nat} {wd root : Int} {L : List (Key × Int)} {o : Option Tr} {bar : List Int} {vL vB : Value} {li : Option Addr} {ci : Nat} (h : RFet w base gb wd root L o bar vL vB li ci) (hb : Below w.heap.size w w') : RFet w' base gb wd root L o bar vL vB li ci := h.keep fun k cs t q _ => q.below hb q.lt

set_option maxRecDepth 8000 in
set_option maxHeartbeats 3200000 in
theorem rfNew_any (wd root : Int) (w : World) : Calls Tryz.prog 9 #[.int .i64 wd, .int .u64 root] w fun e w' => ∃ gb vL, e = .returned (.pointer (some ⟨gb, 0, none⟩)) ∧ RFet w' w.heap.size gb wd root [([], root)] none [] vL (.slice none 0 0) none 0 ∧ w.heap.size ≤ gb ∧ Below w.heap.size w w' := by
  have k1 := (Blk.new w #[.string ⟨#[]⟩, .int .u64 root] 81).alloc (.cells #[.int .i64 wd, .int .u64 root, .slice (some ⟨w.heap.size, 0, none⟩) 1 1, .int .i64 wd, .slice none 0 0, .slice none 0 0] 55)
  have k2 := Blk.new (w.alloc (.cells #[.string ⟨#[]⟩, .int .u64 root] 81)) #[.int .i64 wd, .int .u64 root, .slice (some ⟨w.heap.size, 0, none⟩) 1 1, .int .i64 wd, .slice none 0 0, .slice none 0 0] 55
  rw [World.size_alloc] at k2
  have bA : Below w.heap.size w ((w.alloc (.cells #[.string ⟨#[]⟩, .int .u64 root] 81)).alloc (.cells #[.int .i64 wd, .int .u64 root, .slice (some ⟨w.heap.size, 0, none⟩) 1 1, .int .i64 wd, .slice none 0 0, .slice none 0 0] 55)) := ((Below.refl _ _).alloc (Nat.le_refl _) _).alloc (by simp) _
  go_enter Tryz.func9, Tryz.ntmps9
  go_wp2
  go_ret
  exact ⟨w.heap.size + 1, .slice (some ⟨w.heap.size, 0, none⟩) 1 1, rfl, ⟨k2, ⟨rfl, .inr ⟨w.heap.size, 1, _, rfl, Nat.le_refl _, k1, Nat.le_refl _, by unfold maxLen; omega, rfl, rfl⟩⟩, ⟨rfl, .inl ⟨rfl, rfl⟩⟩⟩, by omega, bA⟩
end Go.Proofs.YtmhllihedejehaaGreat

namespace Go.Proofs.YtmhllihedejehaaGreat
open Go.RowKit
set_option linter.unusedVariables false
set_option linter.unusedSimpArgs false

theorem flatI_get (l : List Int) (i : Nat) (h : i < l.length) : (flatI l)[i]? = some (.int .i64 l[i]) := by simp [flatI, h]
theorem addG (g j : Nat) : (⟨g, 0, none⟩ : Addr).add j = ⟨g, j, none⟩ := by unfold Addr.add; split <;> simp_all
theorem row_at {w : World} {base : Nat} {e : TypeId} {size : Nat} {v : Value} {n : Nat} {xs : List Value} (h : w.ownsRow base e size v n xs) : ∃ sa sc, v = .slice sa n sc ∧ (0 < n → ∃ g, sa = some ⟨g, 0, none⟩ ∧ g < w.heap.size ∧ ∀ j u, xs[j]? = some u → w.cell? ⟨g, j, none⟩ = some u) := by
  rcases h.2 with ⟨rfl, h0⟩ | ⟨g, cap, cur, rfl, hb, hg, _⟩
  · exact ⟨none, 0, by rw [h0], fun q => by omega⟩
  · exact ⟨_, _, rfl, fun _ => ⟨g, rfl, (Array.getElem?_eq_some_iff.1 hg).1, fun j u hu => by rw [← addG]; exact h.cells (g := g) rfl j u hu⟩⟩

set_option maxRecDepth 8000 in
set_option maxHeartbeats 3200000 in
theorem rin_own (base : Nat) (vB : Value) (l : List Int) (x : Int) (w : World) (hl : l.length ≤ 1000000) (h : w.ownsRow base 3 1 vB l.length (flatI l)) :
    Calls Tryz.prog 34 #[.int .i64 x, vB] w fun e w' => e = .returned (.bool (decide (x ∈ l))) ∧ w = w' := by
  obtain ⟨la, ca, rfl, hc⟩ := row_at h
  clear h
  go_enter Tryz.func34, Tryz.ntmps34
  go_wp2_with fail
  go_loopw [5] (fun iv wv => ∃ i : Nat, i ≤ l.length ∧ iv = .int .i64 i ∧ Hid (x ∉ l.take i) ∧ w = wv) (fun iv _ => l.length - (intOf iv).toNat)
  case atStart => exact ⟨0, Nat.zero_le _, rfl, by show _ ∉ _; simp, rfl⟩
  case round =>
    obtain ⟨i, hi, rfl, HT, rfl⟩ := hrel
    by_cases hlt : i < l.length
    · have hlt' : (i : Int) < (l.length : Int) := by omega
      obtain ⟨g, e1, z1, a0⟩ := hc (by omega)
      subst e1
      have a1 := a0 i _ (flatI_get l i hlt)
      have HX : Hid (l[i] ∈ l) := List.getElem_mem hlt
      have ht1 := List.take_succ_eq_append_getElem hlt
      clear a0
      generalize l[i] = y at *
      by_cases hxy : y = x
      · subst hxy
        have HR : Hid (decide (y ∈ l) = true) := decide_eq_true HX.out
        clear ht1 HX HT hc
        go_wp2
        go_ret
        exact ⟨by rw [HR.out]; rfl, rfl⟩
      · have HN : Hid (x ∉ l.take (i + 1)) := by
          show _ ∉ _
          rw [ht1]
          simp only [List.mem_append, List.mem_singleton, not_or]
          exact ⟨HT.out, fun e => hxy e.symm⟩
        have hxd : (y == x) = false := by simpa using hxy
        clear ht1 HX HT hc
        go_wp2
        exact ⟨⟨i + 1, by omega, by go_num, HN, trivial⟩, by simp [intOf]; omega⟩
    · have hge : ¬ (i : Int) < (l.length : Int) := by omega
      have HN : Hid (decide (x ∈ l) = false) := by
        have := HT.out
        rw [List.take_of_length_le (by omega)] at this
        exact decide_eq_false this
      clear hc
      go_wp2
      go_ret
      exact ⟨by rw [HN.out]; rfl, rfl⟩

section
variable {base gb : Nat} {wd root : Int} {L : List (Key × Int)} {o : Option Tr} {bar : List Int} {vL vB : Value} {li : Option Addr} {ci : Nat}
set_option maxRecDepth 8000 in
set_option maxHeartbeats 3200000 in
theorem rgive_barred (x k pos l r : Int) (way key val : Key) (w : World) (hb : bar.length ≤ 1000000) (H : RFet w base gb wd root L o bar vL vB li ci) (hx : x ∈ bar) :
    Calls Tryz.prog 15 #[.pointer (some ⟨gb, 0, none⟩), .int .i64 x, .string (str way), .agg #[.int .i64 k, .string (str key), .string (str val), .int .i64 pos, .int .u64 l, .int .u64 r]] w fun e w' => e = .returned (.int .i64 17) ∧ Below w.heap.size w w' := by
  have bA : Below w.heap.size w (w.alloc (.cells #[.int .i64 k, .string (str key), .string (str val), .int .i64 pos, .int .u64 l, .int .u64 r] 28)) := (Below.refl _ _).alloc (Nat.le_refl _) _
  have H1 := H.below bA
  have c5 := (H1.k.cell 5).trans rfl
  have zf := H1.k.lt
  have K := rin_own base vB bar x _ hb H1.wb
  rw [decide_eq_true hx] at K
  obtain ⟨sa, sc, rfl, _⟩ := row_at H.wb
  clear H H1
  go_enter Tryz.func15, Tryz.ntmps15
  go_wp2_with fail
  refine K.mono ?_
  rintro e w1 ⟨rfl, rfl⟩
  go_wp2
  go_ret
  exact ⟨rfl, bA⟩
end
end Go.Proofs.YtmhllihedejehaaGreat

namespace Go.Proofs.YtmhllihedejehaaGreat
set_option linter.unusedVariables false
variable {P : Program} {md : Region.Mode} {ops : Array Oper} {Q : Exit → Act → World → Prop} {S T : World → Prop} {m : Nat}

/-- Whatever order: S holds behind every operation as long as number m has not come. -/
def wpAnyM (P : Program) (md : Region.Mode) (ops : Array Oper) (Q : Exit → Act → World → Prop) (S : World → Prop) (m : Nat) : Nat → Array Bool → Act → World → Prop
  | 0, ls, a, w => Region.ready md ops ls = [] ∧ Q .normal a w
  | n + 1, ls, a, w => (Region.ready md ops ls = [] → Q .normal a w) ∧
      ∀ i ∈ Region.ready md ops ls, wpOp P ops Q i (fun a' w' => ((ls.setIfInBounds i true).getD m true = false → S w') ∧ wpAnyM P md ops Q S m n (ls.setIfInBounds i true) a' w') a w

theorem wpAny_of_M : ∀ (n : Nat) (ls : Array Bool) (a : Act) (w : World), wpAnyM P md ops Q S m n ls a w → wpAny P md ops Q n ls a w
  | 0, _, _, _, h => h
  | n + 1, _, _, _, h => ⟨h.1, fun i hi => wpOp_mono (fun a' w' h' => wpAny_of_M n _ a' w' h'.2) (h.2 i hi)⟩

theorem unlisted {ls : Array Bool} {i : Nat} (h : ls.getD i true = false) : ls.getD i false = false := by
  rcases Nat.lt_or_ge i ls.size with h' | h'
  · simp [h'] at h ⊢; exact h
  · simp [Array.getElem?_eq_none h']

/-- Is i waited for by number m? -/
def waits (md : Region.Mode) (ops : Array Oper) (m i : Nat) : Prop := ∃ om, ops[m]? = some om ∧ ∃ e ∈ om.after, Region.binds md e = true ∧ e.on = i

theorem wpAnyM_first {i : Nat} {oi : Oper} {v : Value} (hi : ops[i]? = some oi) (hsel : ∀ (j : Nat) (o : Oper) cs b, ops[j]? = some o → o.op ≠ .select cs b)
    (hQ : ∀ c a w, Q (.panic c) (a.put oi.dst v) w → Q (.panic c) a w) (him : i ≠ m) :
    ∀ (n : Nat) (ls : Array Bool) (a : Act) (w : World), (∀ w, T w) ∨ ((∀ w, S w → T w) ∧ waits md ops m i ∧ ls.getD m true = false) →
      (∀ j oj, ops[j]? = some oj → j ≠ i → ls.getD j true = false → (∀ e ∈ oj.after, Region.binds md e = true → e.on ≠ i) → oi.apart ops oj = true) →
      i ∈ Region.ready md ops ls → YieldsIf P ops T oi v a → (ls.getD m true = false → S w) →
      wpAnyM P md ops Q S m n (ls.setIfInBounds i true) (a.put oi.dst v) w → wpAnyM P md ops Q S m (n + 1) ls a w := by
  have hTw : ∀ (ls : Array Bool) (w : World), ((∀ w, T w) ∨ ((∀ w, S w → T w) ∧ waits md ops m i ∧ ls.getD m true = false)) → (ls.getD m true = false → S w) → T w := by
    intro ls w h hS
    rcases h with h | ⟨h, _, h2⟩
    · exact h w
    · exact h w (hS h2)
  have self : ∀ (n : Nat) (ls : Array Bool) (a : Act) (w : World), ((∀ w, T w) ∨ ((∀ w, S w → T w) ∧ waits md ops m i ∧ ls.getD m true = false)) → YieldsIf P ops T oi v a → (ls.getD m true = false → S w) → wpAnyM P md ops Q S m n (ls.setIfInBounds i true) (a.put oi.dst v) w →
      wpOp P ops Q i (fun a' w' => ((ls.setIfInBounds i true).getD m true = false → S w') ∧ wpAnyM P md ops Q S m n (ls.setIfInBounds i true) a' w') a w := by
    intro n ls a w hT hy hS H
    refine hy.wpOp hi (hTw ls w hT hS) ⟨fun h => hS ?_, H⟩
    rw [getD_set_ne true him] at h
    exact h
  intro n
  induction n with
  | zero =>
    intro ls a w hT _ hr hy hS H
    refine ⟨fun h => (by rw [h] at hr; cases hr), fun j hj => ?_⟩
    by_cases hji : j = i
    · subst hji; exact self 0 ls a w hT hy hS H
    · have := ready_mono hj hji
      rw [H.1] at this
      cases this
  | succ n ih =>
    intro ls a w hT hfree hr hy hS H
    refine ⟨fun h => (by rw [h] at hr; cases hr), fun j hj => ?_⟩
    by_cases hji : j = i
    · subst hji; exact self (n + 1) ls a w hT hy hS H
    · have h1 := H.2 j (ready_mono hj hji)
      obtain ⟨hjun, oj, hoj, hall⟩ := mem_ready.1 hj
      have hiun := unlisted (mem_ready.1 hr).1
      have hnot : ∀ e ∈ oj.after, Region.binds md e = true → e.on ≠ i := fun e he hb heq => by
        have h1 := hall e he hb
        rw [heq, hiun] at h1
        cases h1
      have hT' : (∀ w, T w) ∨ ((∀ w, S w → T w) ∧ waits md ops m i ∧ (ls.setIfInBounds j true).getD m true = false) := by
        rcases hT with hT | ⟨hT, hw, hl⟩
        · exact .inl hT
        · refine .inr ⟨hT, hw, ?_⟩
          have hjm : j ≠ m := by
            intro e
            subst e
            obtain ⟨om, hom, e, he, hb, heq⟩ := hw
            rw [hoj] at hom
            exact hnot e (Option.some.inj hom ▸ he) hb heq
          rw [getD_set_ne true hjm]
          exact hl
      have h2 := wpOp_putIf hoj (hfree j oj hoj hji hjun hnot) (fun cs b => hsel i oi cs b hi) (fun cs b => hsel j oj cs b hoj) hQ hy h1
      refine wpOp_mono (fun a' w' h3 => ?_) h2
      obtain ⟨hy', hS', H'⟩ := h3
      have hS2 : (ls.setIfInBounds j true).getD m true = false → S w' := fun h => hS' (by rw [Array.setIfInBounds_comm _ _ (Ne.symm hji), getD_set_ne true him]; exact h)
      refine ⟨hS2, ih (ls.setIfInBounds j true) a' w' hT' (fun k ok hk hki hun hno => hfree k ok hk hki ?_ hno) (ready_mono hr (Ne.symm hji)) hy' hS2 ?_⟩
      · by_cases hjk : j = k
        · subst hjk; exact hjun
        · rw [getD_set_ne true hjk] at hun; exact hun
      · rw [Array.setIfInBounds_comm _ _ hji]
        exact H'

/-- Number i, which the store waits for, is taken first: it yields the same wherever S holds. -/
theorem wpAnyM_take {i : Nat} {oi : Oper} {v : Value} {n : Nat} {ls : Array Bool} {a : Act} {w : World} (hi : ops[i]? = some oi)
    (hs : Region.noSelect ops = true) (hf : Region.free md ops ls i = true) (hr : (Region.ready md ops ls).contains i = true)
    (hm : (match ops[m]? with | some om => om.after.any (fun e => Region.binds md e && e.on == i) | none => false) = true) (him : i ≠ m) (hl : ls.getD m true = false)
    (hQ : ∀ c a w, Q (.panic c) (a.put oi.dst v) w → Q (.panic c) a w) (hy : YieldsIf P ops S oi v a) (hS : S w)
    (h : wpAnyM P md ops Q S m n (ls.setIfInBounds i true) (a.put oi.dst v) w) : wpAnyM P md ops Q S m (n + 1) ls a w := by
  have hw : waits md ops m i := by
    cases hom : ops[m]? with
    | none => rw [hom] at hm; cases hm
    | some om =>
      rw [hom] at hm
      obtain ⟨e, he, hb⟩ := Array.any_eq_true'.1 hm
      rw [Bool.and_eq_true] at hb
      exact ⟨om, hom, e, he, hb.1, by simpa using hb.2⟩
  exact wpAnyM_first (T := S) hi (Region.noSelect_spec hs) hQ him n ls a w (.inr ⟨fun _ h => h, hw, hl⟩) (Region.free_spec hi hf) (by simpa using hr) hy (fun _ => hS) h

/-- Number i reads no memory: it is taken first. -/
theorem wpAnyM_pure {i : Nat} {oi : Oper} {v : Value} {n : Nat} {ls : Array Bool} {a : Act} {w : World} (hi : ops[i]? = some oi)
    (hs : Region.noSelect ops = true) (hf : Region.free md ops ls i = true) (hr : (Region.ready md ops ls).contains i = true) (him : i ≠ m)
    (hQ : ∀ c a w, Q (.panic c) (a.put oi.dst v) w → Q (.panic c) a w) (hy : YieldsIf P ops (fun _ => True) oi v a) (hS : S w)
    (h : wpAnyM P md ops Q S m n (ls.setIfInBounds i true) (a.put oi.dst v) w) : wpAnyM P md ops Q S m (n + 1) ls a w :=
  wpAnyM_first (T := fun _ => True) hi (Region.noSelect_spec hs) hQ him n ls a w (.inl fun _ => trivial) (Region.free_spec hi hf) (by simpa using hr) hy (fun _ => hS) h

/-- One alone may come. -/
theorem wpAnyM_one {i : Nat} {n : Nat} {ls : Array Bool} {a : Act} {w : World} (hr : Region.ready md ops ls = [i])
    (h : wpOp P ops Q i (fun a' w' => ((ls.setIfInBounds i true).getD m true = false → S w') ∧ wpAnyM P md ops Q S m n (ls.setIfInBounds i true) a' w') a w) : wpAnyM P md ops Q S m (n + 1) ls a w := by
  refine ⟨fun h0 => ?_, fun j hj => ?_⟩
  · rw [hr] at h0; cases h0
  · rw [hr] at hj; rw [List.mem_singleton.1 hj]; exact h

theorem wpAnyM_done {ls : Array Bool} {a : Act} {w : World} (hr : Region.ready md ops ls = []) (h : Q .normal a w) : ∀ n, wpAnyM P md ops Q S m n ls a w
  | 0 => ⟨hr, h⟩
  | _ + 1 => ⟨fun _ => h, by rw [hr]; simp⟩

/-- The beginning. -/
theorem wp_region_late {id : Nat} {a : Act} {w : World} (S : World → Prop) (m : Nat) (hx : P.follows .mixedOrders = true)
    (h : wpAnyM P .any ops Q S m ops.size (Array.replicate ops.size false) a w.drew) : (Code.region id ops true).wp P Q a w :=
  wp_region_any hx (wpAny_of_M _ _ _ _ h)
end Go.Proofs.YtmhllihedejehaaGreat
