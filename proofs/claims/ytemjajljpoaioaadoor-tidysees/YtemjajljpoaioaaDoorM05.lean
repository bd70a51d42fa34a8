import Derived.Test.YtemjajljpoaioaaDoorM04
import Derived.Deep.CutBlock
import Derived.Laws.Bits64b
import Derived.Laws.MakeOwn
import Derived.Lib.BufferWrite
import Derived.Lib.UnsafeStr
namespace Go.Proofs.YtemjajljpoaioaaDoor
open Go.RowKit
set_option linter.unusedVariables false
set_option linter.unusedSimpArgs false
set_option maxRecDepth 20000
set_option maxHeartbeats 8000000
variable {P : Program} {md : Region.Mode} {ops : Array Oper} {Q : Exit → Act → World → Prop} {S T : World → Prop} {m : Nat}
def wpAnyM (P : Program) (md : Region.Mode) (ops : Array Oper) (Q : Exit → Act → World → Prop) (S : World → Prop) (m : Nat) : Nat → Array Bool → Act → World → Prop
 | 0, ls, a, w => Region.ready md ops ls = [] ∧ Q .normal a w
 | n + 1, ls, a, w => (Region.ready md ops ls = [] → Q .normal a w) ∧
   ∀ i ∈ Region.ready md ops ls, wpOp P ops Q i (fun a' w' => ((ls.setIfInBounds i true).getD m true = false → S w') ∧ wpAnyM P md ops Q S m n (ls.setIfInBounds i true) a' w') a w
theorem wpAny_of_M : ∀ (n : Nat) (ls : Array Bool) (a : Act) (w : World), wpAnyM P md ops Q S m n ls a w → wpAny P md ops Q n ls a w
 | 0, _, _, _, h => h
 | n + 1, _, _, _, h => ⟨h.1, fun i hi => wpOp_mono (fun a' w' h' => wpAny_of_M n _ a' w' h'.2) (h.2 i hi)⟩
theorem unlisted {ls : Array Bool} {i : Nat} (h : ls.getD i true = false) : ls.getD i false = false := by
 rcases Nat.lt_or_ge i ls.size with h' | h'
 ·simp [h'] at h ⊢; exact h
 ·simp [Array.getElem?_eq_none h']
def waits (md : Region.Mode) (ops : Array Oper) (m i : Nat) : Prop := ∃ om, ops[m]? = some om ∧ ∃ e ∈ om.after, Region.binds md e = true ∧ e.on = i
theorem wpAnyM_first {i : Nat} {oi : Oper} {v : Value} (hi : ops[i]? = some oi) (hsel : ∀ (j : Nat) (o : Oper) cs b, ops[j]? = some o → o.op ≠ .select cs b)
  (hQ : ∀ c a w, Q (.panic c) (a.put oi.dst v) w → Q (.panic c) a w) (him : i ≠ m) :
  ∀ (n : Nat) (ls : Array Bool) (a : Act) (w : World), (∀ w, T w) ∨ ((∀ w, S w → T w) ∧ waits md ops m i ∧ ls.getD m true = false) →
   (∀ j oj, ops[j]? = some oj → j ≠ i → ls.getD j true = false → (∀ e ∈ oj.after, Region.binds md e = true → e.on ≠ i) → oi.apart ops oj = true) →
   i ∈ Region.ready md ops ls → YieldsIf P ops T oi v a → (ls.getD m true = false → S w) →
   wpAnyM P md ops Q S m n (ls.setIfInBounds i true) (a.put oi.dst v) w → wpAnyM P md ops Q S m (n + 1) ls a w := by
 have hTw : ∀ (ls : Array Bool) (w : World), ((∀ w, T w) ∨ ((∀ w, S w → T w) ∧ waits md ops m i ∧ ls.getD m true = false)) → (ls.getD m true = false → S w) → T w := by
  intro ls w h hS
  rcases h with h | ⟨h, _, h2⟩
  ·exact h w
  ·exact h w (hS h2)
 have self : ∀ (n : Nat) (ls : Array Bool) (a : Act) (w : World), ((∀ w, T w) ∨ ((∀ w, S w → T w) ∧ waits md ops m i ∧ ls.getD m true = false)) → YieldsIf P ops T oi v a → (ls.getD m true = false → S w) → wpAnyM P md ops Q S m n (ls.setIfInBounds i true) (a.put oi.dst v) w →
   wpOp P ops Q i (fun a' w' => ((ls.setIfInBounds i true).getD m true = false → S w') ∧ wpAnyM P md ops Q S m n (ls.setIfInBounds i true) a' w') a w := by
  intro n ls a w hT hy hS H
  refine hy.wpOp hi (hTw ls w hT hS) ⟨fun h => hS ?_, H⟩
  rw [getD_set_ne true him] at h
  exact h
 intro n
 induction n with
 | zero =>
  intro ls a w hT _ hr hy hS H
  refine ⟨fun h => (by rw [h] at hr; cases hr), fun j hj => ?_⟩
  by_cases hji : j = i
  ·subst hji; exact self 0 ls a w hT hy hS H
  ·have := ready_mono hj hji
   rw [H.1] at this
   cases this
 | succ n ih =>
  intro ls a w hT hfree hr hy hS H
  refine ⟨fun h => (by rw [h] at hr; cases hr), fun j hj => ?_⟩
  by_cases hji : j = i
  ·subst hji; exact self (n + 1) ls a w hT hy hS H
  ·have h1 := H.2 j (ready_mono hj hji)
   obtain ⟨hjun, oj, hoj, hall⟩ := mem_ready.1 hj
   have hiun := unlisted (mem_ready.1 hr).1
   have hnot : ∀ e ∈ oj.after, Region.binds md e = true → e.on ≠ i := fun e he hb heq => by
    have h1 := hall e he hb
    rw [heq, hiun] at h1
    cases h1
   have hT' : (∀ w, T w) ∨ ((∀ w, S w → T w) ∧ waits md ops m i ∧ (ls.setIfInBounds j true).getD m true = false) := by
    rcases hT with hT | ⟨hT, hw, hl⟩
    ·exact .inl hT
    ·refine .inr ⟨hT, hw, ?_⟩
     have hjm : j ≠ m := by
      intro e
      subst e
      obtain ⟨om, hom, e, he, hb, heq⟩ := hw
      rw [hoj] at hom
      exact hnot e (Option.some.inj hom ▸ he) hb heq
     rw [getD_set_ne true hjm]
     exact hl
   have h2 := wpOp_putIf hoj (hfree j oj hoj hji hjun hnot) (fun cs b => hsel i oi cs b hi) (fun cs b => hsel j oj cs b hoj) hQ hy h1
   refine wpOp_mono (fun a' w' h3 => ?_) h2
   obtain ⟨hy', hS', H'⟩ := h3
   have hS2 : (ls.setIfInBounds j true).getD m true = false → S w' := fun h => hS' (by rw [Array.setIfInBounds_comm _ _ (Ne.symm hji), getD_set_ne true him]; exact h)
   refine ⟨hS2, ih (ls.setIfInBounds j true) a' w' hT' (fun k ok hk hki hun hno => hfree k ok hk hki ?_ hno) (ready_mono hr (Ne.symm hji)) hy' hS2 ?_⟩
   ·by_cases hjk : j = k
    ·subst hjk; exact hjun
    ·rw [getD_set_ne true hjk] at hun; exact hun
   ·rw [Array.setIfInBounds_comm _ _ hji]
    exact H'
theorem wpAnyM_take {i : Nat} {oi : Oper} {v : Value} {n : Nat} {ls : Array Bool} {a : Act} {w : World} (hi : ops[i]? = some oi)
  (hs : Region.noSelect ops = true) (hf : Region.free md ops ls i = true) (hr : (Region.ready md ops ls).contains i = true)
  (hm : (match ops[m]? with | some om => om.after.any (fun e => Region.binds md e && e.on == i) | none => false) = true) (him : i ≠ m) (hl : ls.getD m true = false)
  (hQ : ∀ c a w, Q (.panic c) (a.put oi.dst v) w → Q (.panic c) a w) (hy : YieldsIf P ops S oi v a) (hS : S w)
  (h : wpAnyM P md ops Q S m n (ls.setIfInBounds i true) (a.put oi.dst v) w) : wpAnyM P md ops Q S m (n + 1) ls a w := by
 have hw : waits md ops m i := by
  cases hom : ops[m]? with
  | none => rw [hom] at hm; cases hm
  | some om =>
   rw [hom] at hm
   obtain ⟨e, he, hb⟩ := Array.any_eq_true'.1 hm
   rw [Bool.and_eq_true] at hb
   exact ⟨om, hom, e, he, hb.1, by simpa using hb.2⟩
 exact wpAnyM_first (T := S) hi (Region.noSelect_spec hs) hQ him n ls a w (.inr ⟨fun _ h => h, hw, hl⟩) (Region.free_spec hi hf) (by simpa using hr) hy (fun _ => hS) h
theorem wpAnyM_pure {i : Nat} {oi : Oper} {v : Value} {n : Nat} {ls : Array Bool} {a : Act} {w : World} (hi : ops[i]? = some oi)
  (hs : Region.noSelect ops = true) (hf : Region.free md ops ls i = true) (hr : (Region.ready md ops ls).contains i = true) (him : i ≠ m)
  (hQ : ∀ c a w, Q (.panic c) (a.put oi.dst v) w → Q (.panic c) a w) (hy : YieldsIf P ops (fun _ => True) oi v a) (hS : S w)
  (h : wpAnyM P md ops Q S m n (ls.setIfInBounds i true) (a.put oi.dst v) w) : wpAnyM P md ops Q S m (n + 1) ls a w :=
 wpAnyM_first (T := fun _ => True) hi (Region.noSelect_spec hs) hQ him n ls a w (.inl fun _ => trivial) (Region.free_spec hi hf) (by simpa using hr) hy (fun _ => hS) h
theorem wpAnyM_one {i : Nat} {n : Nat} {ls : Array Bool} {a : Act} {w : World} (hr : Region.ready md ops ls = [i])
  (h : wpOp P ops Q i (fun a' w' => ((ls.setIfInBounds i true).getD m true = false → S w') ∧ wpAnyM P md ops Q S m n (ls.setIfInBounds i true) a' w') a w) : wpAnyM P md ops Q S m (n + 1) ls a w := by
 refine ⟨fun h0 => ?_, fun j hj => ?_⟩
 ·rw [hr] at h0; cases h0
 ·rw [hr] at hj; rw [List.mem_singleton.1 hj]; exact h
theorem wpAnyM_done {ls : Array Bool} {a : Act} {w : World} (hr : Region.ready md ops ls = []) (h : Q .normal a w) : ∀ n, wpAnyM P md ops Q S m n ls a w
 | 0 => ⟨hr, h⟩
 | _ + 1 => ⟨fun _ => h, by rw [hr]; simp⟩
theorem wp_region_late {id : Nat} {a : Act} {w : World} (S : World → Prop) (m : Nat) (hx : P.follows .mixedOrders = true)
  (h : wpAnyM P .any ops Q S m ops.size (Array.replicate ops.size false) a w.drew) : (Code.region id ops true).wp P Q a w :=
 wp_region_any hx (wpAny_of_M _ _ _ _ h)
section
variable {P : Program} {md : Region.Mode} {ops : Array Oper} {Q : Exit → Act → World → Prop} {S : World → Prop} {a : Act} {w w0 : World} {o : Oper} {N m : Nat} {L : List (Nat × Value)} {fuel : Nat} {listed : Array Bool}
theorem sm_val (F : Fm N L a) (i : Nat) {d : Nat} {v : Value} (hi : ops[i]? = some o) (hs : Region.noSelect ops = true) (hf : Region.free md ops listed i = true) (hr : (Region.ready md ops listed).contains i = true) (him : Nat.beq i m = false) (hQ : ∀ c a w, Q (.panic c) (a.put (some d) v) w → Q (.panic c) a w)
  (hd : o.dst = some d) (hg : o.guard = none) (hb : Nat.blt d N = true) (hy : ∀ w, (execOp a.eval o).run P w = .ok (.value v) w) (hS : S w) (K : ∀ a', Fm N ((d, v) :: L) a' → wpAnyM P md ops Q S m fuel (listed.setIfInBounds i true) a' w) : wpAnyM P md ops Q S m (fuel + 1) listed a w :=
 wpAnyM_pure hi hs hf hr (fun e => by subst e; rw [Nat.beq_refl] at him; cases him) (fun c a w => by rw [hd]; exact hQ c a w) (.inl ⟨by unfold Region.wanted; rw [hg], fun w _ => hy w⟩) hS (by rw [hd]; exact K _ (F.put hb))
theorem sm_move (F : Fm N L a) (i : Nat) {d : Nat} {x : Operand} {v : Value} (hi : ops[i]? = some o) (h : Is o (some d) (.move x)) (hv : opv L x = some v) (hs : Region.noSelect ops = true) (hf : Region.free md ops listed i = true) (hr : (Region.ready md ops listed).contains i = true) (him : Nat.beq i m = false) (hQ : ∀ c a w, Q (.panic c) (a.put (some d) v) w → Q (.panic c) a w)
  (hb : Nat.blt d N = true) (hS : S w) (K : ∀ a', Fm N ((d, v) :: L) a' → wpAnyM P md ops Q S m fuel (listed.setIfInBounds i true) a' w) : wpAnyM P md ops Q S m (fuel + 1) listed a w :=
 sm_val F i hi hs hf hr him hQ h.1 h.2.2 hb (fun w => by unfold execOp; rw [h.2.1]; simp only [F.ev hv]; rfl) hS K
theorem sm_nil (F : Fm N L a) (i : Nat) {d : Nat} {x : Operand} {p : Addr} (hi : ops[i]? = some o) (h : Is o (some d) (.nilCheck x)) (hv : opv L x = some (.pointer (some p))) (hs : Region.noSelect ops = true) (hf : Region.free md ops listed i = true) (hr : (Region.ready md ops listed).contains i = true) (him : Nat.beq i m = false) (hQ : ∀ c a w, Q (.panic c) (a.put (some d) (.pointer (some p))) w → Q (.panic c) a w)
  (hb : Nat.blt d N = true) (hS : S w) (K : ∀ a', Fm N ((d, .pointer (some p)) :: L) a' → wpAnyM P md ops Q S m fuel (listed.setIfInBounds i true) a' w) : wpAnyM P md ops Q S m (fuel + 1) listed a w :=
 sm_val F i hi hs hf hr him hQ h.1 h.2.2 hb (fun w => by unfold execOp; rw [h.2.1]; simp only [F.ev hv]; rfl) hS K
theorem sm_fld (F : Fm N L a) (i n : Nat) {d s k b f e : Nat} {x : Operand} (hi : ops[i]? = some o) (h : Is o (some d) (.fieldAddr s x k)) (hv : opv L x = some (.pointer (some ⟨b, f, none⟩))) (hn : fldOff P s k = some n) (hm : f + n = e) (hs : Region.noSelect ops = true) (hf : Region.free md ops listed i = true) (hr : (Region.ready md ops listed).contains i = true) (him : Nat.beq i m = false) (hQ : ∀ c a w, Q (.panic c) (a.put (some d) (.pointer (some ⟨b, e, none⟩))) w → Q (.panic c) a w)
  (hb : Nat.blt d N = true) (hS : S w) (K : ∀ a', Fm N ((d, .pointer (some ⟨b, e, none⟩)) :: L) a' → wpAnyM P md ops Q S m fuel (listed.setIfInBounds i true) a' w) : wpAnyM P md ops Q S m (fuel + 1) listed a w := by
 subst hm
 exact sm_val F i hi hs hf hr him hQ h.1 h.2.2 hb (fun w => by unfold execOp; rw [h.2.1]; simp only [F.ev hv]; simp [Sem.run_bind, run_fldo hn]) hS K
def waitsB (md : Region.Mode) (ops : Array Oper) (m i : Nat) : Bool := match ops[m]? with | some om => om.after.any (fun e => Region.binds md e && e.on == i) | none => false
theorem sm_cell (F : Fm N L a) (i : Nat) {d : Nat} {t : TypeId} {x : Operand} {b n : Nat} {v : Value} (hi : ops[i]? = some o) (h : Is o (some d) (.load t x)) (hv : opv L x = some (.pointer (some ⟨b, n, none⟩))) (ht : cellT P t = true) (hc : ∀ w, S w → w.cell? ⟨b, n, none⟩ = some v) (hwt : (waitsB md ops m i && !(listed.getD m true)) = true) (hs : Region.noSelect ops = true) (hf : Region.free md ops listed i = true) (hr : (Region.ready md ops listed).contains i = true) (him : Nat.beq i m = false) (hQ : ∀ c a w, Q (.panic c) (a.put (some d) v) w → Q (.panic c) a w)
  (hb : Nat.blt d N = true) (hS : S w) (K : ∀ a', Fm N ((d, v) :: L) a' → wpAnyM P md ops Q S m fuel (listed.setIfInBounds i true) a' w) : wpAnyM P md ops Q S m (fuel + 1) listed a w := by
 obtain ⟨ds, hu, hd⟩ := cellT_out ht
 rw [Bool.and_eq_true] at hwt
 exact wpAnyM_take hi hs hf hr hwt.1 (fun e => by subst e; rw [Nat.beq_refl] at him; cases him) (by simpa using hwt.2) (fun c a w => by rw [h.1]; exact hQ c a w) (.inl ⟨by unfold Region.wanted; rw [h.2.2], fun w hw => run_cell h.2.1 (F.ev hv) (hc w hw) hu hd⟩) hS (by rw [h.1]; exact K _ (F.put hb))
theorem sm_one (i : Nat) (hi : ops[i]? = some o) (hr : Region.ready md ops listed = [i]) (hg : o.guard = none) (h : wpList P ops (Exit.then (fun a w => ((listed.setIfInBounds i true).getD m true = false → S w) ∧ wpAnyM P md ops Q S m fuel (listed.setIfInBounds i true) a w) Q) [o] a w) : wpAnyM P md ops Q S m (fuel + 1) listed a w :=
 wpAnyM_one hr (by
  have hw : ∀ t, Region.wanted o t = true := fun t => by simp [Region.wanted, hg]
  unfold wpList at h
  rw [if_pos (hw _)] at h
  unfold wpOp
  simp only [hi]
  rw [if_pos (hw _)]
  rcases h with h | ⟨h1, h2⟩
  ·exact .inl (oper_then h)
  ·exact .inr ⟨h1, h2⟩)
end
abbrev Key := List UInt8
def str (k : Key) : ByteArray := ⟨k.toArray⟩
def isL (c : UInt8) : Bool := decide (97 ≤ c.toNat) && decide (c.toNat ≤ 122)
def isD (c : UInt8) : Bool := decide (48 ≤ c.toNat) && decide (c.toNat ≤ 57)
def goes (c : UInt8) : Bool := isL c || isD c || decide (c.toNat = 95)
def spanN (f : UInt8 → Bool) : List UInt8 → Nat
 | [] => 0
 | c :: r => if f c then spanN f r + 1 else 0
def gap : Bool → List UInt8 → List UInt8
 | _, [] => []
 | false, c :: r => if c.toNat = 32 ∨ c.toNat = 10 then gap false r else if c.toNat = 35 then gap true r else c :: r
 | true, c :: r => if c.toNat = 10 then gap false r else gap true r
theorem gap_len : ∀ (b : Bool) (s : List UInt8), (gap b s).length ≤ s.length
 | _, [] => by cases ‹Bool› <;> simp [gap]
 | false, c :: r => by
  have h1 := gap_len false r
  have h2 := gap_len true r
  unfold gap
  split
  ·simp; omega
  ·split
   ·simp; omega
   ·simp
 | true, c :: r => by
  have h1 := gap_len false r
  have h2 := gap_len true r
  unfold gap
  split <;> simp <;> omega
def wordL : List (List UInt8) := [[99, 111, 110, 116, 114, 97, 99, 116], [115, 108, 111, 116], [109, 97, 112], [102, 110], [111, 112, 101, 110], [108, 101, 116], [105, 102], [101, 108, 115, 101], [119, 104, 105, 108, 101], [114, 101, 116, 117, 114, 110], [110, 101, 101, 100], [112, 97, 121], [110, 111, 116, 101], [97, 115, 107], [118, 97, 108, 117, 101], [103, 97, 115], [116, 114, 117, 101], [102, 97, 108, 115, 101], [115, 101, 108, 102], [99, 97, 108, 108, 101, 114], [104, 101, 105, 103, 104, 116], [98, 97, 108, 97, 110, 99, 101], [119, 104, 111], [110, 117, 109], [102, 108, 97, 103], [111, 114], [97, 110, 100], [110, 111, 116]]
def signL : List (List UInt8) := [[45, 62], [61, 61], [33, 61], [60, 61], [62, 61], [123], [125], [40], [41], [91], [93], [59], [58], [44], [46], [61], [60], [62], [43], [45], [42], [47], [37]]
inductive Tok where
 | none
 | fin
 | name (s : List UInt8)
 | num (n : Int)
 | fixed (s : List UInt8)
deriving DecidableEq
def wordOf (s : List UInt8) : Tok := if wordL.contains s then .fixed s else if s.length ≤ 16 then .name s else .none
def val10 (s : List UInt8) : Int := s.foldl (fun n c => 10 * n + ((c.toNat : Int) - 48)) 0
def numberOf (s : List UInt8) : Tok := if 1 < s.length ∧ s.head? = some 48 then .none else if 1099511627775 < val10 s then .none else .num (val10 s)
def signOf (s : List UInt8) : Tok × List UInt8 :=
 match signL.find? (fun g => decide (s.take g.length = g)) with
 | some g => (.fixed g, s.drop g.length)
 | none => (.none, s)
def cutT : List UInt8 → Tok × List UInt8
 | [] => (.fin, [])
 | c :: r =>
  if isL c then (wordOf ((c :: r).take (spanN goes (c :: r))), (c :: r).drop (spanN goes (c :: r)))
  else if isD c then (numberOf ((c :: r).take (spanN isD (c :: r))), (c :: r).drop (spanN isD (c :: r)))
  else signOf (c :: r)
def Tok.class : Tok → Int
 | .none => 0
 | .fin => 1
 | .name _ => 2
 | .num _ => 3
 | .fixed _ => 4
def Tok.text : Tok → List UInt8
 | .name s => s
 | .fixed s => s
 | _ => []
def Tok.n : Tok → Int
 | .num n => n
 | _ => 0
def Tok.vals (t : Tok) : List Value := [.int .i64 t.class, .string (str t.text), .int .i64 t.n]
def Tok.val (t : Tok) : Value := .agg #[.int .i64 t.class, .string (str t.text), .int .i64 t.n]
theorem Blk.three {w : World} {b : Nat} {x y z : Value} {t : TypeId} (k : Blk w b #[x, y, z] t) : b < w.heap.size ∧ w.cell? ⟨b, 0, none⟩ = some x ∧ w.cell? ⟨b, 1, none⟩ = some y ∧ w.cell? ⟨b, 2, none⟩ = some z ∧ w.frozen? ⟨b, 0, none⟩ = false ∧ w.frozen? ⟨b, 1, none⟩ = false ∧ w.frozen? ⟨b, 2, none⟩ = false :=
 ⟨k.lt, (k.cell 0).trans rfl, (k.cell 1).trans rfl, (k.cell 2).trans rfl, k.frozen 0, k.frozen 1, k.frozen 2⟩
def kindL : List Key := [[], [110, 117, 109], [102, 108, 97, 103], [119, 104, 111]]
def stepL : List Key := [[], [108, 101, 116], [], [], [105, 102], [119, 104, 105, 108, 101], [114, 101, 116, 117, 114, 110], [110, 101, 101, 100], [112, 97, 121], [110, 111, 116, 101], [97, 115, 107]]
def exprL : List Key := [[], [], [], [], [], [], [111, 114], [97, 110, 100], [110, 111, 116], [61, 61], [33, 61], [60], [60, 61], [62], [62, 61], [43], [45], [42], [47], [37], [115, 101, 108, 102], [99, 97, 108, 108, 101, 114], [118, 97, 108, 117, 101], [104, 101, 105, 103, 104, 116], [98, 97, 108, 97, 110, 99, 101], [119, 104, 111], [110, 117, 109]]
def formL : List (Bool × Int) := [(false, 0), (false, 0), (false, 0), (true, 0), (true, 1), (true, (-1)), (false, 2), (false, 2), (false, 1), (false, 2), (false, 2), (false, 2), (false, 2), (false, 2), (false, 2), (false, 2), (false, 2), (false, 2), (false, 2), (false, 2), (false, 0), (false, 0), (false, 0), (false, 0), (false, 1), (false, 1), (false, 1)]
end Go.Proofs.YtemjajljpoaioaaDoor
