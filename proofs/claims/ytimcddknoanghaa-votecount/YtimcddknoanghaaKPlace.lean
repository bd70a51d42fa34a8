/- Where a voter votes once: the places, as a map's keys. -/
import Derived.Test.YtimcddknoanghaaKFn
import Derived.DeepKeys4
import Derived.Maps.OwnSet
namespace Go.Proofs.Ytimcddknoanghaa
open Go.RowKit Go.Maps
set_option linter.unusedVariables false
set_option linter.unusedSimpArgs false

theorem Try.laidO : laidOutB Try.prog = true := by kernel_rfl
theorem Try.rowPl : (60 : TypeId) < Try.prog.types.size := of_decide_eq_true (by kernel_rfl)
theorem Try.widePl : (match Try.prog.underlying 60 with | some (.array _ _) | some (.struct _) => true | _ => false) = true := by rw [Try.underlying60]
theorem Try.cellsPl : Try.prog.cellsOf 60 = 3 := by kernel_rfl
theorem Try.cellsN : Try.prog.cellsOf 3 = 1 := by kernel_rfl
set_option maxRecDepth 100000 in
theorem lawPl : Keyed Try.prog 60 := Keyed.of_law (deep_law_laid Try.laidO (m := 2) (by omega) Try.rowPl (by kernel_rfl) Try.widePl)
theorem Try.keyPl : Try.prog.keyType 60 = true := by kernel_rfl
def InN3 (a b c : Int) : Prop := (-9223372036854775808 ≤ a ∧ a ≤ 9223372036854775807) ∧ (-9223372036854775808 ≤ b ∧ b ≤ 9223372036854775807) ∧ -9223372036854775808 ≤ c ∧ c ≤ 9223372036854775807
set_option maxRecDepth 100000 in
theorem place_key {a b c : Int} (h : InN3 a b c) : ∃ l, keyOf Try.prog 60 (.agg #[.int .i64 a, .int .i64 b, .int .i64 c]) = some l := by
  obtain ⟨h1, h2, h3⟩ := h
  have wf : ∀ x : Int, -9223372036854775808 ≤ x ∧ x ≤ 9223372036854775807 → (Lit.int .i64 x).wf = true := fun x hx => by
    simpa [Lit.wf, IntKind.min, IntKind.max, IntKind.signed, IntKind.bits] using hx
  have f : (Value.agg #[.int .i64 a, .int .i64 b, .int .i64 c]).formed Try.prog 60 = true := by simp [Value.formed, Try.underlying60, Try.cellsPl]
  have hs : ∀ s : Nat, 60 < s → ∃ n, s + 1 = n + 1 + 1 := fun s h => ⟨s - 1, by omega⟩
  obtain ⟨n, hn⟩ := hs Try.prog.types.size Try.rowPl
  have g : ∀ x : Int, -9223372036854775808 ≤ x ∧ x ≤ 9223372036854775807 → Try.prog.keyLits (n + 1) 3 [.int .i64 x] = some [.int .i64 x] := fun x hx => by
    simp only [Program.keyLits, Try.underlying3, wf x hx, and_self, if_true]
  have k : Try.prog.keyLits (n + 1 + 1) 60 [.int .i64 a, .int .i64 b, .int .i64 c] = some [.int .i64 a, .int .i64 b, .int .i64 c] := by
    unfold Program.keyLits
    simp only [Try.underlying60, Try.cellsPl]
    rw [if_pos ⟨rfl, by simp⟩]
    simp only [List.mapM_cons, List.mapM_nil, Try.cellsN, List.drop_zero, List.drop_succ_cons, List.take_succ_cons, List.take_zero, g a h1, g b h2, g c h3]
    rfl
  refine ⟨.string (keyBytes [.int .i64 a, .int .i64 b, .int .i64 c]), ?_⟩
  unfold keyOf
  simp only [Try.underlying60, Try.keyPl, f, Bool.and_self, if_true, hn, Value.cells]
  rw [k]
  rfl

theorem zeroVt (w : World) : (zeroValue 34).run Try.prog w = .ok (.agg #[.int .i64 0, .int .i64 0, .int .i64 0, .bool false, .int .u64 0, .int .i64 0]) w := by kernel_rfl
def Vt.key (v : Vt) : Value := .agg #[.int .i64 v.r, .int .i64 v.s, .int .i64 v.f]
/-- No two stand at one place. -/
def Plc (m : List Vt) : Prop := m.Pairwise fun a b => ¬ (a.r = b.r ∧ a.s = b.s ∧ a.f = b.f)
/-- The votes of a map, in the order in which they came. -/
def PMap (w : World) (mb : Nat) (m : List Vt) : Prop :=
  (∀ v ∈ m, InN3 v.r v.s v.f) ∧ Plc m ∧ ∃ es clock, w.heap[mb]? = some (.map es clock) ∧ es.toList.map (fun e => (e.key, e.val)) = m.map fun v => (v.key, v.val)
/-- What was said at a place. -/
def atPl (m : List Vt) (r s f : Int) : Option Vt := m.find? fun v => decide (v.r = r) && decide (v.s = s) && decide (v.f = f)
theorem atPl_some {m : List Vt} {r s f : Int} {v : Vt} (hp : Plc m) (hv : v ∈ m) (h : v.r = r ∧ v.s = s ∧ v.f = f) : atPl m r s f = some v := by
  unfold atPl
  induction m with
  | nil => simp at hv
  | cons y t ih =>
    obtain ⟨p1, p2⟩ := List.pairwise_cons.1 hp
    rcases List.mem_cons.1 hv with rfl | hv
    · rw [List.find?_cons_of_pos (by simp [h])]
    · rw [List.find?_cons_of_neg]
      · exact ih p2 hv
      · have := p1 v hv
        simp only [Bool.and_eq_true, decide_eq_true_eq]
        rintro ⟨⟨q1, q2⟩, q3⟩
        exact this ⟨q1.trans h.1.symm, q2.trans h.2.1.symm, q3.trans h.2.2.symm⟩
theorem atPl_none {m : List Vt} {r s f : Int} (h : ∀ v ∈ m, ¬ (v.r = r ∧ v.s = s ∧ v.f = f)) : atPl m r s f = none := by
  unfold atPl
  rw [List.find?_eq_none]
  intro v hv
  have := h v hv
  simp only [Bool.and_eq_true, decide_eq_true_eq]
  exact fun q => this ⟨q.1.1, q.1.2, q.2⟩
theorem atPl_none_iff {m : List Vt} {r s f : Int} : atPl m r s f = none ↔ ∀ v ∈ m, ¬ (v.r = r ∧ v.s = s ∧ v.f = f) := by
  refine ⟨fun h v hv q => ?_, atPl_none⟩
  unfold atPl at h
  rw [List.find?_eq_none] at h
  have := h v hv
  simp [q] at this
theorem PMap.alloc {w : World} {mb : Nat} {m : List Vt} (h : PMap w mb m) (o : Obj) : PMap (w.alloc o) mb m := by
  obtain ⟨h1, h2, es, clock, hb, hm⟩ := h
  have hl := (Array.getElem?_eq_some_iff.1 hb).1
  exact ⟨h1, h2, es, clock, by rw [Below.heap_alloc _ _ _ hl]; exact hb, hm⟩
theorem PMap.below {w w' : World} {mb B : Nat} {m : List Vt} (h : PMap w mb m) (hb : Below B w w') (hlt : mb < B) : PMap w' mb m := by
  obtain ⟨h1, h2, es, clock, hh, hm⟩ := h
  exact ⟨h1, h2, es, clock, by rw [hb.block mb hlt]; exact hh, hm⟩
theorem PMap.lt {w : World} {mb : Nat} {m : List Vt} (h : PMap w mb m) : mb < w.heap.size := by
  obtain ⟨_, _, es, clock, hb, _⟩ := h
  exact (Array.getElem?_eq_some_iff.1 hb).1
theorem key_inj {a b c d e f : Int} (h : Value.agg #[.int .i64 a, .int .i64 b, .int .i64 c] = .agg #[.int .i64 d, .int .i64 e, .int .i64 f]) : a = d ∧ b = e ∧ c = f := by
  simp at h
  exact h
theorem PMap.find {w : World} {mb : Nat} {m : List Vt} {es : Array MapEntry} (h1 : ∀ v ∈ m, InN3 v.r v.s v.f) (h2 : Plc m) (hm : es.toList.map (fun e => (e.key, e.val)) = m.map fun v => (v.key, v.val)) {r s f : Int} (hk : InN3 r s f) :
    ((Instr.findKey 60 (.agg #[.int .i64 r, .int .i64 s, .int .i64 f]) es.toList).run Try.prog w = .ok none w ∧ atPl m r s f = none) ∨ ∃ j v, (Instr.findKey 60 (.agg #[.int .i64 r, .int .i64 s, .int .i64 f]) es.toList).run Try.prog w = .ok (some (j, v.val)) w ∧ atPl m r s f = some v := by
  obtain ⟨lk, hlk⟩ := place_key hk
  have hmem : ∀ e ∈ es.toList, ∃ v ∈ m, e.key = v.key ∧ e.val = v.val := fun e he => by
    have : (e.key, e.val) ∈ m.map fun v => (v.key, v.val) := by rw [← hm]; exact List.mem_map.2 ⟨e, he, rfl⟩
    obtain ⟨v, hv, q⟩ := List.mem_map.1 this
    simp only [Prod.mk.injEq] at q
    exact ⟨v, hv, q.1.symm, q.2.symm⟩
  have hmem2 : ∀ v ∈ m, ∃ e ∈ es.toList, e.key = v.key := fun v hv => by
    have : (v.key, v.val) ∈ es.toList.map (fun e => (e.key, e.val)) := by rw [hm]; exact List.mem_map.2 ⟨v, hv, rfl⟩
    obtain ⟨e, he, q⟩ := List.mem_map.1 this
    simp only [Prod.mk.injEq] at q
    exact ⟨e, he, q.1⟩
  rcases lawPl.find w hlk es.toList (fun e he => by obtain ⟨v, hv, q, _⟩ := hmem e he; rw [q]; exact place_key (h1 v hv)) with ⟨f1, f2⟩ | ⟨j, e, f1, f2, f3⟩
  · refine .inl ⟨f1, atPl_none fun v hv q => ?_⟩
    obtain ⟨e, he, q2⟩ := hmem2 v hv
    exact f2 e he (by rw [q2, Vt.key, q.1, q.2.1, q.2.2])
  · obtain ⟨v, hv, q1, q2⟩ := hmem e (List.mem_of_getElem? f2)
    refine .inr ⟨j, v, by rw [← q2]; exact f1, atPl_some h2 hv ?_⟩
    rw [f3] at q1
    obtain ⟨g1, g2, g3⟩ := key_inj q1
    exact ⟨g1.symm, g2.symm, g3.symm⟩
/-- What a lookup gives. -/
def lookV (o : Option Vt) : Value := match o with | some v => .tuple #[.agg #[.int .i64 v.h, .int .i64 v.r, .int .i64 v.s, .bool v.has, .int .u64 v.bl, .int .i64 v.f], .bool true] | none => .tuple #[.agg #[.int .i64 0, .int .i64 0, .int .i64 0, .bool false, .int .u64 0, .int .i64 0], .bool false]
theorem PMap.look {w : World} {mb : Nat} {m : List Vt} (h : PMap w mb m) {r s f : Int} (hk : InN3 r s f) :
    (Instr.lookup 54 (.map (some mb)) (.agg #[.int .i64 r, .int .i64 s, .int .i64 f]) true).run Try.prog w = .ok (lookV (atPl m r s f)) w := by
  obtain ⟨h1, h2, es, clock, hb, hm⟩ := h
  obtain ⟨lk, hlk⟩ := place_key hk
  rcases PMap.find (w := w) (mb := mb) h1 h2 hm hk with ⟨f1, f2⟩ | ⟨j, v, f1, f2⟩
  · rw [f2]
    simp [Instr.lookup, run_underlying Try.underlying54, MapKept.run_getObj_map hb, lawPl.check w _ hlk, f1, zeroVt, Result.andThen, lookV]
  · rw [f2]
    simp [Instr.lookup, run_underlying Try.underlying54, MapKept.run_getObj_map hb, lawPl.check w _ hlk, f1, Result.andThen, lookV, Vt.val]
theorem PMap.add {w : World} {mb : Nat} {m : List Vt} (h : PMap w mb m) (v : Vt) (hk : InN3 v.r v.s v.f) (hn : atPl m v.r v.s v.f = none) :
    ∃ w', (Instr.mapUpdate 54 (.map (some mb)) (.agg #[.int .i64 v.r, .int .i64 v.s, .int .i64 v.f]) (.agg #[.int .i64 v.h, .int .i64 v.r, .int .i64 v.s, .bool v.has, .int .u64 v.bl, .int .i64 v.f])).run Try.prog w = .ok () w' ∧ PMap w' mb (m ++ [v]) ∧ w.grownBy w' (some mb) := by
  obtain ⟨h1, h2, es, clock, hb, hm⟩ := h
  obtain ⟨lk, hlk⟩ := place_key hk
  rcases PMap.find (w := w) (mb := mb) h1 h2 hm hk with ⟨f1, f2⟩ | ⟨j, v', f1, f2⟩
  · refine ⟨ChangeMaps.setBlock w mb (.map (es.push ⟨v.key, v.val, clock⟩) (clock + 1)), ?_, ⟨?_, ?_, _, _, ChangeMaps.heap_setBlock_same hb _, ?_⟩, ⟨rfl, rfl, rfl, by simp [ChangeMaps.setBlock], fun i _ hi => ChangeMaps.heap_setBlock_other hb _ (fun e => hi (by rw [e]))⟩⟩
    · simp [Instr.mapUpdate, run_underlying Try.underlying54, MapKept.run_getObj_map hb, lawPl.check w _ hlk, f1, MapKept.run_setObj_map _ hb, Result.andThen, ChangeMaps.setBlock, Vt.key, Vt.val]
    · intro x hx
      rcases List.mem_append.1 hx with hx | hx
      · exact h1 x hx
      · rw [List.mem_singleton.1 hx]; exact hk
    · refine List.pairwise_append.2 ⟨h2, by simp, fun a ha b hb2 => ?_⟩
      rw [List.mem_singleton.1 hb2]
      exact atPl_none_iff.1 hn a ha
    · simp [hm]
  · rw [hn] at f2; cases f2
end Go.Proofs.Ytimcddknoanghaa
