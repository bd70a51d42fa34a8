/- A row of bytes that grows, in its place or in a new one. -/
import Derived.Test.YtemlbcagkjmjgaaDoorM07
import Derived.Laws.AppendOwn
import Derived.Laws.BytesArg
import Derived.OwnWalk
import Derived.RangeFuncNested
import Derived.RangeFuncBound
import Derived.RangeFuncCalls
import Derived.RangeFuncLeaves
import Derived.Shelf.Abstract
import Derived.Shelf.RegionOpen
import Derived.WalkKit
import Derived.OwnWalkIn
import Derived.TacticsInMore
import Derived.LoopNIn
import Derived.LoopIn
import Derived.Test.YtemlbcagkjmjgaaDoorFMem

namespace Go.Proofs.YtemlbcagkjmjgaaDoor
open Go.RowKit
set_option linter.unusedVariables false
set_option linter.unusedSimpArgs false

theorem infoByteF : (Tryd.prog.info? 5).map (fun i => (i.zero, i.size, i.bytes)) = some (some (.int .u8 0), 1, 1) := by kernel_rfl
def bcellsF (l : Key) : List Value := l.map fun b => Value.int .u8 b.toNat
/-- The slice v holds these bytes, in a row from base on. -/
abbrev WayAt (w : World) (base : Nat) (v : Value) (way : Key) : Prop := w.ownsRow base 5 1 v way.length (bcellsF way)
theorem conv_way {w : World} {base : Nat} {v : Value} {out : Key} (h : WayAt w base v out) : (convert 123 9 v).run Tryd.prog w = .ok (.string (str out)) w := by
  rcases h.2 with ⟨rfl, h0⟩ | ⟨g, cap, cur, rfl, _⟩
  · have e : out = [] := List.eq_nil_of_length_eq_zero h0
    subst e
    exact run_convert_bytes_nil (P := Tryd.prog) w 123 5 Tryd.underlying123 Tryd.underlying5 0 0 9 Tryd.underlying9
  · have hc := run_convert_bytes_arg (P := Tryd.prog) w 123 5 Tryd.underlying123 Tryd.underlying5 g 0 out.length cap (out.map fun b => (b.toNat : Int)) (by simp) (fun i hi => by
      have hx := h.cells (g := g) rfl i (Value.int .u8 (out[i].toNat : Int)) (by simp [bcellsF, hi])
      rw [show (⟨g, 0, none⟩ : Addr).add i = ⟨g, 0 + i, none⟩ by unfold Addr.add; split <;> simp_all] at hx
      rw [hx]
      simp [List.getD, hi]) 9 Tryd.underlying9
    have e : strOfNums (out.map fun b => (b.toNat : Int)) = str out := by
      unfold strOfNums
      rw [List.map_map, List.map_congr_left (g := id) (fun b _ => by simp), List.map_id]
      rfl
    rw [hc, e]

/-- Where the longer row lies. -/
def Grew (w : World) (v v' : Value) (n : Nat) (w' : World) : Prop :=
  (∃ g cap, v = .slice (some ⟨g, 0, none⟩) n cap ∧ v' = .slice (some ⟨g, 0, none⟩) (n + 1) cap ∧ w.grownBy w' (some g)) ∨ (∃ cap, v' = .slice (some ⟨w.heap.size, 0, none⟩) (n + 1) cap ∧ w.grownBy w' none)
theorem app_byte (w : World) (base : Nat) (v : Value) (way : Key) (c : UInt8) (tb : Nat) (h : WayAt w base v way) (hc : w.cell? ⟨tb, 0, none⟩ = some (.int .u8 c.toNat)) (hn : way.length ≤ 100000000) (hb : base ≤ w.heap.size) :
    ∃ v' w', (Builtin.append_ #[123, 123] 123 #[v, .slice (some ⟨tb, 0, none⟩) 1 1]).run Tryd.prog w = .ok v' w' ∧ WayAt w' base v' (way ++ [c]) ∧ Grew w v v' way.length w' := by
  obtain ⟨i, hi, hz, hs, hby⟩ := info_parts infoByteF
  have hnews : ∀ j u, ([Value.int .u8 c.toNat] : List Value)[j]? = some u → w.cell? ((⟨tb, 0, none⟩ : Addr).add j) = some u := by
    intro j u hj
    cases j with
    | zero => simp at hj; subst hj; simpa [Addr.add] using hc
    | succ j => simp at hj
  have hl : ([Value.int .u8 c.toNat] : List Value).length = 1 * i.size := by rw [hs]; rfl
  have h1 : ∀ u ∈ ([Value.int .u8 c.toNat] : List Value), u.oneCell' = true := by intro u hu; simp at hu; subst hu; rfl
  have hlen : (bcellsF (way ++ [c])).length = (way ++ [c]).length * 1 := by simp [bcellsF]
  have happ : bcellsF (way ++ [c]) = bcellsF way ++ [Value.int .u8 c.toNat] := by simp [bcellsF]
  have hsz : (way ++ [c]).length = way.length + 1 := by simp
  rcases h.2 with ⟨rfl, h0⟩ | ⟨g, cap, cur, rfl, hbg, hg, hnc, hcm, hcs, htake⟩
  · have e : way = [] := List.eq_nil_of_length_eq_zero h0
    subst e
    have hr := run_append_nil (P := Tryd.prog) w 123 123 5 i _ Tryd.underlying123 hi hz ⟨tb, 0, none⟩ 1 1 _ hl hnews (by omega) (by omega) (by rw [hby]; omega)
    refine ⟨_, _, hr, ⟨hlen, .inr ⟨w.heap.size, grownCap w 1 0 5, _, rfl, hb, heap_alloc_new w.drew _, by rw [hsz]; exact grownCap_ge w 1 0 _, grownCap_le_maxLen w 1 0 _ (by unfold maxLen; omega), ?_, ?_⟩⟩, .inr ⟨_, rfl, ⟨rfl, rfl, rfl, by simp, fun k hk _ => heap_alloc_old w.drew _ hk⟩⟩⟩
    · have hge := grownCap_ge w 1 0 5
      simp only [Array.size_append, List.size_toArray, List.length_singleton, size_zeroCells, Value.cells]
      omega
    · simp [bcellsF]
  · by_cases hroom : way.length + 1 ≤ cap
    · have hfit : way.length * i.size + ([Value.int .u8 c.toNat] : List Value).length ≤ cur.size := by rw [hs, hcs]; simp; omega
      have hr := run_append_room (P := Tryd.prog) w 123 123 5 i Tryd.underlying123 hi g way.length cap cur hg ⟨tb, 0, none⟩ 1 1 _ hl hnews h1 hroom hfit
      refine ⟨_, _, hr, ⟨hlen, .inr ⟨g, cap, _, by rw [hsz], hbg, setRow_heap w g cur _ _ _ hg, by rw [hsz]; exact hroom, hcm, ?_, ?_⟩⟩, .inl ⟨g, cap, rfl, rfl, ⟨rfl, rfl, rfl, by simp, fun k _ hk => setRow_other w g k _ (fun e => hk (by rw [e]))⟩⟩⟩
      · rw [hs] at hfit ⊢
        simp only [List.size_toArray, List.length_append, List.length_take, List.length_drop, Array.length_toList, List.length_singleton] at hfit ⊢
        omega
      · rw [hs, Nat.mul_one, Nat.mul_one, hsz, happ]
        rw [Nat.mul_one] at htake
        rw [htake]
        have e1 : way.length + 1 = (bcellsF way ++ [Value.int .u8 c.toNat]).length := by simp [bcellsF]
        rw [e1]
        exact List.take_left
    · have holds : ∀ j u, (bcellsF way)[j]? = some u → w.cell? ((⟨g, 0, none⟩ : Addr).add j) = some u := h.cells (g := g) rfl
      have hr := run_append_grow (P := Tryd.prog) w 123 123 5 i _ Tryd.underlying123 hi hz ⟨g, 0, none⟩ way.length cap (bcellsF way) (by rw [hs]; simp [bcellsF]) holds ⟨tb, 0, none⟩ 1 1 _ hl hnews (by omega) (by omega) (growslice_fits (by omega) (by rw [hby]; omega))
      refine ⟨_, _, hr, ⟨hlen, .inr ⟨w.heap.size, _, _, by rw [hsz], hb, heap_alloc_new w.drew _, by rw [hsz]; exact grownCap_ge w _ _ _, grownCap_le_maxLen w _ _ _ (by unfold maxLen; omega), ?_, ?_⟩⟩, .inr ⟨_, rfl, ⟨rfl, rfl, rfl, by simp, fun k hk _ => heap_alloc_old w.drew _ hk⟩⟩⟩
      · have hge := grownCap_ge w (way.length + 1) cap 5
        simp only [Array.size_append, List.size_toArray, List.length_singleton, size_zeroCells, Value.cells, bcellsF, List.length_map]
        omega
      · rw [Nat.mul_one, hsz, happ]
        simp only [Array.toList_append, List.append_assoc]
        rw [← List.append_assoc]
        have e1 : way.length + 1 = (bcellsF way ++ [Value.int .u8 c.toNat]).length := by simp [bcellsF]
        rw [e1]
        exact List.take_left
end Go.Proofs.YtemlbcagkjmjgaaDoor

namespace Go.Proofs.YtemlbcagkjmjgaaDoor
open Go.RowKit Go.Shelf
attribute [local go_sem] Oper.semAt_some
set_option linter.unusedVariables false
set_option linter.unusedSimpArgs false

/-- What the places' walk itself does: it makes memory, and writes rows of bytes. -/
structure Gn (base : Nat) (A B : World) : Prop where
  below : Below base A B
  same : ∀ (k : Nat) (o : Obj), A.heap[k]? = some o → (∀ cs fz, o ≠ .cells cs 5 fz) → B.heap[k]? = some o
theorem Gn.trans {base : Nat} {A B C : World} (h : Gn base A B) (g : Gn base B C) : Gn base A C := ⟨h.below.trans g.below, fun k o h0 hn => g.same k o (h.same k o h0 hn) hn⟩
theorem Gn.alloc {base : Nat} {A : World} (hb : base ≤ A.heap.size) (o : Obj) : Gn base A (A.alloc o) := ⟨(Below.refl _ _).alloc hb o, fun k o' h _ => (Below.heap_alloc _ _ _ (Array.getElem?_eq_some_iff.1 h).1).trans h⟩
theorem Gn.grew {base n : Nat} {w w' : World} {v v' : Value} {way : Key} (hb : base ≤ w.heap.size) (h : WayAt w base v way) (hg : Grew w v v' n w') : Gn base w w' := by
  rcases hg with ⟨g, cap, e1, _, hg⟩ | ⟨cap, _, hg⟩
  · rcases h.2 with ⟨e, _⟩ | ⟨g', cap', cur, e, hbg, hcur, _⟩
    · rw [e1] at e; cases e
    · rw [e1] at e
      have e2 : g = g' := by injection e with e; injection e with e; injection e
      subst e2
      refine ⟨⟨hg.os, hg.tape, hg.output, hg.size, fun k hk => hg.block k (by omega) (fun e => by injection e with e; omega)⟩, fun k o ho hn => (hg.block k (Array.getElem?_eq_some_iff.1 ho).1 (fun e => ?_)).trans ho⟩
      injection e with e
      subst e
      rw [hcur] at ho
      injection ho with ho
      exact hn _ _ ho.symm
  · exact ⟨⟨hg.os, hg.tape, hg.output, hg.size, fun k hk => hg.block k (by omega) (fun e => by cases e)⟩, fun k o ho _ => (hg.block k (Array.getElem?_eq_some_iff.1 ho).1 (fun e => by cases e)).trans ho⟩
/-- What a round keeps for it: rows of bytes, and places. -/
structure Yk (W W' : World) : Prop where
  size : W.heap.size ≤ W'.heap.size
  same : ∀ (k : Nat) (cs : Array Value) (t : TypeId) (fz : Nat × Nat), W.heap[k]? = some (.cells cs t fz) → (t = 5 ∨ t = 64) → W'.heap[k]? = some (.cells cs t fz)
/-- What is kept of them behind a part of the walk that was given the row v. -/
structure Ek (v : Value) (W W' : World) : Prop where
  size : W.heap.size ≤ W'.heap.size
  same : ∀ (k : Nat) (cs : Array Value) (t : TypeId) (fz : Nat × Nat), W.heap[k]? = some (.cells cs t fz) → (t = 64 ∨ (t = 5 ∧ some k ≠ v.ownBlock)) → W'.heap[k]? = some (.cells cs t fz)
theorem Ek.trans {v : Value} {A B C : World} (h : Ek v A B) (g : Ek v B C) : Ek v A C := ⟨Nat.le_trans h.size g.size, fun k cs t fz h0 hn => g.same k cs t fz (h.same k cs t fz h0 hn) hn⟩
theorem Ek.of_yk {v : Value} {A B : World} (h : Yk A B) : Ek v A B := ⟨h.size, fun k cs t fz h0 hn => h.same k cs t fz h0 (hn.elim .inr fun q => .inl q.1)⟩
theorem Ek.refl (v : Value) (A : World) : Ek v A A := ⟨Nat.le_refl _, fun _ _ _ _ h _ => h⟩
theorem Ek.place {v : Value} {A B : World} (h : Ek v A B) {t : PT} {up : Option Addr} (hp : PlAt A up t) : PlAt B up t := hp.keep fun k cs hk => h.same k cs _ _ hk (.inl rfl)
theorem WayAt.yk {W W' : World} {base : Nat} {v : Value} {way : Key} (h : WayAt W base v way) (hy : Yk W W') : WayAt W' base v way := by
  refine ⟨h.1, ?_⟩
  rcases h.2 with q | ⟨g, cap, cur, e, hb, hg, r⟩
  · exact .inl q
  · exact .inr ⟨g, cap, cur, e, hb, hy.same _ _ _ _ hg (.inl rfl), r⟩
/-- Behind one side: the row is as it was, up to its end. -/
theorem side_back {base : Nat} {w w1 w2 : World} {v v1 : Value} {way : Key} {c : UInt8} (o : Obj) (hbs : base ≤ w.heap.size) (h : WayAt w base v way) (hg : Grew (w.alloc o) v v1 way.length w1) (h1 : WayAt w2 base v1 (way ++ [c])) (hk : Ek v1 w1 w2) : Ek v w w2 ∧ WayAt w2 base v way := by
  have hal : ∀ k x, w.heap[k]? = some x → (w.alloc o).heap[k]? = some x := fun k x hx => (Below.heap_alloc _ _ _ (Array.getElem?_eq_some_iff.1 hx).1).trans hx
  rcases hg with ⟨g, cap, e1, e2, hg⟩ | ⟨cap, e2, hg⟩
  · subst e1
    subst e2
    refine ⟨⟨Nat.le_trans (by have := hg.size; simp at this; omega) hk.size, fun k cs t fz h0 hn => hk.same k cs t fz ((hg.block k (by simp; have := (Array.getElem?_eq_some_iff.1 h0).1; omega) (fun e => ?_)).trans (hal k _ h0)) hn⟩, h.1, .inr ?_⟩
    · injection e with e
      subst e
      rcases h.2 with ⟨e, _⟩ | ⟨g', cap', cur, e, hbg, hcur, _⟩
      · cases e
      · have e3 : k = g' := by injection e with e; injection e with e; injection e
        subst e3
        rw [hcur] at h0
        injection h0 with h0
        injection h0 with h3 h4 h5
        rcases hn with hn | hn
        · rw [← h4] at hn; exact absurd hn (by decide)
        · exact hn.2 rfl
    · rcases h1.2 with ⟨e, _⟩ | ⟨g', cap', cur, e, hbg, hcur, h3, h4, h5, h6⟩
      · cases e
      · have e3 : g = g' ∧ cap = cap' := by injection e with e _ e4; injection e with e; injection e with e; exact ⟨e, e4⟩
        obtain ⟨rfl, rfl⟩ := e3
        refine ⟨g, cap, cur, rfl, hbg, hcur, by simp at h3; omega, h4, h5, ?_⟩
        have h7 := congrArg (List.take way.length) h6
        rw [List.take_take] at h7
        simp only [List.length_append, List.length_singleton, Nat.mul_one] at h7 ⊢
        rw [show min way.length (way.length + 1) = way.length by omega] at h7
        rw [h7]
        unfold bcellsF
        rw [List.map_append, List.take_left' (by simp)]
  · subst e2
    have hsz : (w.alloc o).heap.size = w.heap.size + 1 := by simp
    have same : ∀ (k : Nat) (cs : Array Value) (t : TypeId) (fz : Nat × Nat), w.heap[k]? = some (.cells cs t fz) → (t = 64 ∨ t = 5) → w2.heap[k]? = some (.cells cs t fz) := fun k cs t fz h0 hn => hk.same k cs t fz ((hg.block k (by have := (Array.getElem?_eq_some_iff.1 h0).1; omega) (fun e => by cases e)).trans (hal k _ h0)) (hn.elim .inl fun q => .inr ⟨q, fun e => by
      have := (Array.getElem?_eq_some_iff.1 h0).1
      simp only [Value.ownBlock, Option.some.injEq] at e
      omega⟩)
    refine ⟨⟨Nat.le_trans (by have := hg.size; omega) hk.size, fun k cs t fz h0 hn => same k cs t fz h0 (hn.elim .inl fun q => .inr q.1)⟩, h.1, ?_⟩
    rcases h.2 with q | ⟨g, cap, cur, e, hb, hgc, r⟩
    · exact .inl q
    · exact .inr ⟨g, cap, cur, e, hb, same _ _ _ _ hgc (.inr rfl), r⟩
theorem WayAt.alloc {W : World} {base : Nat} {v : Value} {way : Key} (h : WayAt W base v way) (o : Obj) : WayAt (W.alloc o) base v way := World.ownsRow.alloc h o

def PT.depth : PT → Nat
  | .no => 0
  | .is _ _ l r => 1 + max l.depth r.depth
def PT.ways (t : PT) (p : Key) : List Key := (t.wants p).map Prod.fst
end Go.Proofs.YtemlbcagkjmjgaaDoor
