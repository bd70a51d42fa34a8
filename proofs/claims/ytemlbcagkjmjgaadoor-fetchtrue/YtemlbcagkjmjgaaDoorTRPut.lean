/- The answer's Put. -/
import Derived.Test.YtemlbcagkjmjgaaDoorM35
import Derived.Lib.AppendStr
import Derived.Deep.AppendLies
import Derived.Deep.RegionLaw
import Derived.WalkSmall
namespace Go.Proofs.YtemlbcagkjmjgaaDoor
open Go.RowKit
set_option linter.unusedVariables false
set_option linter.unusedSimpArgs false

/-- The cells of a list of items. -/
def flat (l : List (Key × Key)) : List Value := l.flatMap fun x => [.string (str x.1), .string (str x.2)]
theorem flat_len (l : List (Key × Key)) : (flat l).length = l.length * 2 := by
  induction l with
  | nil => rfl
  | cons x r ih => simp only [flat, List.flatMap_cons, List.length_append, List.length_cons, List.length_nil] at ih ⊢; omega
theorem flat_snoc (l : List (Key × Key)) (x : Key × Key) : flat (l ++ [x]) = flat l ++ [.string (str x.1), .string (str x.2)] := by simp [flat]
theorem flat_get : ∀ (l : List (Key × Key)) (i : Nat) (x : Key × Key), l[i]? = some x → (flat l)[i * 2]? = some (.string (str x.1)) ∧ (flat l)[i * 2 + 1]? = some (.string (str x.2))
  | [], i, x, h => by simp at h
  | y :: r, 0, x, h => by simp only [List.getElem?_cons_zero, Option.some.injEq] at h; subst h; simp [flat]
  | y :: r, i + 1, x, h => by
    rw [List.getElem?_cons_succ] at h
    obtain ⟨h1, h2⟩ := flat_get r i x h
    have e1 : (i + 1) * 2 = i * 2 + 1 + 1 := by omega
    rw [e1]
    simp only [flat, List.flatMap_cons, List.cons_append, List.nil_append, List.getElem?_cons_succ] at h1 h2 ⊢
    exact ⟨h1, h2⟩

theorem infoItem : (Tryd.prog.info? 56).map (fun i => (i.zero, i.size, i.bytes)) = some (some (.agg #[.string ⟨#[]⟩, .string ⟨#[]⟩]), 2, 32) := by kernel_rfl

/-- A row of items of the call's own is a list of items. -/
theorem ItemsAt.of_owns {w : World} {base : Nat} {sv : Value} {m : List (Key × Key)} (h : w.ownsRow base 56 2 sv m.length (flat m)) : ∃ la cap, sv = .slice la m.length cap ∧ ItemsAt w la m := by
  rcases h.2 with ⟨e, h0⟩ | ⟨g, cap, cur, e, _, hg, hc, hcm, hs, ht⟩
  · have : m = [] := List.eq_nil_of_length_eq_zero h0
    subst this
    exact ⟨none, 0, e, .inl rfl⟩
  · refine ⟨_, cap, e, .inr ⟨g, 0, rfl, (Array.getElem?_eq_some_iff.1 hg).1, fun i x hx => ?_⟩⟩
    obtain ⟨f1, f2⟩ := flat_get m i x hx
    have hi : i < m.length := (List.getElem?_eq_some_iff.1 hx).1
    have key : ∀ j v, (flat m)[j]? = some v → w.cell? ⟨g, j, none⟩ = some v := by
      intro j v hj
      rw [← ht] at hj
      have hjl : j < m.length * 2 := by
        have := (List.getElem?_eq_some_iff.1 hj).1
        rw [List.length_take] at this
        omega
      rw [List.getElem?_take_of_lt hjl] at hj
      simp only [World.cell?, hg]
      simpa using hj
    refine ⟨?_, ?_⟩
    · rw [Nat.zero_add]; exact key _ _ f1
    · rw [Nat.zero_add]; exact key _ _ f2

/-- The answer's Put under way: m has come. -/
structure RPut (w0 : World) (W : Int) (la : Option Addr) (cap : Nat) (l m : List (Key × Key)) (sv : Value) (w : World) : Prop where
  below : Below w0.heap.size w0 w
  t : Blk w w0.heap.size #[.int .i64 W, .slice la l.length cap] 36
  r : Blk w (w0.heap.size + 1) #[.int .i64 0, .slice none 0 0] 36
  o : Blk w (w0.heap.size + 2) #[.int .i64 W, sv] 36
  own : w.ownsRow (w0.heap.size + 3) 56 2 sv m.length (flat m)
theorem RPut.next {w0 w w' : World} {W : Int} {la : Option Addr} {cap : Nat} {l m : List (Key × Key)} {sv : Value} (h : RPut w0 W la cap l m sv w) (hb : Below w.heap.size w w') : RPut w0 W la cap l m sv w' :=
  ⟨h.below.trans (hb.mono h.below.size), h.t.below hb h.t.lt, h.r.below hb h.r.lt, h.o.below hb h.o.lt, by
    obtain ⟨h1, h2⟩ := h.own
    refine ⟨h1, ?_⟩
    rcases h2 with h2 | ⟨g, cap, cur, e1, e2, e3, e4⟩
    · exact .inl h2
    · exact .inr ⟨g, cap, cur, e1, e2, by rw [hb.block g (Array.getElem?_eq_some_iff.1 e3).1]; exact e3, e4⟩⟩
/-- Behind an append, and the store of what it gave. -/
theorem RPut.appended {w0 w w2 : World} {W : Int} {la : Option Addr} {cap : Nat} {l m : List (Key × Key)} {sv : Value} {g cg : Nat} (h : RPut w0 W la cap l m sv w) (x : Key × Key)
    (hown : w2.ownsRow (w0.heap.size + 3) 56 2 (.slice (some ⟨g, 0, none⟩) (m.length + 1) cg) (m.length + 1) (flat m ++ [.string (str x.1), .string (str x.2)]))
    (hgrow : (w.alloc (.cells #[.string (str x.1), .string (str x.2)] 56)).grownBy w2 sv.ownBlock) :
    Blk w2 (w0.heap.size + 2) #[.int .i64 W, sv] 36 ∧ RPut w0 W la cap l (m ++ [x]) (.slice (some ⟨g, 0, none⟩) (m.length + 1) cg) (w2.setCell ⟨w0.heap.size + 2, 1, none⟩ (.slice (some ⟨g, 0, none⟩) (m.length + 1) cg)) := by
  have hne : ∀ k, sv.ownBlock = some k → w0.heap.size + 3 ≤ k := fun k e => (h.own.lt k e).1
  have b2 : Below w0.heap.size w0 w2 := (h.below.alloc h.below.size _).grown hgrow (by have := h.below.size; simp; omega) (fun k e => by have := hne k e; omega)
  have t2 := (h.t.alloc (.cells #[.string (str x.1), .string (str x.2)] 56)).grown hgrow (fun e => by have := hne _ e; omega)
  have r2 := (h.r.alloc (.cells #[.string (str x.1), .string (str x.2)] 56)).grown hgrow (fun e => by have := hne _ e; omega)
  have o2 := (h.o.alloc (.cells #[.string (str x.1), .string (str x.2)] 56)).grown hgrow (fun e => by have := hne _ e; omega)
  refine ⟨o2, b2.setCell (p := ⟨w0.heap.size + 2, 1, none⟩) (by simp) _, t2.setOther _ (by show _ ≠ w0.heap.size + 2; omega) _, r2.setOther _ (by show _ ≠ w0.heap.size + 2; omega) _, o2.set 1 _, ?_⟩
  have := ownsRow_setCell_below hown (a := ⟨w0.heap.size + 2, 1, none⟩) (by simp) (.slice (some ⟨g, 0, none⟩) (m.length + 1) cg)
  rw [flat_snoc, List.length_append]
  exact this
end Go.Proofs.YtemlbcagkjmjgaaDoor
