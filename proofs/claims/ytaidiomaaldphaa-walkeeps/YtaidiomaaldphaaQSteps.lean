/- Steps and votes in memory. -/
import Derived.Test.YtaidiomaaldphaaQState
namespace Go.Proofs.Ytaidiomaaldphaa
open Go.RowKit
set_option linter.unusedVariables false
set_option linter.unusedSimpArgs false

/-- A step. -/
structure Sp where
  k : Int
  a : Int
  b : Int
  h : Int
  r : Int
  s : Int
  has : Bool
  bl : Int
  f : Int
def Sp.cells (x : Sp) : List Value := [.int .i64 x.k, .int .i64 x.a, .int .i64 x.b, .int .i64 x.h, .int .i64 x.r, .int .i64 x.s, .bool x.has, .int .u64 x.bl, .int .i64 x.f]
def Sp.In (x : Sp) : Prop := InN x.k ∧ InN x.a ∧ InN x.b ∧ InN x.h
/-- A list of steps in memory. -/
def StepsAt (w : World) (la : Option Addr) (l : List Sp) : Prop :=
  l = [] ∨ ∃ b off, la = some ⟨b, off, none⟩ ∧ b < w.heap.size ∧ ∀ i x, l[i]? = some x → ∀ j u, x.cells[j]? = some u → w.cell? ⟨b, off + i * 9 + j, none⟩ = some u
theorem StepsAt.below {w w' : World} {la : Option Addr} {l : List Sp} (h : StepsAt w la l) (hb : Below w.heap.size w w') : StepsAt w' la l := by
  rcases h with h | ⟨b, off, e, hl, hc⟩
  · exact .inl h
  · exact .inr ⟨b, off, e, Nat.lt_of_lt_of_le hl hb.size, fun i x hx j u hu => by rw [hb.cell (p := ⟨b, off + i * 9 + j, none⟩) hl]; exact hc i x hx j u hu⟩
theorem StepsAt.one {w w' : World} {la : Option Addr} {l : List Sp} (h : StepsAt w la l) (hb : Below w.heap.size w w') {i : Nat} (hi : i < l.length) : ∃ b off, la = some ⟨b, off, none⟩ ∧ b < w'.heap.size ∧ w'.cell? ⟨b, off + i * 9, none⟩ = some (.int .i64 l[i].k) ∧ w'.cell? ⟨b, off + i * 9 + 1, none⟩ = some (.int .i64 l[i].a) ∧ w'.cell? ⟨b, off + i * 9 + 2, none⟩ = some (.int .i64 l[i].b) ∧ w'.cell? ⟨b, off + i * 9 + 3, none⟩ = some (.int .i64 l[i].h) ∧ w'.cell? ⟨b, off + i * 9 + 4, none⟩ = some (.int .i64 l[i].r) ∧ w'.cell? ⟨b, off + i * 9 + 5, none⟩ = some (.int .i64 l[i].s) ∧ w'.cell? ⟨b, off + i * 9 + 6, none⟩ = some (.bool l[i].has) ∧ w'.cell? ⟨b, off + i * 9 + 7, none⟩ = some (.int .u64 l[i].bl) ∧ w'.cell? ⟨b, off + i * 9 + 8, none⟩ = some (.int .i64 l[i].f) := by
  rcases h with h | ⟨b, off, e, hl, hc⟩
  · rw [h] at hi; simp at hi
  · have k : ∀ j u, (l[i].cells)[j]? = some u → w'.cell? ⟨b, off + i * 9 + j, none⟩ = some u := fun j u hu => by rw [hb.cell (p := ⟨b, off + i * 9 + j, none⟩) hl]; exact hc i _ (List.getElem?_eq_getElem hi) j u hu
    exact ⟨b, off, e, Nat.lt_of_lt_of_le hl hb.size, k 0 _ rfl, k 1 _ rfl, k 2 _ rfl, k 3 _ rfl, k 4 _ rfl, k 5 _ rfl, k 6 _ rfl, k 7 _ rfl, k 8 _ rfl⟩
def Vk.vc (v : Vk) : List Value := [.int .i64 v.h, .int .i64 v.r, .int .i64 1, .bool false, .int .u64 0, .int .i64 v.f]
def flatK (A : List Vk) : List Value := A.flatMap Vk.vc
theorem vc_len (v : Vk) : v.vc.length = 6 := rfl
theorem rc_len (v : Vk) : v.rc.toList.length = 38 := rfl
theorem flatK_take (A : List Vk) (j : Nat) (hj : j ≤ A.length) : flatK (A.take j) = (flatK A).take (j * 6) := by
  induction A generalizing j with
  | nil => simp [flatK]
  | cons a r ih =>
    cases j with
    | zero => simp [flatK]
    | succ j =>
      have h := ih j (by simpa using hj)
      simp only [flatK, List.take_succ_cons, List.flatMap_cons] at h ⊢
      have h6 : a.vc.take ((j + 1) * 6) = a.vc := List.take_of_length_le (by rw [vc_len]; omega)
      rw [h, List.take_append, vc_len, h6, show (j + 1) * 6 - 6 = j * 6 by omega]
theorem owns_takeK {w : World} {base : Nat} {a : Option Addr} {c : Nat} {A : List Vk} (h : w.ownsRow base 29 6 (.slice a A.length c) A.length (flatK A)) (k : Nat) (hk : k ≤ A.length) : w.ownsRow base 29 6 (.slice a k c) (A.take k).length (flatK (A.take k)) := by
  have hl : (A.take k).length = k := by rw [List.length_take]; omega
  rw [hl]
  obtain ⟨h1, h2⟩ := h
  refine ⟨by rw [flatK_take A k hk, List.length_take, h1]; omega, ?_⟩
  rcases h2 with ⟨e, h0⟩ | ⟨g, cap, cur, e, e2, e3, e4, e5, e6, e7⟩
  · obtain rfl : k = 0 := by omega
    left
    simp only [Value.slice.injEq] at e
    obtain ⟨rfl, _, rfl⟩ := e
    exact ⟨rfl, rfl⟩
  · right
    simp only [Value.slice.injEq, true_and] at e
    obtain ⟨rfl, rfl⟩ := e
    refine ⟨g, c, cur, rfl, e2, e3, by omega, e5, e6, ?_⟩
    rw [flatK_take A k hk, ← e7, List.take_take]
    congr 1
    omega
theorem owns_capK {w : World} {base : Nat} {a : Option Addr} {n c : Nat} {xs : List Value} (h : w.ownsRow base 29 6 (.slice a n c) n xs) : n ≤ c := by
  rcases h.2 with ⟨e, h0⟩ | ⟨g, cap, cur, e, e2, e3, e4, e5, e6, e7⟩
  · omega
  · simp only [Value.slice.injEq, true_and] at e
    obtain ⟨rfl, rfl⟩ := e
    omega
theorem infoVote : (Try.prog.info? 29).map (fun i => (i.zero, i.size, i.bytes)) = some (some (.agg #[.int .i64 0, .int .i64 0, .int .i64 0, .bool false, .int .u64 0, .int .i64 0]), 6, 48) := by kernel_rfl
/-- The loop under way: the log, what was written, the row of it. -/
structure Wk (w w2 : World) (lb : Nat) (A : List Vk) (s : Nat) (dn : Bool) (av : Value) : Prop where
  ls : LS w2 lb A s dn
  own : w2.ownsRow (lb + 1) 29 6 av A.length (flatK A)
  bel : Below w.heap.size w w2
  lb0 : w.heap.size ≤ lb
theorem Wk.next {w w2 w3 : World} {lb : Nat} {A : List Vk} {s : Nat} {dn : Bool} {av : Value} (h : Wk w w2 lb A s dn av) (hb : Below w2.heap.size w2 w3) : Wk w w3 lb A s dn av :=
  ⟨h.ls.below hb, owns_below h.own hb, h.bel.trans (hb.mono h.bel.size), h.lb0⟩
theorem Wk.kp {w w2 w3 : World} {lb : Nat} {A A' : List Vk} {s s' : Nat} {dn d' : Bool} {av : Value} (h : Wk w w2 lb A s dn av) (K : Kp lb lb w2 w3) (L : LS w3 lb A' s' d') : LS w3 lb A' s' d' ∧ w3.ownsRow (lb + 1) 29 6 av A.length (flatK A) ∧ Below w.heap.size w w3 ∧ w.heap.size ≤ lb :=
  ⟨L, owns_kp h.own (by decide) (fun g hg e => by have := (h.own.lt g hg).1; omega) K, h.bel.trans (K.below.mono h.lb0), h.lb0⟩
theorem LS.row {w w' : World} {lb n sz : Nat} {A : List Vk} {s : Nat} {dn : Bool} {v : Value} {xs : List Value} {w0 : World} (h : LS w lb A s dn) (hg : w.grownBy w' v.ownBlock) (ho : w0.ownsRow (lb + 1) 29 sz v n xs) (h0 : ∀ g, v.ownBlock = some g → w.heap[g]? = w0.heap[g]?) : LS w' lb A s dn := by
  obtain ⟨m, sf, lf, kp, ⟨lv, hk, hl⟩, r⟩ := h
  refine ⟨m, sf, lf, kp, ⟨lv, hk.grown hg (fun e => by have := (ho.lt lb e).1; omega), ?_⟩, r⟩
  refine ⟨hl.1, ?_⟩
  rcases hl.2 with k2 | ⟨g, cap, cur, e1, h1, h2, h3⟩
  · exact .inl k2
  · refine .inr ⟨g, cap, cur, e1, h1, ?_, h3⟩
    rw [hg.block g (Array.getElem?_eq_some_iff.1 h2).1 (fun e => ?_)]
    · exact h2
    · have hq := h0 g e.symm
      rw [h2] at hq
      rcases ho.2 with ⟨q, _⟩ | ⟨g', cap', cur', q, q1, q2, q3⟩
      · rw [q] at e; simp [Value.ownBlock] at e
      · rw [q] at e
        simp [Value.ownBlock] at e
        subst e
        rw [q2] at hq
        simp only [Option.some.injEq, Obj.cells.injEq] at hq
        exact absurd hq.2.1 (by decide)
theorem bel_al {w0 w : World} (h : Below w0.heap.size w0 w) (o : Obj) : Below w0.heap.size w0 (w.alloc o) := h.alloc h.size o
theorem Wk.mk' {w w3 : World} {lb : Nat} {A : List Vk} {s : Nat} {d : Bool} {av : Value} (h : LS w3 lb A s d ∧ w3.ownsRow (lb + 1) 29 6 av A.length (flatK A) ∧ Below w.heap.size w w3 ∧ w.heap.size ≤ lb) : Wk w w3 lb A s d av := ⟨h.1, h.2.1, h.2.2.1, h.2.2.2⟩
end Go.Proofs.Ytaidiomaaldphaa
