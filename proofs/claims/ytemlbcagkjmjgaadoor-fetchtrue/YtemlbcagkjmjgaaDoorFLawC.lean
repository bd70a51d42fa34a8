/- FetchTrue: steps in memory; a node's variable is written anew; nodes are compared. -/
import Derived.Test.YtemlbcagkjmjgaaDoorFLawB
namespace Go.Proofs.YtemlbcagkjmjgaaDoor
open Go.RowKit Go.Maps
set_option linter.unusedVariables false
set_option linter.unusedSimpArgs false

/-- A step. -/
structure Fs where
  fr : Int
  a : Int
  t : Int
  n : Nd
  way : Key
def Fs.cells (x : Fs) : List Value := [.int .i64 x.fr, .int .i64 x.a, .int .i64 x.t, .int .i64 x.n.k, .string (str x.n.key), .string (str x.n.val), .int .i64 x.n.pos, .int .u64 x.n.l, .int .u64 x.n.r, .string (str x.way)]
def InF (n : Int) : Prop := -9223372036854775808 ≤ n ∧ n ≤ 9223372036854775807
structure Fs.In (x : Fs) : Prop where
  hf : InF x.fr
  ha : InF x.a
  ht : InF x.t
  hn : x.n.Ok
  hk : x.n.key.length ≤ 140737488355328
  hv : x.n.val.length ≤ 140737488355328
  hw : x.way.length ≤ 140737488355328
/-- A list of steps in memory. -/
def StepsF (w : World) (la : Option Addr) (l : List Fs) : Prop :=
  l = [] ∨ ∃ b off, la = some ⟨b, off, none⟩ ∧ b < w.heap.size ∧ ∀ i x, l[i]? = some x → ∀ j u, x.cells[j]? = some u → w.cell? ⟨b, off + i * 10 + j, none⟩ = some u
theorem StepsF.below {w w' : World} {la : Option Addr} {l : List Fs} (h : StepsF w la l) (hb : Below w.heap.size w w') : StepsF w' la l := by
  rcases h with h | ⟨b, off, e, hl, hc⟩
  · exact .inl h
  · exact .inr ⟨b, off, e, Nat.lt_of_lt_of_le hl hb.size, fun i x hx j u hu => by rw [hb.cell (p := ⟨b, off + i * 10 + j, none⟩) hl]; exact hc i x hx j u hu⟩
/-- One step's cells, in whatever world keeps them. -/
theorem StepsF.one {w : World} {la : Option Addr} {l : List Fs} (h : StepsF w la l) {i : Nat} (hi : i < l.length) : ∃ b off, la = some ⟨b, off, none⟩ ∧ b < w.heap.size ∧ ∀ w' : World, w'.heap[b]? = w.heap[b]? → ∀ (j : Nat) (u : Value), (l[i].cells)[j]? = some u → w'.cell? ⟨b, off + i * 10 + j, none⟩ = some u := by
  rcases h with h | ⟨b, off, e, hl, hc⟩
  · rw [h] at hi; simp at hi
  · refine ⟨b, off, e, hl, fun w' hw j u hu => ?_⟩
    have := hc i _ (List.getElem?_eq_getElem hi) j u hu
    rw [← this]
    exact World.cell?_of_block hw

theorem neq_same (x : Nd) (w : World) : (binOp .neq 28 x.v x.v).run Tryd.prog w = .ok (.bool false) w := by
  obtain ⟨k, key, val, pos, l, r⟩ := x
  simp only [Nd.v]
  simp [go_sem]
theorem neq_other (x y : Nd) (w : World) (h : x ≠ y) : (binOp .neq 28 x.v y.v).run Tryd.prog w = .ok (.bool true) w := by
  obtain ⟨k, key, val, pos, l, r⟩ := x
  obtain ⟨k2, key2, val2, pos2, l2, r2⟩ := y
  simp only [Nd.v]
  have s1 := str_toList key
  have s2 := str_toList key2
  have s3 := str_toList val
  have s4 := str_toList val2
  by_cases h1 : k = k2
  · subst h1
    by_cases h2 : key = key2
    · subst h2
      by_cases h3 : val = val2
      · subst h3
        by_cases h4 : pos = pos2
        · subst h4
          by_cases h5 : l = l2
          · subst h5
            by_cases h6 : r = r2
            · subst h6
              exact (h rfl).elim
            · simp [go_sem, h6]
          · simp [go_sem, h5]
        · simp [go_sem, h4]
      · simp [go_sem, h3, s3, s4]
    · simp [go_sem, h2, s1, s2]
  · simp [go_sem, h1]

section
variable {base : Nat} {w w' : World} {fb : Nat} {wd root : Int} {pt : PT} {o : Option Tr} {bar : List Int} {q : Option Addr} {mb : Nat}
theorem NodeAt.side {nb : Nat} {cs : Array Value} (kn : Blk w nb cs 28) (O : Only nb w w') : ∀ {t : Tr} {b : Nat}, NodeAt wd w b t → NodeAt wd w' b t
  | .leaf k v, b, h => (O.same b (Blk.lt h) (fun e => by subst e; have := kn.symm.trans h; simp at this)).trans h
  | .fork p l r, b, h => by
    obtain ⟨bl, br, h, h1, h2⟩ := h
    exact ⟨bl, br, (O.same b (Blk.lt h) (fun e => by subst e; have := kn.symm.trans h; simp at this)).trans h, NodeAt.side kn O h1, NodeAt.side kn O h2⟩
theorem FetAt.side {nb : Nat} {cs : Array Value} (h : FetAt base w fb wd root pt o bar q mb) (kn : Blk w nb cs 28) (O : Only nb w w') : FetAt base w' fb wd root pt o bar q mb := by
  have hk : ∀ k cs' t, Blk w k cs' t → t ≠ 28 → Blk w' k cs' t := fun k cs' t hb ht => (O.same k hb.lt (fun e => by subst e; have := kn.symm.trans hb; simp at this; exact ht this.2.symm)).trans hb
  refine ⟨hk _ _ _ h.k (by decide), h.pl.keep (fun k cs' q => hk _ _ _ q (by decide)), h.nd, ?_, h.gd, map_same h.m (O.same mb h.mlt (fun e => ?_)), h.lo, h.lp⟩
  · have ht := h.tr
    cases o with
    | none => exact ht
    | some t => obtain ⟨b, e, hn⟩ := ht; exact ⟨b, e, hn.side kn O⟩
  · subst e
    obtain ⟨es, clock, hb, _⟩ := h.m
    cases kn.symm.trans hb
end
section
variable {wN w w' : World} {bt bu fb mb : Nat} {wd : Int} {o0 : Option Tr} {q0 la : Option Addr} {cap k : Nat} {L : List (Key × Int)} {o : Option Tr} {bar : List Int} {n : Nat}
theorem LawAt.side {nb : Nat} {cs : Array Value} (h : LawAt wN bt bu fb mb wd o0 q0 la cap k L o bar n w) (kn : Blk w nb cs 28) (hn : wN.heap.size ≤ nb) (O : Only nb w w') : LawAt wN bt bu fb mb wd o0 q0 la cap k L o bar n w' := by
  obtain ⟨pt, q, H, eL⟩ := h.st
  have hb : Below wN.heap.size w w' := ⟨O.env.1, O.env.2.1, O.env.2.2, O.size, fun k hk => O.same k (Nat.lt_of_lt_of_le hk h.bel.size) (by omega)⟩
  exact ⟨h.kt, h.ku, h.top, h.its, h.g0, h.few, h.okw, ⟨pt, q, H.side kn O, eL⟩, h.pl, h.bel.trans hb, h.b0, h.bl⟩
theorem LawAt.wider (h : LawAt wN bt bu fb mb wd o0 q0 la cap k L o bar n w) {k' : Nat} (hk : k ≤ k') : LawAt wN bt bu fb mb wd o0 q0 la cap k' L o bar n w := ⟨h.kt, h.ku, h.top, h.its, h.g0, h.few, h.okw, h.st, h.pl, h.bel, h.b0, Nat.le_trans h.bl hk⟩
end
theorem six_only {w0 w : World} {b : Nat} (h : Only b w0 w) (v0 v1 v2 v3 v4 v5 : Value) : Only b w0 ((((((w.setCell ⟨b, 0, none⟩ v0).setCell ⟨b, 1, none⟩ v1).setCell ⟨b, 2, none⟩ v2).setCell ⟨b, 3, none⟩ v3).setCell ⟨b, 4, none⟩ v4).setCell ⟨b, 5, none⟩ v5) := (((((h.set 0 _).set 1 _).set 2 _).set 3 _).set 4 _).set 5 _
/-- What lies there where a node was taken that is not the tree's. -/
def ClashAt (wN w5 : World) (wd : Int) (way : Key) (g : Nat) (cs : Array Value) (nb xb : Nat) (y z : Nd) : Prop :=
  Below wN.heap.size wN w5 ∧ NdAt w5 nb y ∧ NdAt w5 xb z ∧ Blk w5 g cs 9 ∧ (overP wd z.k (str z.key) (str z.val) z.pos z.l z.r = overP wd y.k (str y.key) (str y.val) y.pos y.l y.r ∨ (way = [] ∧ wholeP wd z.k (str z.key) (str z.val) z.pos z.l z.r = wholeP wd y.k (str y.key) (str y.val) y.pos y.l y.r))
/-- A node that was swapped lies in its variable. -/
def SwapAt (wB : World) (xv : Value) (wx : World) : Prop := ∃ (y : Nd) (xb : Nat), y.Ok ∧ xv = .pointer (some ⟨xb, 0, none⟩) ∧ wB.heap.size ≤ xb ∧ NdAt wx xb y ∧ Below wB.heap.size wB wx
end Go.Proofs.YtemlbcagkjmjgaaDoor
