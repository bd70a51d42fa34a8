/- All but some blocks is as it was. -/
import Derived.Test.YtimcddknoanghaaKAny
namespace Go.Proofs.Ytimcddknoanghaa
open Go.RowKit Go.Maps
set_option linter.unusedVariables false
set_option linter.unusedSimpArgs false

structure But (S : Nat → Prop) (w w' : World) : Prop where
  os : w'.os = w.os
  tape : w'.tape = w.tape
  output : w'.output = w.output
  size : w.heap.size ≤ w'.heap.size
  block : ∀ k, k < w.heap.size → ¬ S k → w'.heap[k]? = w.heap[k]?
theorem But.of_below {S : Nat → Prop} {w w' : World} (h : Below w.heap.size w w') : But S w w' := ⟨h.os, h.tape, h.output, h.size, fun k hk _ => h.block k hk⟩
theorem But.refl (S : Nat → Prop) (w : World) : But S w w := ⟨rfl, rfl, rfl, Nat.le_refl _, fun _ _ _ => rfl⟩
theorem But.trans {S : Nat → Prop} {a b c : World} (h : But S a b) (k : But S b c) : But S a c :=
  ⟨k.os.trans h.os, k.tape.trans h.tape, k.output.trans h.output, Nat.le_trans h.size k.size, fun i hi hn => (k.block i (Nat.lt_of_lt_of_le hi h.size) hn).trans (h.block i hi hn)⟩
theorem But.of_grown {S : Nat → Prop} {w w' : World} {row : Option Nat} (h : w.grownBy w' row) (hr : ∀ k, row = some k → S k) : But S w w' :=
  ⟨h.os, h.tape, h.output, h.size, fun k hk hn => h.block k hk (fun e => hn (hr k e.symm))⟩
theorem But.set {S : Nat → Prop} (w : World) {p : Addr} (hp : S p.block) (v : Value) : But S w (w.setCell p v) :=
  ⟨rfl, rfl, rfl, by rw [World.size_setCell]; exact Nat.le_refl _, fun k hk hn => Below.heap_setCell _ _ _ _ (fun e => hn (by rw [e]; exact hp))⟩
theorem But.mono {S T : Nat → Prop} {w w' : World} (h : But S w w') (hs : ∀ k, S k → T k) : But T w w' := ⟨h.os, h.tape, h.output, h.size, fun k hk hn => h.block k hk (fun q => hn (hs k q))⟩
theorem But.below {S : Nat → Prop} {w w' : World} (h : But S w w') {B : Nat} (hB : B ≤ w.heap.size) (hs : ∀ k, S k → B ≤ k) : Below B w w' :=
  ⟨h.os, h.tape, h.output, h.size, fun k hk => h.block k (by omega) (fun q => by have := hs k q; omega)⟩
theorem But.blk {S : Nat → Prop} {w w' : World} (h : But S w w') {b : Nat} {cs : Array Value} {t : TypeId} (k : Blk w b cs t) (hb : ¬ S b) : Blk w' b cs t := by
  have := h.block b k.lt hb
  unfold Blk at *
  rw [this]; exact k
theorem But.cell {S : Nat → Prop} {w w' : World} (h : But S w w') {p : Addr} (hp : p.block < w.heap.size) (hb : ¬ S p.block) : w'.cell? p = w.cell? p := by
  have := h.block _ hp hb
  unfold World.cell?
  rw [this]
theorem But.seats {S : Nat → Prop} {w w' : World} (h : But S w w') {la : Option Addr} {l : List (Int × Int)} (k : SeatsAt w la l) (hb : ∀ a, la = some a → ¬ S a.block) : SeatsAt w' la l := by
  rcases k with k | ⟨b, off, e, hl, hc⟩
  · exact .inl k
  · have hb := hb _ e
    exact .inr ⟨b, off, e, Nat.lt_of_lt_of_le hl h.size, fun i x hx => ⟨by rw [h.cell (p := ⟨b, off + i * 2, none⟩) hl hb]; exact (hc i x hx).1, by rw [h.cell (p := ⟨b, off + i * 2 + 1, none⟩) hl hb]; exact (hc i x hx).2⟩⟩
theorem But.votes {S : Nat → Prop} {w w' : World} (h : But S w w') {la : Option Addr} {l : List Vt} (k : VotesAt w la l) (hb : ∀ a, la = some a → ¬ S a.block) : VotesAt w' la l := by
  rcases k with k | ⟨b, off, e, hl, hc⟩
  · exact .inl k
  · have hb := hb _ e
    exact .inr ⟨b, off, e, Nat.lt_of_lt_of_le hl h.size, fun i x hx j u hu => by rw [h.cell (p := ⟨b, off + i * 6 + j, none⟩) hl hb]; exact hc i x hx j u hu⟩
theorem But.map {S : Nat → Prop} {w w' : World} (h : But S w w') {mb : Nat} {m : List Vt} (k : PMap w mb m) (hb : ¬ S mb) : PMap w' mb m := by
  obtain ⟨h1, h2, es, clock, hh, hm⟩ := k
  exact ⟨h1, h2, es, clock, by rw [h.block mb (Array.getElem?_eq_some_iff.1 hh).1 hb]; exact hh, hm⟩
theorem But.owns {S : Nat → Prop} {w w' : World} (h : But S w w') {base : Nat} {e : TypeId} {size : Nat} {v : Value} {n : Nat} {xs : List Value} (k : w.ownsRow base e size v n xs) (hb : ∀ g, v.ownBlock = some g → ¬ S g) : w'.ownsRow base e size v n xs := by
  refine ⟨k.1, ?_⟩
  rcases k.2 with k2 | ⟨g, cap, cur, e1, h1, h2, h3⟩
  · exact .inl k2
  · exact .inr ⟨g, cap, cur, e1, h1, by rw [h.block g (Array.getElem?_eq_some_iff.1 h2).1 (hb g (by rw [e1]; rfl))]; exact h2, h3⟩
theorem CntAt.but {S : Nat → Prop} {w w' : World} {base cb mb : Nat} {sa : Option Addr} {sc : Nat} {x : List (Int × Int)} {ht : Int} {m : List Vt} {rv : Value} {rs : List Int} (H : CntAt w base cb mb sa sc x ht m rv rs) (h : But S w w') (h1 : ¬ S cb) (h2 : ¬ S mb) (h3 : ∀ a, sa = some a → ¬ S a.block) (h4 : ∀ g, rv.ownBlock = some g → ¬ S g) : CntAt w' base cb mb sa sc x ht m rv rs :=
  ⟨h.blk H.k h1, h.seats H.seats h3, h.map H.map h2, h.owns H.rounds h4⟩
theorem RcAt.but {S : Nat → Prop} {w w' : World} {rb : Nat} {sa : Option Addr} {sc : Nat} {x : List (Int × Int)} {ht : Int} {la : Option Addr} {lc : Nat} {L : List Vt} (H : RcAt w rb sa sc x ht la lc L) (h : But S w w') (h1 : ¬ S rb) (h2 : ∀ a, sa = some a → ¬ S a.block) (h3 : ∀ a, la = some a → ¬ S a.block) : RcAt w' rb sa sc x ht la lc L :=
  ⟨h.blk H.k h1, h.seats H.seats h2, h.votes H.votes h3⟩
end Go.Proofs.Ytimcddknoanghaa
