/- Seats that are copied; a new count. -/
import Derived.Test.YtimcddknoanghaaKFor
namespace Go.Proofs.Ytimcddknoanghaa
open Go.RowKit Go.Maps
set_option linter.unusedVariables false
set_option linter.unusedSimpArgs false

/-- A list of seats in memory, and its slice. -/
structure SL (w : World) (la : Option Addr) (l : List (Int × Int)) (cap : Nat) : Prop where
  at_ : SeatsAt w la l
  le : l.length ≤ cap
  cm : cap ≤ maxLen
theorem SL.below {w w' : World} {la : Option Addr} {l : List (Int × Int)} {cap : Nat} (h : SL w la l cap) (hb : Below w.heap.size w w') : SL w' la l cap := ⟨h.at_.below hb, h.le, h.cm⟩
theorem SeatsAt.setCell {w : World} {la : Option Addr} {l : List (Int × Int)} (h : SeatsAt w la l) {a : Addr} (hne : ∀ x, la = some x → a.block ≠ x.block) (v : Value) : SeatsAt (w.setCell a v) la l := by
  rcases h with h | ⟨b, off, e, hl, hc⟩
  · exact .inl h
  · have hn : a.block ≠ b := hne _ e
    have hz : (w.setCell a v).heap.size = w.heap.size := by simp [World.setCell]
    refine .inr ⟨b, off, e, by rw [hz]; exact hl, fun i x hx => ?_⟩
    obtain ⟨h1, h2⟩ := hc i x hx
    exact ⟨by rw [World.cell?_setCell_other _ _ _ _ (fun e => hn (by rw [e]))]; exact h1, by rw [World.cell?_setCell_other _ _ _ _ (fun e => hn (by rw [e]))]; exact h2⟩
theorem SL.setCell {w : World} {la : Option Addr} {l : List (Int × Int)} {cap : Nat} (h : SL w la l cap) {a : Addr} (hne : ∀ x, la = some x → a.block ≠ x.block) (v : Value) : SL (w.setCell a v) la l cap := ⟨h.at_.setCell hne v, h.le, h.cm⟩

/-- The same seats, in new memory. -/
def Cloned (l : List (Int × Int)) (w : World) (e : Ending) (w' : World) : Prop := ∃ lb cb, e = .returned (.slice lb l.length cb) ∧ SL w' lb l cb ∧ Below w.heap.size w w' ∧ (∀ a, lb = some a → w.heap.size ≤ a.block)
theorem eq_nil (c : Nat) (w : World) : (binOp .eql 22 (.slice none 0 c) (.slice none 0 0)).run Try.prog w = .ok (.bool true) w := by kernel_rfl
theorem ne_nil (a : Addr) (n c : Nat) (w : World) : (binOp .eql 22 (.slice (some a) n c) (.slice none 0 0)).run Try.prog w = .ok (.bool false) w := by kernel_rfl
set_option maxRecDepth 4000 in
theorem SL.of_owns {w : World} {base : Nat} {sv : Value} {m : List (Int × Int)} (h : w.ownsRow base 53 2 sv m.length (flatS m)) : ∃ la cap, sv = .slice la m.length cap ∧ SL w la m cap ∧ (∀ a, la = some a → base ≤ a.block) := by
  obtain ⟨la, cap, rfl, hs⟩ := SeatsAt.of_owns h
  rcases h.2 with ⟨e, h0⟩ | ⟨g, c2, cur, e, hb, hg, hle, hcm, _⟩
  · injection e with e1 e2 e3
    subst e1
    subst e3
    exact ⟨none, 0, rfl, ⟨hs, by omega, by unfold maxLen; omega⟩, (fun a h => by cases h)⟩
  · injection e with e1 e2 e3
    subst e1
    subst e3
    exact ⟨_, cap, rfl, ⟨hs, hle, hcm⟩, (fun a h => by injection h with h; subst h; exact hb)⟩
theorem clone_any (la : Option Addr) (ca : Nat) (l : List (Int × Int)) (w : World) (hl : l.length ≤ 4096) (h1 : SL w la l ca) :
    Calls Try.prog 22 #[.slice la l.length ca] w fun e w' => Cloned l w e w' := by
  have z1 := eq_nil
  have z2 := ne_nil
  cases la with
  | none =>
    have hz : l = [] := by
      rcases h1.at_ with e | ⟨b, off, e, _⟩
      · exact e
      · cases e
    subst hz
    clear h1
    go_enter Try.func22, Try.ntmps22
    go_wp2
    go_ret
    exact ⟨none, 0, rfl, ⟨.inl rfl, Nat.le_refl _, Nat.zero_le _⟩, Below.refl _ _, (fun a h => by cases h)⟩
  | some a =>
    have bA : Below w.heap.size w (w.alloc (.cells #[] 53)) := (Below.refl _ _).alloc (Nat.le_refl _) _
    obtain ⟨v, w', hr, ho, hg⟩ := app_seats (w.alloc (.cells #[] 53)) w.heap.size _ [] (World.ownsRow_made w #[] 0 (Nat.le_refl _) (Nat.zero_le _) rfl) (some a) ca l (h1.at_.below bA) (by simp) (by omega) bA.size l.length rfl
    simp only [List.nil_append] at ho
    have bw : Below w.heap.size w w' := bA.grown hg bA.size (fun k e => by simp [Value.ownBlock] at e; omega)
    obtain ⟨lb, cb, rfl, hs, hf⟩ := SL.of_owns ho
    clear h1
    go_enter Try.func22, Try.ntmps22
    go_wp2_with (at_builtin; refine wpList_append_run rfl _ _ 22 rfl _ _ _ w' rfl rfl hr ?_)
    go_ret
    exact ⟨lb, cb, rfl, hs, bw, hf⟩

theorem mkMap (w : World) : (Instr.makeMap 54 none).run Try.prog w = .ok (.map (some w.heap.size)) (w.alloc (.map #[] 0)) := by
  first | kernel_rfl | (simp [Instr.makeMap, run_underlying Try.underlying54, allocObj, World.alloc]) | (simp [Instr.makeMap, run_underlying Try.underlying54]; rfl)

theorem new_any (la : Option Addr) (ca : Nat) (x : List (Int × Int)) (ht : Int) (w : World) (hx0 : x ≠ []) (hl : x.length ≤ 4096) (h1 : SL w la x ca) :
    Calls Try.prog 5 #[.slice la x.length ca, .int .i64 ht] w fun e w' => ∃ cb mb sa sc, e = .returned (.pointer (some ⟨cb, 0, none⟩)) ∧ CntAt w' w.heap.size cb mb sa sc x ht [] (.slice none 0 0) [] ∧ Below w.heap.size w w' ∧ w.heap.size ≤ cb ∧ w.heap.size ≤ mb ∧ cb ≠ mb ∧ (∀ a, sa = some a → w.heap.size ≤ a.block ∧ a.block ≠ cb ∧ a.block ≠ mb) := by
  go_enter Try.func5, Try.ntmps5
  go_wp2_with fail
  refine (clone_any la ca x w hl h1).mono ?_
  rintro e w1 ⟨lb, cb, rfl, hs, b1, hf⟩
  have hmk := mkMap w1
  go_wp2
  go_ret
  have bM : Below w1.heap.size w1 (w1.alloc (.map #[] 0)) := (Below.refl _ _).alloc (Nat.le_refl _) _
  have bC : Below w1.heap.size w1 ((w1.alloc (.map #[] 0)).alloc (.cells #[.slice lb x.length cb, .int .i64 ht, .map (some w1.heap.size), .slice none 0 0] 56)) := bM.alloc (by simp) _
  have kC := Blk.new (w1.alloc (.map #[] 0)) #[.slice lb x.length cb, .int .i64 ht, .map (some w1.heap.size), .slice none 0 0] 56
  rw [World.size_alloc] at kC
  have hmap : PMap ((w1.alloc (.map #[] 0)).alloc (.cells #[.slice lb x.length cb, .int .i64 ht, .map (some w1.heap.size), .slice none 0 0] 56)) w1.heap.size [] := ⟨fun v hv => (by cases hv), List.Pairwise.nil, #[], 0, by rw [Below.heap_alloc _ _ _ (by simp)]; first | exact heap_alloc_new w1 _ | exact World.heap_alloc_new w1 _ | exact Go.heap_alloc_new w1 _, rfl⟩
  have z1 := b1.size
  exact ⟨_, _, _, _, rfl, ⟨kC, hs.at_.below bC, hmap, World.ownsRow_nil _ _ _ _⟩, b1.trans (bC.mono b1.size), by omega, by omega, by omega, fun a ha => by
    have h1 := hf a ha
    have h2 : a.block < w1.heap.size := by
      rcases hs.at_ with h | ⟨b, off, e, hl, _⟩
      · exact absurd h hx0
      · rw [e] at ha; cases ha; exact hl
    exact ⟨h1, by omega, by omega⟩⟩
end Go.Proofs.Ytimcddknoanghaa
