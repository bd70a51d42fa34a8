/- A rising list with one more; what the answer asks of a node (no program). -/
import Derived.Test.YtmhllihedejehaaGreatGPre
import Derived.Test.YtmhllihedejehaaGreatFGive
import Derived.Test.YtmhllihedejehaaGreatM26
import Derived.Test.YtmhllihedejehaaGreatM29

namespace Go.Proofs.YtmhllihedejehaaGreat
set_option linter.unusedVariables false
set_option linter.unusedSimpArgs false

theorem okN_due (wd : Int) (way : Key) (d k : Int) (key val : Key) (pos l r : Int) : okN wd way d k key val pos l r = (((way.isEmpty || k != 0) && mayN k key val pos l r) && (dueN wd way k key val pos l r == d)) := by
  unfold okN fitsN dueN
  cases way.isEmpty <;> cases mayN k key val pos l r <;> simp
/-- One more in a rising list. -/
def insR (x : Int) : List Int → List Int
  | [] => [x]
  | y :: r => if y < x then y :: insR x r else x :: y :: r
/-- How many are below. -/
def belowR (x : Int) : List Int → Nat
  | [] => 0
  | y :: r => if y < x then belowR x r + 1 else 0
theorem belowR_le (x : Int) : ∀ l, belowR x l ≤ l.length
  | [] => Nat.le_refl _
  | y :: r => by
    unfold belowR
    have := belowR_le x r
    split
    · simp only [List.length_cons]; omega
    · exact Nat.zero_le _
theorem belowR_lt (x : Int) : ∀ (l : List Int) (i : Nat) (h : i < l.length), i < belowR x l → l[i] < x
  | y :: r, i, h, hi => by
    unfold belowR at hi
    by_cases hy : y < x
    · rw [if_pos hy] at hi
      cases i with
      | zero => exact hy
      | succ i => exact belowR_lt x r i (by simpa using h) (by omega)
    · rw [if_neg hy] at hi; omega
theorem belowR_at (x : Int) : ∀ (l : List Int) (h : belowR x l < l.length), ¬ l[belowR x l] < x
  | [], h => by cases h
  | y :: r, h => by
    by_cases hy : y < x
    · have e : belowR x (y :: r) = belowR x r + 1 := if_pos hy
      have h2 : belowR x r < r.length := by rw [e] at h; simpa using h
      have := belowR_at x r h2
      simp only [e, List.getElem_cons_succ]
      exact this
    · have e : belowR x (y :: r) = 0 := if_neg hy
      simp only [e, List.getElem_cons_zero]
      exact hy
theorem insR_eq (x : Int) : ∀ l, insR x l = l.take (belowR x l) ++ x :: l.drop (belowR x l)
  | [] => rfl
  | y :: r => by
    unfold insR belowR
    by_cases hy : y < x
    · rw [if_pos hy, if_pos hy, insR_eq x r]; rfl
    · rw [if_neg hy, if_neg hy]; rfl
theorem insR_perm (x : Int) : ∀ l, (insR x l).Perm (x :: l)
  | [] => List.Perm.refl _
  | y :: r => by
    unfold insR
    split
    · exact ((insR_perm x r).cons y).trans (List.Perm.swap x y r)
    · exact List.Perm.refl _
theorem insR_rises (x : Int) : ∀ l : List Int, (l.Pairwise fun a b => a ≤ b) → (insR x l).Pairwise fun a b => a ≤ b
  | [], _ => List.pairwise_singleton _ _
  | y :: r, h => by
    have h2 := List.pairwise_cons.1 h
    unfold insR
    by_cases hy : y < x
    · rw [if_pos hy]
      refine List.pairwise_cons.2 ⟨fun z hz => ?_, insR_rises x r h2.2⟩
      rcases List.mem_cons.1 ((insR_perm x r).mem_iff.1 hz) with e | e
      · omega
      · exact h2.1 z e
    · rw [if_neg hy]
      refine List.pairwise_cons.2 ⟨fun z hz => ?_, h⟩
      rcases List.mem_cons.1 hz with e | e
      · omega
      · have := h2.1 z e; omega
end Go.Proofs.YtmhllihedejehaaGreat

namespace Go.Proofs.YtmhllihedejehaaGreat
open Go.RowKit
set_option linter.unusedVariables false
set_option linter.unusedSimpArgs false

section
variable {w : World} {base base' gb : Nat} {wd root : Int} {L L' : List (Key × Int)} {o o' : Option Tr} {sb sb' : List Int} {vL vB v : Value} {li li' : Option Addr} {ci ci' : Nat}
theorem row_cap {e : TypeId} {size : Nat} {sa : Option Addr} {n sc n' : Nat} {xs : List Value} (h : w.ownsRow base e size (.slice sa n sc) n' xs) : n ≤ sc := by
  rcases h.2 with ⟨e1, _⟩ | ⟨g, cap, cur, e1, hb, hg, h1, _⟩
  · injection e1 with e1 e2 e3
    omega
  · injection e1 with e1 e2 e3
    omega
theorem row_set {e : TypeId} {size n : Nat} {xs : List Value} {cs : Array Value} {T : TypeId} (h : w.ownsRow base e size v n xs) (kg : Blk w gb cs T) (hT : e ≠ T) (i : Nat) (u : Value) : (w.setCell ⟨gb, i, none⟩ u).ownsRow 0 e size v n xs :=
  row_base (row_keep h fun k cs' q => q.setOther _ (by
    show k ≠ gb
    intro e1
    subst e1
    have := kg.symm.trans q
    simp at this
    exact hT this.2.symm) u) (Nat.zero_le _)
theorem RFet.nostr (H : RFet w base gb wd root L o sb vL vB li ci) : ∀ (j : Nat) (s : ByteArray), (#[Value.int .i64 wd, .int .u64 root, vL, .int .i64 wd, .slice li (itemsO o).length ci, vB])[j]? ≠ some (.string s) := by
  obtain ⟨a1, b1, e1, _⟩ := row_at H.wl
  obtain ⟨a2, b2, e2, _⟩ := row_at H.wb
  subst e1 e2
  intro j s q
  rcases j with _ | _ | _ | _ | _ | _ | j <;> simp at q
theorem RFet.setB (H : RFet w base gb wd root L o sb vL vB li ci) (hr : w.ownsRow base' 3 1 v sb'.length (flatI sb')) : RFet (w.setCell ⟨gb, 5, none⟩ v) 0 gb wd root L o sb' vL v li ci :=
  ⟨H.k.set 5 v, row_set H.wl H.k (by decide) _ _, row_set hr H.k (by decide) _ _⟩
theorem RFet.setL (H : RFet w base gb wd root L o sb vL vB li ci) (hr : w.ownsRow base' 81 2 v L'.length (flatW L')) : RFet (w.setCell ⟨gb, 2, none⟩ v) 0 gb wd root L' o sb v vB li ci :=
  ⟨H.k.set 2 v, row_set hr H.k (by decide) _ _, row_set H.wb H.k (by decide) _ _⟩
theorem RFet.setT (H : RFet w base gb wd root L o sb vL vB li ci) : RFet ((w.setCell ⟨gb, 3, none⟩ (.int .i64 wd)).setCell ⟨gb, 4, none⟩ (.slice li' (itemsO o').length ci')) 0 gb wd root L o' sb vL vB li' ci' := by
  have k1 := H.k.set 3 (.int .i64 wd)
  exact ⟨k1.set 4 (.slice li' (itemsO o').length ci'), row_set (row_set H.wl H.k (by decide) _ _) k1 (by decide) _ _, row_set (row_set H.wb H.k (by decide) _ _) k1 (by decide) _ _⟩
theorem RFet.its (H : RFet w base gb wd root L o sb vL vB li ci) {l : List (Key × Key)} {la : Option Addr} (h : ItemsAt w la l) (i : Nat) (u : Value) : ItemsAt (w.setCell ⟨gb, i, none⟩ u) la l := h.setOff H.k H.nostr i u
theorem RFet.base0 (H : RFet w base gb wd root L o sb vL vB li ci) : RFet w 0 gb wd root L o sb vL vB li ci := ⟨H.k, row_base H.wl (Nat.zero_le _), row_base H.wb (Nat.zero_le _)⟩
end
/-- A part of a row, as the slice's own word has it. -/
theorem CellsF.part {w : World} {sa : Option Addr} {ys : List Value} {cap k size : Nat} (hsz : 0 < size) (h : CellsF w sa ys) (hc : ys.length ≤ cap * size) : CellsF w (if cap = k then sa else sa.map (fun a => a.add (k * size))) (ys.drop (k * size)) := by
  by_cases e : cap = k
  · left
    subst e
    simpa using hc
  · rw [if_neg e]
    cases sa with
    | none =>
      rcases h with h | ⟨b, off, e1, _⟩
      · exact .inl (by simp [h])
      · cases e1
    | some a =>
      rcases h with h | ⟨b, off, e1, hl, hcc⟩
      · exact .inl (by simp [h])
      · injection e1 with e1
        subst e1
        have h2 : CellsF w (some ⟨b, off, none⟩) ys := .inr ⟨b, off, rfl, hl, hcc⟩
        have h3 := h2.drop (k * size)
        show CellsF w (some ((⟨b, off, none⟩ : Addr).add (k * size))) _
        rw [show (⟨b, off, none⟩ : Addr).add (k * size) = ⟨b, off + k * size, none⟩ by unfold Addr.add; split <;> simp_all]
        exact h3
end Go.Proofs.YtmhllihedejehaaGreat
