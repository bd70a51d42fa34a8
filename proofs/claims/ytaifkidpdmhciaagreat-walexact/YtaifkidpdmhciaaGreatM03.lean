/- Things in memory: their cells, and the rows behind their lists. -/
import Derived.Test.YtaifkidpdmhciaaGreatM02

namespace Go.Proofs.YtaifkidpdmhciaaGreat
open Go.RowKit
set_option linter.unusedVariables false

/-- A cell of a thing: a number, a digest, a flag, a text, a list of things. -/
inductive Fld where
  | i (n : Int)
  | d (n : Int)
  | b (x : Bool)
  | s (t : List UInt8)
  | l (la : Option Addr) (lc : Nat) (es : List (List Fld))

def Fld.val : Fld → Value
  | .i n => .int .i64 n
  | .d n => .int .u64 n
  | .b x => .bool x
  | .s t => .string ⟨t.toArray⟩
  | .l la lc es => .slice la es.length lc

mutual
/-- It is what may be in that cell; rows lie in blocks below base. -/
def Fld.good (base : Nat) (w : World) : Fld → Prop
  | .i n => -9223372036854775808 ≤ n ∧ n ≤ 9223372036854775807
  | .d n => 0 ≤ n ∧ n ≤ 18446744073709551615
  | .b _ => True
  | .s _ => True
  | .l la lc es => es.length ≤ lc ∧ lc ≤ maxLen ∧ (es = [] ∨ ∃ rb ro, la = some ⟨rb, ro, none⟩ ∧ rb < base ∧ rb < w.heap.size ∧ RowsAt base w rb ro es)
/-- The things of a row, one behind the other. -/
def RowsAt (base : Nat) (w : World) (rb : Nat) : Nat → List (List Fld) → Prop
  | _, [] => True
  | ro, e :: es => CellsAt base w rb ro e ∧ RowsAt base w rb (ro + e.length) es
/-- The cells of a thing. -/
def CellsAt (base : Nat) (w : World) (rb : Nat) : Nat → List Fld → Prop
  | _, [] => True
  | o, f :: fs => w.cell? ⟨rb, o, none⟩ = some f.val ∧ f.good base w ∧ CellsAt base w rb (o + 1) fs
end

mutual
theorem Fld.good_below {base : Nat} {w w' : World} (hb : Below base w w') : ∀ f : Fld, f.good base w → f.good base w'
  | .i _, h => h
  | .d _, h => h
  | .b _, _ => trivial
  | .s _, _ => trivial
  | .l la lc es, h => by
    obtain ⟨h1, h2, h3⟩ := h
    refine ⟨h1, h2, ?_⟩
    rcases h3 with h3 | ⟨rb, ro, e, hl, hz, hr⟩
    · exact .inl h3
    · exact .inr ⟨rb, ro, e, hl, Nat.lt_of_lt_of_le hz hb.size, RowsAt.at_below hb rb hl ro es hr⟩
theorem RowsAt.at_below {base : Nat} {w w' : World} (hb : Below base w w') (rb : Nat) (hl : rb < base) : ∀ (ro : Nat) (es : List (List Fld)), RowsAt base w rb ro es → RowsAt base w' rb ro es
  | _, [], _ => trivial
  | ro, e :: es, h => ⟨CellsAt.at_below hb rb hl ro e h.1, RowsAt.at_below hb rb hl (ro + e.length) es h.2⟩
theorem CellsAt.at_below {base : Nat} {w w' : World} (hb : Below base w w') (rb : Nat) (hl : rb < base) : ∀ (o : Nat) (fs : List Fld), CellsAt base w rb o fs → CellsAt base w' rb o fs
  | _, [], _ => trivial
  | o, f :: fs, h => ⟨by rw [hb.cell (p := ⟨rb, o, none⟩) hl]; exact h.1, Fld.good_below hb f h.2.1, CellsAt.at_below hb rb hl (o + 1) fs h.2.2⟩
end

mutual
theorem Fld.good_mono {base base' : Nat} {w : World} (hb : base ≤ base') : ∀ f : Fld, f.good base w → f.good base' w
  | .i _, h => h
  | .d _, h => h
  | .b _, _ => trivial
  | .s _, _ => trivial
  | .l la lc es, h => by
    obtain ⟨h1, h2, h3⟩ := h
    refine ⟨h1, h2, ?_⟩
    rcases h3 with h3 | ⟨rb, ro, e, hl, hz, hr⟩
    · exact .inl h3
    · exact .inr ⟨rb, ro, e, Nat.lt_of_lt_of_le hl hb, hz, RowsAt.at_mono hb rb ro es hr⟩
theorem RowsAt.at_mono {base base' : Nat} {w : World} (hb : base ≤ base') (rb : Nat) : ∀ (ro : Nat) (es : List (List Fld)), RowsAt base w rb ro es → RowsAt base' w rb ro es
  | _, [], _ => trivial
  | ro, e :: es, h => ⟨CellsAt.at_mono hb rb ro e h.1, RowsAt.at_mono hb rb (ro + e.length) es h.2⟩
theorem CellsAt.at_mono {base base' : Nat} {w : World} (hb : base ≤ base') (rb : Nat) : ∀ (o : Nat) (fs : List Fld), CellsAt base w rb o fs → CellsAt base' w rb o fs
  | _, [], _ => trivial
  | o, f :: fs, h => ⟨h.1, Fld.good_mono hb f h.2.1, CellsAt.at_mono hb rb (o + 1) fs h.2.2⟩
end

/-- All of these may be. -/
def goods (base : Nat) (w : World) (fs : List Fld) : Prop := ∀ f ∈ fs, f.good base w
theorem goods.below {base : Nat} {w w' : World} {fs : List Fld} (h : goods base w fs) (hb : Below base w w') : goods base w' fs := fun f hf => Fld.good_below hb f (h f hf)
theorem goods.mono {base base' : Nat} {w : World} {fs : List Fld} (h : goods base w fs) (hb : base ≤ base') : goods base' w fs := fun f hf => Fld.good_mono hb f (h f hf)
theorem goods.app {base : Nat} {w : World} {fs gs : List Fld} (h : goods base w (fs ++ gs)) : goods base w fs ∧ goods base w gs :=
  ⟨fun f hf => h f (List.mem_append_left _ hf), fun f hf => h f (List.mem_append_right _ hf)⟩
theorem goods.mk {base : Nat} {w : World} {fs gs : List Fld} (h : goods base w fs) (g : goods base w gs) : goods base w (fs ++ gs) := fun f hf => (List.mem_append.1 hf).elim (h f) (g f)
theorem goods.get {base : Nat} {w : World} {fs : List Fld} (h : goods base w fs) (i : Nat) {f : Fld} (hi : fs[i]? = some f) : f.good base w := h f (List.mem_of_getElem? hi)

theorem CellsAt.goods {base : Nat} {w : World} {rb : Nat} : ∀ {o : Nat} {fs : List Fld}, CellsAt base w rb o fs → Go.Proofs.YtaifkidpdmhciaaGreat.goods base w fs
  | _, [], _ => fun f hf => by simp at hf
  | o, f :: fs, h => fun g hg => by
    rcases List.mem_cons.1 hg with rfl | hg
    · exact h.2.1
    · exact CellsAt.goods h.2.2 g hg
theorem CellsAt.get {base : Nat} {w : World} {rb : Nat} : ∀ {o : Nat} {fs : List Fld}, CellsAt base w rb o fs → ∀ (i : Nat) {f : Fld}, fs[i]? = some f → w.cell? ⟨rb, o + i, none⟩ = some f.val
  | _, [], _, i, f, hi => by simp at hi
  | o, g :: fs, h, 0, f, hi => by
    simp at hi
    subst hi
    exact h.1
  | o, g :: fs, h, i + 1, f, hi => by
    have := CellsAt.get h.2.2 i (f := f) (by simpa using hi)
    rw [show o + (i + 1) = o + 1 + i by omega]
    exact this
theorem CellsAt.get0 {base : Nat} {w : World} {rb o : Nat} {fs : List Fld} (h : CellsAt base w rb o fs) {f : Fld} (hi : fs[0]? = some f) : w.cell? ⟨rb, o, none⟩ = some f.val := h.get 0 hi
theorem CellsAt.app {base : Nat} {w : World} {rb : Nat} : ∀ {o : Nat} {fs gs : List Fld}, CellsAt base w rb o (fs ++ gs) → CellsAt base w rb o fs ∧ CellsAt base w rb (o + fs.length) gs
  | o, [], gs, h => ⟨trivial, h⟩
  | o, f :: fs, gs, h => by
    obtain ⟨h1, h2, h3⟩ := h
    obtain ⟨a, c⟩ := CellsAt.app h3
    refine ⟨⟨h1, h2, a⟩, ?_⟩
    rw [List.length_cons, show o + (fs.length + 1) = o + 1 + fs.length by omega]
    exact c
theorem CellsAt.mk {base : Nat} {w : World} {rb : Nat} : ∀ {o : Nat} {fs : List Fld}, (∀ i f, fs[i]? = some f → w.cell? ⟨rb, o + i, none⟩ = some f.val) → Go.Proofs.YtaifkidpdmhciaaGreat.goods base w fs → CellsAt base w rb o fs
  | _, [], _, _ => trivial
  | o, f :: fs, h, g => ⟨h 0 f rfl, g f (by simp), CellsAt.mk (fun i f' hi => by
      have := h (i + 1) f' (by simpa using hi)
      rw [show o + 1 + i = o + (i + 1) by omega]
      exact this) fun f' hf => g f' (by simp [hf])⟩
/-- Cells that stay, in a block that is safe. -/
theorem CellsAt.kp {base b : Nat} {w w' : World} {rb o : Nat} {fs : List Fld} (h : CellsAt base w rb o fs) (hs : Safe w b rb) (hK : Kp base b w w') : CellsAt base w' rb o fs :=
  CellsAt.mk (fun i f hi => by rw [Safe.cell (a := ⟨rb, o + i, none⟩) hs hK]; exact h.get i hi) (h.goods.below hK.below)
/-- A block of its own that holds them. -/
theorem CellsAt.of_blk {base : Nat} {w : World} {rb : Nat} {cs : Array Value} {t : TypeId} {fs : List Fld} (h : Blk w rb cs t) (e : cs.toList = fs.map Fld.val) (g : Go.Proofs.YtaifkidpdmhciaaGreat.goods base w fs) : CellsAt base w rb 0 fs :=
  CellsAt.mk (fun i f hi => by
    rw [h.cell, Nat.zero_add, ← Array.getElem?_toList, e, List.getElem?_map, hi]; rfl) g
/-- One thing of a row. -/
theorem RowsAt.get {base : Nat} {w : World} {rb : Nat} {α : Type} (flds : α → List Fld) (sz : Nat) (hz : ∀ x, (flds x).length = sz) : ∀ {ro : Nat} {xs : List α}, RowsAt base w rb ro (xs.map flds) → ∀ (i : Nat) {x : α}, xs[i]? = some x → CellsAt base w rb (ro + i * sz) (flds x)
  | _, [], _, i, x, hi => by simp at hi
  | ro, y :: xs, h, 0, x, hi => by
    simp at hi
    subst hi
    rw [Nat.zero_mul, Nat.add_zero]
    exact h.1
  | ro, y :: xs, h, i + 1, x, hi => by
    have h2 : RowsAt base w rb (ro + (flds y).length) (xs.map flds) := h.2
    rw [hz] at h2
    have := RowsAt.get flds sz hz h2 i (x := x) (by simpa using hi)
    rw [show ro + (i + 1) * sz = ro + sz + i * sz by rw [Nat.add_mul]; omega]
    exact this
theorem RowsAt.mk {base : Nat} {w : World} {rb : Nat} {α : Type} (flds : α → List Fld) (sz : Nat) (hz : ∀ x, (flds x).length = sz) : ∀ {ro : Nat} {xs : List α}, (∀ i x, xs[i]? = some x → CellsAt base w rb (ro + i * sz) (flds x)) → RowsAt base w rb ro (xs.map flds)
  | _, [], _ => trivial
  | ro, y :: xs, h => by
    refine ⟨by have := h 0 y rfl; rwa [Nat.zero_mul, Nat.add_zero] at this, RowsAt.mk flds sz hz fun i x hi => ?_⟩
    have := h (i + 1) x (by simpa using hi)
    rw [hz, show ro + sz + i * sz = ro + (i + 1) * sz by rw [Nat.add_mul]; omega]
    exact this

/-- A list of things: where it lies, its room, what is in it. -/
structure Lst (α : Type) where
  la : Option Addr
  lc : Nat
  xs : List α
def Lst.fld {α : Type} (flds : α → List Fld) (l : Lst α) : Fld := .l l.la l.lc (l.xs.map flds)
theorem Lst.val {α : Type} (flds : α → List Fld) (l : Lst α) : (l.fld flds).val = .slice l.la l.xs.length l.lc := by simp [Lst.fld, Fld.val]
/-- What is known of a list's room and rows. -/
def Lst.Held {α : Type} (flds : α → List Fld) (sz base : Nat) (w : World) (l : Lst α) : Prop :=
  l.xs.length ≤ l.lc ∧ l.lc ≤ maxLen ∧ (l.xs = [] ∨ ∃ rb ro, l.la = some ⟨rb, ro, none⟩ ∧ rb < base ∧ rb < w.heap.size ∧ ∀ i x, l.xs[i]? = some x → CellsAt base w rb (ro + i * sz) (flds x))
theorem Lst.held {α : Type} {flds : α → List Fld} {sz base : Nat} {w : World} {l : Lst α} (hz : ∀ x, (flds x).length = sz) (h : (l.fld flds).good base w) : l.Held flds sz base w := by
  obtain ⟨h1, h2, h3⟩ := h
  refine ⟨by simpa using h1, h2, ?_⟩
  rcases h3 with h3 | ⟨rb, ro, e, hl, hz', hr⟩
  · exact .inl (by simpa using h3)
  · exact .inr ⟨rb, ro, e, hl, hz', fun i x hi => RowsAt.get flds sz hz hr i hi⟩
theorem Lst.good {α : Type} {flds : α → List Fld} {sz base : Nat} {w : World} {l : Lst α} (hz : ∀ x, (flds x).length = sz) (h : l.Held flds sz base w) : (l.fld flds).good base w := by
  obtain ⟨h1, h2, h3⟩ := h
  refine ⟨by simpa using h1, h2, ?_⟩
  rcases h3 with h3 | ⟨rb, ro, e, hl, hz', hr⟩
  · exact .inl (by simp [h3])
  · exact .inr ⟨rb, ro, e, hl, hz', RowsAt.mk flds sz hz hr⟩
theorem Lst.Held.below {α : Type} {flds : α → List Fld} {sz base : Nat} {w w' : World} {l : Lst α} (h : l.Held flds sz base w) (hb : Below base w w') : l.Held flds sz base w' := by
  obtain ⟨h1, h2, h3⟩ := h
  refine ⟨h1, h2, ?_⟩
  rcases h3 with h3 | ⟨rb, ro, e, hl, hz', hr⟩
  · exact .inl h3
  · exact .inr ⟨rb, ro, e, hl, Nat.lt_of_lt_of_le hz' hb.size, fun i x hi => CellsAt.at_below hb rb hl _ _ (hr i x hi)⟩

/-- The parts of a list: how many, then each. -/
def eachL {α : Type} (atoms : α → List Atom) : List α → List Atom
  | [] => []
  | x :: xs => atoms x ++ eachL atoms xs
theorem eachL_append {α : Type} (atoms : α → List Atom) (xs ys : List α) : eachL atoms (xs ++ ys) = eachL atoms xs ++ eachL atoms ys := by
  induction xs with
  | nil => rfl
  | cons x xs ih => simp [eachL, ih]
theorem eachL_take {α : Type} (atoms : α → List Atom) (xs : List α) (k : Nat) (x : α) (h : xs[k]? = some x) : eachL atoms (xs.take (k + 1)) = eachL atoms (xs.take k) ++ atoms x := by
  have e : xs.take (k + 1) = xs.take k ++ [x] := by
    rw [List.take_add_one, h]; rfl
  rw [e, eachL_append]
  simp [eachL]
theorem eachL_drop {α : Type} (atoms : α → List Atom) (xs : List α) (k : Nat) : eachL atoms xs = eachL atoms (xs.take k) ++ eachL atoms (xs.drop k) := by
  rw [← eachL_append, List.take_append_drop]
theorem eachL_wt {α : Type} (atoms : α → List Atom) (xs : List α) (k : Nat) (x : α) (h : xs[k]? = some x) : wtL (eachL atoms (xs.take k)) + wtL (atoms x) ≤ wtL (eachL atoms xs) := by
  rw [eachL_drop atoms xs (k + 1), eachL_take atoms xs k x h, wtL_append, wtL_append]; omega
theorem eachL_fit {α : Type} (atoms : α → List Atom) (xs : List α) (h : ∀ x ∈ xs, fitL (atoms x)) : fitL (eachL atoms xs) := by
  induction xs with
  | nil => trivial
  | cons x xs ih => exact (fitL_append _ _).2 ⟨h x (by simp), ih fun y hy => h y (by simp [hy])⟩
def listL {α : Type} (most : Int) (atoms : α → List Atom) (xs : List α) : List Atom := Atom.num most xs.length :: eachL atoms xs
theorem listL_fit {α : Type} (most : Int) (atoms : α → List Atom) (xs : List α) (hm : most ≤ 1099511627775) (h : ∀ x ∈ xs, fitL (atoms x)) : fitL (listL most atoms xs) := ⟨hm, eachL_fit atoms xs h⟩
def textL (most : Int) (s : List UInt8) : List Atom := [Atom.num most s.length, Atom.raw s]
def flagL (x : Bool) : List Atom := [Atom.raw (flagB x)]
def digL (d : Int) : List Atom := [Atom.raw (be d 8)]
end Go.Proofs.YtaifkidpdmhciaaGreat

namespace Go.Proofs.YtaifkidpdmhciaaGreat
open Go.RowKit
set_option linter.unusedVariables false







def mayVoteP (s : Int) (has : Bool) (bl f : Int) : Bool := decide (0 ≤ s) && decide (s ≤ 2) && decide (1 ≤ f) && (has || (decide (bl = 0) && decide (s ≠ 0)))

set_option maxHeartbeats 1600000 in
theorem mayVote_any (h r s : Int) (has : Bool) (bl f : Int) (w : World) : Calls Tryz.prog 61 #[.agg #[.int .i64 h, .int .i64 r, .int .i64 s, .bool has, .int .u64 bl, .int .i64 f]] w fun e w' => e = .returned (.bool (mayVoteP s has bl f)) ∧ Below w.heap.size w w' := by
  have bA : Below w.heap.size w (w.alloc (.cells #[.int .i64 h, .int .i64 r, .int .i64 s, .bool has, .int .u64 bl, .int .i64 f] 31)) := (Below.refl _ _).alloc (Nat.le_refl _) _
  by_cases h0 : s < 0
  · have e : mayVoteP s has bl f = false := by simp [mayVoteP]; omega
    rw [e]
    clear e
    go_enter Tryz.func61, Tryz.ntmps61
    go_wp2
    go_ret
    exact ⟨rfl, bA⟩
  · by_cases h1 : 2 < s
    · have e : mayVoteP s has bl f = false := by simp [mayVoteP]; omega
      rw [e]
      clear e
      go_enter Tryz.func61, Tryz.ntmps61
      go_wp2
      go_ret
      exact ⟨rfl, bA⟩
    · by_cases h2 : f < 1
      · have e : mayVoteP s has bl f = false := by simp [mayVoteP]; omega
        rw [e]
        clear e
        go_enter Tryz.func61, Tryz.ntmps61
        go_wp2
        go_ret
        exact ⟨rfl, bA⟩
      · have e : mayVoteP s has bl f = (has || (decide (bl = 0) && decide (s ≠ 0))) := by
          unfold mayVoteP
          rw [decide_eq_true (show 0 ≤ s by omega), decide_eq_true (show s ≤ 2 by omega), decide_eq_true (show 1 ≤ f by omega)]
          simp
        rw [e]
        clear e
        cases has
        · by_cases h3 : bl = 0
          · subst h3
            by_cases h4 : s = 0
            · subst h4
              go_enter Tryz.func61, Tryz.ntmps61
              go_wp2
              go_ret
              exact ⟨by simp, bA⟩
            · have h4' : (s != 0) = true := by simpa using h4
              rw [show (false || (decide ((0 : Int) = 0) && decide (s ≠ 0))) = true by simp [h4]]
              go_enter Tryz.func61, Tryz.ntmps61
              go_wp2
              go_ret
              exact ⟨rfl, bA⟩
          · have h3' : (bl == 0) = false := by simpa using h3
            rw [show (false || (decide (bl = 0) && decide (s ≠ 0))) = false by simp [h3]]
            go_enter Tryz.func61, Tryz.ntmps61
            go_wp2
            go_ret
            exact ⟨rfl, bA⟩
        · go_enter Tryz.func61, Tryz.ntmps61
          go_wp2
          go_ret
          exact ⟨by simp, bA⟩

set_option maxHeartbeats 800000 in
theorem mayGuilt_any (h r s : Int) (has : Bool) (bl f h2 r2 s2 : Int) (has2 : Bool) (bl2 f2 : Int) (w : World) :
    Calls Tryz.prog 120 #[.agg #[.int .i64 h, .int .i64 r, .int .i64 s, .bool has, .int .u64 bl, .int .i64 f, .int .i64 h2, .int .i64 r2, .int .i64 s2, .bool has2, .int .u64 bl2, .int .i64 f2]] w fun e w' => e = .returned (.bool (mayVoteP s has bl f && mayVoteP s2 has2 bl2 f2)) ∧ Below w.heap.size w w' := by
  have bA : Below w.heap.size w (w.alloc (.cells #[.int .i64 h, .int .i64 r, .int .i64 s, .bool has, .int .u64 bl, .int .i64 f, .int .i64 h2, .int .i64 r2, .int .i64 s2, .bool has2, .int .u64 bl2, .int .i64 f2] 157)) := (Below.refl _ _).alloc (Nat.le_refl _) _
  have kG := Blk.new w #[.int .i64 h, .int .i64 r, .int .i64 s, .bool has, .int .u64 bl, .int .i64 f, .int .i64 h2, .int .i64 r2, .int .i64 s2, .bool has2, .int .u64 bl2, .int .i64 f2] 157
  go_enter Tryz.func120, Tryz.ntmps120
  go_wp2_with fail
  refine (mayVote_any h r s has bl f _).mono ?_
  rintro e w1 ⟨rfl, b1⟩
  have b2 := bA.trans (b1.mono bA.size)
  have kG1 := kG.below b1 kG.lt
  have q6 := kG1.cell 6
  have q7 := kG1.cell 7
  have q8 := kG1.cell 8
  have q9 := kG1.cell 9
  have q10 := kG1.cell 10
  have q11 := kG1.cell 11
  simp only [List.getElem?_toArray, List.getElem?_cons_succ, List.getElem?_cons_zero] at q6 q7 q8 q9 q10 q11
  cases hm : mayVoteP s has bl f
  · have Hm := show Hid (_ = _) from hm
    clear hm
    go_wp2
    go_ret
    exact ⟨by rw [Hm.out]; rfl, b2⟩
  · have Hm := show Hid (_ = _) from hm
    clear hm
    go_wp2_with fail
    refine (mayVote_any h2 r2 s2 has2 bl2 f2 _).mono ?_
    rintro e w3 ⟨rfl, b3⟩
    go_wp2
    go_ret
    exact ⟨by rw [Hm.out]; simp, b2.trans (b3.mono b2.size)⟩

def mayParcelP (k t : Int) : Bool := (decide (k = 1) || decide (k = 2)) && decide (1 ≤ t)



/-- A list of two numbers each, to be read. -/
def PairsAt (w : World) (la : Option Addr) (ps : List (Int × Int)) : Prop :=
  (∀ p ∈ ps, (-9223372036854775808 ≤ p.1 ∧ p.1 ≤ 9223372036854775807) ∧ (-9223372036854775808 ≤ p.2 ∧ p.2 ≤ 9223372036854775807)) ∧
  (ps = [] ∨ ∃ rb ro, la = some ⟨rb, ro, none⟩ ∧ rb < w.heap.size ∧ ∀ i p, ps[i]? = some p → w.cell? ⟨rb, ro + i * 2, none⟩ = some (.int .i64 p.1) ∧ w.cell? ⟨rb, ro + i * 2 + 1, none⟩ = some (.int .i64 p.2))
theorem PairsAt.below {w w' : World} {B : Nat} {la : Option Addr} {ps : List (Int × Int)} (h : PairsAt w la ps) (hb : Below w.heap.size w w') : PairsAt w' la ps := by
  refine ⟨h.1, ?_⟩
  rcases h.2 with h | ⟨rb, ro, e, hl, hc⟩
  · exact .inl h
  · exact .inr ⟨rb, ro, e, Nat.lt_of_lt_of_le hl hb.size, fun i p hp => by rw [hb.cell (p := ⟨rb, ro + i * 2, none⟩) hl, hb.cell (p := ⟨rb, ro + i * 2 + 1, none⟩) hl]; exact hc i p hp⟩

theorem mayBench1_any (a c : Int) (w : World) : Calls Tryz.prog 157 #[.agg #[.int .i64 a, .int .i64 c]] w fun e w' => e = .returned (.int .i64 a) ∧ Below w.heap.size w w' := by
  go_enter Tryz.func157, Tryz.ntmps157
  go_wp2
  go_ret
  exact ⟨rfl, (Below.refl _ _).alloc (Nat.le_refl _) _⟩
theorem mayBench2_any (a c : Int) (w : World) : Calls Tryz.prog 159 #[.agg #[.int .i64 a, .int .i64 c]] w fun e w' => e = .returned (.bool (decide (1 ≤ c))) ∧ Below w.heap.size w w' := by
  go_enter Tryz.func159, Tryz.ntmps159
  go_wp2
  go_ret
  exact ⟨rfl, (Below.refl _ _).alloc (Nat.le_refl _) _⟩

def riseP (least : Int) : List (Int × Int) → Bool
  | [] => true
  | p :: r => if p.1 < least then false else riseP (wrap64 (p.1 + 1)) r

set_option maxHeartbeats 1600000 in
theorem riseSeat_any (la : Option Addr) (lc : Nat) (least : Int) (ps : List (Int × Int)) (w : World) (hn : ps.length ≤ 140737488351232) (hps : PairsAt w la ps) :
    Calls Tryz.prog 156 #[.slice la ps.length lc, .int .i64 least, .func (.func 157) #[] #[]] w fun e w' => e = .returned (.bool (riseP least ps)) ∧ Below w.heap.size w w' := by
  go_enter Tryz.func156, Tryz.ntmps156
  go_wp2
  go_loopw [1, 8, 9, 12] (fun lv _ _ iv wv => ∃ (k : Nat) (l : Int), k ≤ ps.length ∧ iv = .int .i64 k ∧ lv = .int .i64 l ∧ Hid (riseP least ps = riseP l (ps.drop k)) ∧ Below w.heap.size w wv) (fun _ _ _ iv _ => ps.length - (intOf iv).toNat)
  case atStart => exact ⟨0, least, Nat.zero_le _, rfl, rfl, rfl, Below.refl _ _⟩
  case round =>
    obtain ⟨k, l, hk, rfl, rfl, HR, hb⟩ := hrel
    by_cases hlt : k < ps.length
    · have hlt' : (k : Int) < (ps.length : Int) := by omega
      obtain ⟨hbd, h0 | ⟨rb, ro, rfl, hrl, hc⟩⟩ := hps.below (B := 0) hb
      · subst h0; simp at hlt
      obtain ⟨q0, q1⟩ := hc k ps[k] (List.getElem?_eq_getElem hlt)
      have hpb := (hbd _ (List.getElem_mem hlt)).1
      have HS : Hid (riseP l (ps.drop k) = if ps[k].1 < l then false else riseP (wrap64 (ps[k].1 + 1)) (ps.drop (k + 1))) := by
        show _ = _
        rw [List.drop_eq_getElem_cons hlt]; rfl
      generalize ps[k] = p at *
      obtain ⟨pa, pc⟩ := p
      simp only at q0 q1 hpb HS
      clear hbd hc
      go_wp2_with fail
      refine (mayBench1_any pa pc _).mono ?_
      rintro e w1 ⟨rfl, b1⟩
      have hb1 := (hb.alloc hb.size (.cells #[.int .i64 pa, .int .i64 pc] 234))
      have hb2 := hb1.trans (b1.mono hb1.size)
      by_cases hless : pa < l
      · have Hf : Hid (riseP least ps = false) := HR.out.trans (HS.out.trans (if_pos hless))
        clear HR HS
        go_wp2
        go_ret
        exact ⟨by rw [Hf.out]; rfl, hb2⟩
      · have Hf : Hid (riseP least ps = riseP (wrap64 (pa + 1)) (ps.drop (k + 1))) := HR.out.trans (HS.out.trans (if_neg hless))
        clear HR HS
        go_wp2
        exact ⟨⟨k + 1, wrap64 (pa + 1), by omega, by go_num, by first | rfl | (unfold wrap64; go_num), Hf, hb2⟩, by simp [intOf]; omega⟩
    · have Hf : Hid (riseP least ps = true) := by
        show _ = _
        rw [HR.out, List.drop_of_length_le (by omega)]; rfl
      have hge : ¬ (k : Int) < (ps.length : Int) := by omega
      clear HR
      go_wp2
      go_ret
      exact ⟨by rw [Hf.out]; rfl, hb⟩

def weighP (ps : List (Int × Int)) : Bool := ps.all fun p => decide (1 ≤ p.2)

set_option maxHeartbeats 1600000 in
theorem allSeat_any (la : Option Addr) (lc : Nat) (ps : List (Int × Int)) (w : World) (hn : ps.length ≤ 140737488351232) (hps : PairsAt w la ps) :
    Calls Tryz.prog 158 #[.slice la ps.length lc, .func (.func 159) #[] #[]] w fun e w' => e = .returned (.bool (weighP ps)) ∧ Below w.heap.size w w' := by
  go_enter Tryz.func158, Tryz.ntmps158
  go_wp2
  go_loopw [6, 9] (fun _ iv wv => ∃ (k : Nat), k ≤ ps.length ∧ iv = .int .i64 k ∧ Hid (weighP ps = weighP (ps.drop k)) ∧ Below w.heap.size w wv) (fun _ iv _ => ps.length - (intOf iv).toNat)
  case atStart => exact ⟨0, Nat.zero_le _, rfl, rfl, Below.refl _ _⟩
  case round =>
    obtain ⟨k, hk, rfl, HR, hb⟩ := hrel
    by_cases hlt : k < ps.length
    · have hlt' : (k : Int) < (ps.length : Int) := by omega
      obtain ⟨hbd, h0 | ⟨rb, ro, rfl, hrl, hc⟩⟩ := hps.below (B := 0) hb
      · subst h0; simp at hlt
      obtain ⟨q0, q1⟩ := hc k ps[k] (List.getElem?_eq_getElem hlt)
      have HS : Hid (weighP (ps.drop k) = (decide (1 ≤ ps[k].2) && weighP (ps.drop (k + 1)))) := by
        show _ = _
        rw [List.drop_eq_getElem_cons hlt]; rfl
      generalize ps[k] = p at *
      obtain ⟨pa, pc⟩ := p
      simp only at q0 q1 HS
      clear hbd hc
      go_wp2_with fail
      refine (mayBench2_any pa pc _).mono ?_
      rintro e w1 ⟨rfl, b1⟩
      have hb1 := (hb.alloc hb.size (.cells #[.int .i64 pa, .int .i64 pc] 234))
      have hb2 := hb1.trans (b1.mono hb1.size)
      by_cases hless : 1 ≤ pc
      · have Hf : Hid (weighP ps = weighP (ps.drop (k + 1))) := by
          show _ = _
          rw [HR.out, HS.out]; simp [hless]
        clear HR HS
        go_wp2
        exact ⟨⟨k + 1, by omega, by go_num, Hf, hb2⟩, by simp [intOf]; omega⟩
      · have Hf : Hid (weighP ps = false) := by
          show _ = _
          rw [HR.out, HS.out]; simp; omega
        clear HR HS
        have hless' : decide (1 ≤ pc) = false := by simpa using hless
        go_wp2
        go_ret
        exact ⟨by rw [Hf.out]; rfl, hb2⟩
    · have Hf : Hid (weighP ps = true) := by
        show _ = _
        rw [HR.out, List.drop_of_length_le (by omega)]; rfl
      have hge : ¬ (k : Int) < (ps.length : Int) := by omega
      clear HR
      go_wp2
      go_ret
      exact ⟨by rw [Hf.out]; rfl, hb⟩

def mayBenchP (ps : List (Int × Int)) : Bool := riseP 1 ps && weighP ps

set_option maxHeartbeats 800000 in
theorem mayBench_any (la : Option Addr) (lc : Nat) (ps : List (Int × Int)) (w : World) (hn : ps.length ≤ 140737488351232) (hps : PairsAt w la ps) :
    Calls Tryz.prog 150 #[.slice la ps.length lc] w fun e w' => e = .returned (.bool (mayBenchP ps)) ∧ Below w.heap.size w w' := by
  go_enter Tryz.func150, Tryz.ntmps150
  go_wp2_with fail
  refine (riseSeat_any la lc 1 ps _ hn hps).mono ?_
  rintro e w1 ⟨rfl, b1⟩
  cases hm : riseP 1 ps
  · have Hm := show Hid (_ = _) from hm
    clear hm
    go_wp2
    go_ret
    exact ⟨by unfold mayBenchP; rw [Hm.out]; rfl, b1⟩
  · have Hm := show Hid (_ = _) from hm
    clear hm
    go_wp2_with fail
    refine (allSeat_any la lc ps _ hn (hps.below (B := 0) b1)).mono ?_
    rintro e w2 ⟨rfl, b2⟩
    go_wp2
    go_ret
    exact ⟨by unfold mayBenchP; rw [Hm.out]; simp, b1.trans (b2.mono b1.size)⟩

def mayViewP (wi ep : Int) (ps : List (Int × Int)) : Bool := decide (1 ≤ wi) && decide (wi ≤ 8) && decide (1 ≤ ep) && mayBenchP ps


end Go.Proofs.YtaifkidpdmhciaaGreat
