/- The way of a key; its value. -/
import Derived.Test.YtemlbcagkjmjgaaDoorTMake2
import Derived.Deep.LoopGhost
namespace Go.Proofs.YtemlbcagkjmjgaaDoor
open Go.RowKit
set_option linter.unusedVariables false

/-- Its places are not too great. -/
def Tr.placed : Tr → Prop
  | .leaf _ _ => True
  | .fork p l r => p ≤ 100000000 ∧ l.placed ∧ r.placed

theorem Tr.size_pos (t : Tr) : 0 < t.size := by cases t <;> simp [Tr.size]

set_option maxHeartbeats 1600000 in
theorem end_any (wd : Int) (b : Nat) (t : Tr) (key : Key) (w : World) (hk : key.length ≤ maxLen) (hp : t.placed) (h : NodeAt wd w b t) :
    Calls Tryd.prog 41 #[.agg #[.int .i64 wd, .pointer (some ⟨b, 0, none⟩)], .string (str key)] w fun e w' => ∃ c, e = .returned (.pointer (some ⟨c, 0, none⟩)) ∧ NodeAt wd w' c (.leaf (t.find key).1 (t.find key).2) ∧ Below w.heap.size w w' := by
  have bA : Below w.heap.size w (w.alloc (.cells #[.int .i64 wd, .pointer (some ⟨b, 0, none⟩)] 34)) := (Below.refl _ _).alloc (Nat.le_refl _) _
  have h1 := NodeAt.below bA h
  go_enter Tryd.func41, Tryd.ntmps41
  go_wp2_with fail
  generalize w.alloc (.cells #[.int .i64 wd, .pointer (some ⟨b, 0, none⟩)] 34) = wA at *
  go_loopg [5] t.size (fun g n wr => ∃ (c : Nat) (u : Tr), g = u.size ∧ n = .pointer (some ⟨c, 0, none⟩) ∧ NodeAt wd wA c u ∧ u.placed ∧ u.find key = t.find key ∧ wr = wA)
  case atStart => exact ⟨b, t, rfl, rfl, h1, hp, rfl, rfl⟩
  case round =>
    obtain ⟨c, u, rfl, rfl, hc, hpu, hf, rfl⟩ := hrel
    cases u with
    | leaf k v =>
      have key1 := forks_leaf wd c k v wr hc
      have Hf : Aside (Tr.find key (.leaf k v) = t.find key) := hf
      clear hf
      go_wp2_with fail
      refine key1.mono ?_
      rintro e w' ⟨rfl, rfl⟩
      go_wp2
      go_ret
      refine ⟨c, rfl, ?_, bA⟩
      rw [← Hf.out]; exact hc
    | fork p l r =>
      have key1 := forks_fork wd c p l r wr hc
      obtain ⟨hp1, hpl, hpr⟩ := hpu
      obtain ⟨bl, br, kB, nl, nr⟩ := hc
      have key2 := bit_any key p wr hk hp1
      have key3 := side_any c (bitP key p) bl br _ _ _ _ wr (bitP_01 key p) kB
      have c3 := kB.cell 3
      simp only [List.getElem?_toArray, List.getElem?_cons_succ, List.getElem?_cons_zero] at c3
      have Hf : Aside (Tr.find key (.fork p l r) = t.find key) := hf
      clear hf
      by_cases hb : bitP key p = 0
      · rw [if_pos hb] at key3
        have Hg : Aside (Tr.find key l = t.find key) := by
          show _ = _
          rw [← Hf.out]; simp [Tr.find, hb]
        clear hb Hf
        go_wp2_with fail
        refine key1.mono ?_
        rintro e w' ⟨rfl, rfl⟩
        go_wp2_with fail
        refine key2.mono ?_
        rintro e w' ⟨rfl, rfl⟩
        go_wp2_with fail
        refine key3.mono ?_
        rintro e w' ⟨rfl, rfl⟩
        go_wp2
        go_roundg l.size
        case measure => simp [Tr.size]; omega
        case rel => exact ⟨bl, l, rfl, rfl, nl, hpl, Hg.out, rfl⟩
      · rw [if_neg hb] at key3
        have Hg : Aside (Tr.find key r = t.find key) := by
          show _ = _
          rw [← Hf.out]; simp [Tr.find, hb]
        clear hb Hf
        go_wp2_with fail
        refine key1.mono ?_
        rintro e w' ⟨rfl, rfl⟩
        go_wp2_with fail
        refine key2.mono ?_
        rintro e w' ⟨rfl, rfl⟩
        go_wp2_with fail
        refine key3.mono ?_
        rintro e w' ⟨rfl, rfl⟩
        go_wp2
        go_roundg r.size
        case measure => simp [Tr.size]; omega
        case rel => exact ⟨br, r, rfl, rfl, nr, hpr, Hg.out, rfl⟩

theorem end_none (n : Int) (s : ByteArray) (w : World) :
    Calls Tryd.prog 41 #[.agg #[.int .i64 n, .pointer none], .string s] w fun e w' => e = .returned (.pointer none) ∧ Below w.heap.size w w' := by
  go_enter Tryd.func41, Tryd.ntmps41
  go_wp2
  refine wp_loop_rounds 1 ?_
  rw [rounds_succ]
  go_wp2
  go_ret
  exact ⟨rfl, (Below.refl _ _).alloc (Nat.le_refl _) _⟩

theorem get_none (n : Int) (s : ByteArray) (w : World) :
    Calls Tryd.prog 36 #[.agg #[.int .i64 n, .pointer none], .string s] w fun e w' => e = .returned (.string ⟨#[]⟩) ∧ Below w.heap.size w w' := by
  go_enter Tryd.func36, Tryd.ntmps36
  go_wp2_with fail
  refine (end_none n s _).mono ?_
  rintro e w1 ⟨rfl, b1⟩
  go_wp2
  go_ret
  exact ⟨rfl, ((Below.refl _ _).alloc (Nat.le_refl _) _).trans (b1.mono (by simp))⟩

theorem new_any (n : Int) (w : World) :
    Calls Tryd.prog 18 #[.int .i64 n] w fun e w' => e = .returned (.agg #[.int .i64 n, .pointer none]) ∧ Below w.heap.size w w' := by
  go_enter Tryd.func18, Tryd.ntmps18
  go_wp2
  exact bodyPost_ret (v := .agg #[.int .i64 n, .pointer none]) (by simp [results, Tryd.results18, go_sem]) rfl
    ⟨rfl, (Below.refl _ _).alloc (Nat.le_refl _) _⟩

/-- The value of a key; none is empty. -/
def getO (key : Key) : Option Tr → Key
  | none => []
  | some t => if (t.find key).1 = key then (t.find key).2 else []

set_option maxHeartbeats 1600000 in
theorem get_any (wd : Int) (top : Value) (o : Option Tr) (key : Key) (w : World) (hk : key.length ≤ maxLen) (hp : ∀ t, o = some t → t.placed) (h : TopAt wd w top o) :
    Calls Tryd.prog 36 #[.agg #[.int .i64 wd, top], .string (str key)] w fun e w' => e = .returned (.string (str (getO key o))) ∧ Below w.heap.size w w' := by
  cases o with
  | none =>
    have e : top = .pointer none := h
    subst e
    exact get_none wd (str key) w
  | some t =>
    obtain ⟨b, rfl, hn⟩ := h
    have bA : Below w.heap.size w (w.alloc (.cells #[.int .i64 wd, .pointer (some ⟨b, 0, none⟩)] 34)) := (Below.refl _ _).alloc (Nat.le_refl _) _
    have key1 := end_any wd b t key _ hk (hp t rfl) (NodeAt.below bA hn)
    simp only [getO]
    by_cases hf : (t.find key).1 = key
    · rw [if_pos hf]
      obtain ⟨fk, fv, hF⟩ : ∃ fk fv, t.find key = (fk, fv) := ⟨_, _, rfl⟩
      rw [hF] at key1 hf ⊢
      simp only at key1 hf ⊢
      subst hf
      clear hF
      go_enter Tryd.func36, Tryd.ntmps36
      go_wp2_with fail
      refine key1.mono ?_
      rintro e w1 ⟨c, rfl, hc, b1⟩
      have B1 := bA.trans (b1.mono bA.size)
      have c1 := Blk.cell hc 1
      have c2 := Blk.cell hc 2
      simp only [List.getElem?_toArray, List.getElem?_cons_succ, List.getElem?_cons_zero] at c1 c2
      clear hc key1
      go_wp2
      go_ret
      exact ⟨rfl, B1⟩
    · rw [if_neg hf]
      obtain ⟨fk, fv, hF⟩ : ∃ fk fv, t.find key = (fk, fv) := ⟨_, _, rfl⟩
      rw [hF] at key1 hf
      simp only at key1 hf
      clear hF
      have hne : (fk == key) = false := by simpa using hf
      have s1 := str_toList fk
      have s2 := str_toList key
      go_enter Tryd.func36, Tryd.ntmps36
      go_wp2_with fail
      refine key1.mono ?_
      rintro e w1 ⟨c, rfl, hc, b1⟩
      have B1 := bA.trans (b1.mono bA.size)
      have c1 := Blk.cell hc 1
      have c2 := Blk.cell hc 2
      simp only [List.getElem?_toArray, List.getElem?_cons_succ, List.getElem?_cons_zero] at c1 c2
      clear hc key1
      go_wp2
      go_ret
      exact ⟨rfl, B1⟩
end Go.Proofs.YtemlbcagkjmjgaaDoor
