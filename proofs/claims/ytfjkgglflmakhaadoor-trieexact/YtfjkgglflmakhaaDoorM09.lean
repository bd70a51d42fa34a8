/- Leaves and forks are made. -/
import Derived.Test.YtfjkgglflmakhaaDoorM07
import Derived.Test.YtfjkgglflmakhaaDoorTBit
import Derived.Deep.LoopGhost

namespace Go.Proofs.YtfjkgglflmakhaaDoor
open Go.RowKit
set_option linter.unusedVariables false

def okW (wd : Int) : Prop := -9223372036854775808 ≤ wd ∧ wd ≤ 9223372036854775807
theorem str_max (k : Key) (h : k.length ≤ 4096) : (str k).size ≤ maxLen := by rw [str_size]; unfold maxLen; omega

set_option maxHeartbeats 1600000 in
theorem leafOf_any (wd : Int) (k v : Key) (w : World) (hw : okW wd) (hk : k.length ≤ 4096) (hv : v.length ≤ 4096) :
    Calls Tryd.prog 23 #[.int .i64 wd, .string (str k), .string (str v)] w fun e w' => ∃ b, e = .returned (.pointer (some ⟨b, 0, none⟩)) ∧ NodeAt wd w' b (.leaf k v) ∧ Below w.heap.size w w' := by
  have kB := Blk.new w #[.int .u64 0, .string (str k), .string (str v), .int .i64 0, .pointer none, .pointer none] 63
  have bA : Below w.heap.size w (w.alloc (.cells #[.int .u64 0, .string (str k), .string (str v), .int .i64 0, .pointer none, .pointer none] 63)) := (Below.refl _ _).alloc (Nat.le_refl _) _
  have k1 := told_leaf _ _ _ _ _ kB
  go_enter Tryd.func23, Tryd.ntmps23
  go_wp2_with fail
  refine k1.mono ?_
  rintro e w1 ⟨rfl, b1⟩
  have kB1 := kB.below b1 kB.lt
  have B1 := bA.trans (b1.mono bA.size)
  go_wp2_with fail
  refine (over_any wd 1 (str k) (str v) 0 0 0 _ hw (str_max k hk) (str_max v hv) (by omega) (by omega)).mono ?_
  rintro e w2 ⟨rfl, b2⟩
  have kB2 := kB1.below b2 kB1.lt
  have B2 := B1.trans (b2.mono B1.size)
  have c0 := kB2.cell 0
  have f0 := kB2.frozen 0
  have hz := kB2.lt
  simp only [List.getElem?_toArray, List.getElem?_cons_zero] at c0
  go_wp2
  go_ret
  refine ⟨w.heap.size, rfl, ?_, B2.setCell (p := ⟨w.heap.size, 0, none⟩) (Nat.le_refl _) _⟩
  exact kB2.set 0 (.int .u64 (overP wd 1 (str k) (str v) 0 0 0))

/-- A node whose tree lay in an elder world, and a store into a block that is younger. -/
theorem NodeAt.setNew {wd : Int} {w w2 : World} {b : Nat} {t : Tr} (h : NodeAt wd w b t) (hb : Below w.heap.size w w2) (c : Nat) (hc : w.heap.size ≤ c) (i : Nat) (v : Value) : NodeAt wd (w2.setCell ⟨c, i, none⟩ v) b t :=
  NodeAt.below (hb.setCell (p := ⟨c, i, none⟩) hc v) h

set_option maxHeartbeats 3200000 in
theorem forkOf_any (wd : Int) (p at_ x y : Nat) (X Y : Tr) (w : World) (hw : okW wd) (hp : p ≤ 100000000) (ha : at_ = 0 ∨ at_ = 1) (hx : NodeAt wd w x X) (hy : NodeAt wd w y Y) :
    Calls Tryd.prog 43 #[.int .i64 wd, .int .i64 p, .int .i64 at_, .pointer (some ⟨x, 0, none⟩), .pointer (some ⟨y, 0, none⟩)] w fun e w' => ∃ b, e = .returned (.pointer (some ⟨b, 0, none⟩)) ∧ NodeAt wd w' b (mkFork p at_ X Y) ∧ Below w.heap.size w w' := by
  have bA : Below w.heap.size w (w.alloc (.cells #[.int .u64 0, .string ⟨#[]⟩, .string ⟨#[]⟩, .int .i64 p, .pointer none, .pointer none] 63)) := (Below.refl _ _).alloc (Nat.le_refl _) _
  have xl := hx.lt
  have yl := hy.lt
  have kN := Blk.new w #[.int .u64 0, .string ⟨#[]⟩, .string ⟨#[]⟩, .int .i64 p, .pointer none, .pointer none] 63
  rcases ha with rfl | rfl
  · have kB : Blk (w.alloc (.cells #[.int .u64 0, .string ⟨#[]⟩, .string ⟨#[]⟩, .int .i64 p, .pointer (some ⟨x, 0, none⟩), .pointer (some ⟨y, 0, none⟩)] 63)).drew w.heap.size _ 63 := (Blk.new w #[.int .u64 0, .string ⟨#[]⟩, .string ⟨#[]⟩, .int .i64 p, .pointer (some ⟨x, 0, none⟩), .pointer (some ⟨y, 0, none⟩)] 63).drew
    have bA : Below w.heap.size w (w.alloc (.cells #[.int .u64 0, .string ⟨#[]⟩, .string ⟨#[]⟩, .int .i64 p, .pointer (some ⟨x, 0, none⟩), .pointer (some ⟨y, 0, none⟩)] 63)).drew := ((Below.refl _ _).alloc (Nat.le_refl _) _).drew
    have nl := NodeAt.below bA hx
    have nr := NodeAt.below bA hy
    have k1 := told_fork w.heap.size x y 0 p (X.dig wd) (Y.dig wd) _ _ _ kB nl.lt nr.lt nl.dig nr.dig
    go_enter Tryd.func43, Tryd.ntmps43
    go_wp2
    go_region
    go_wp2_with fail
    generalize (w.alloc (.cells #[.int .u64 0, .string ⟨#[]⟩, .string ⟨#[]⟩, .int .i64 p, .pointer (some ⟨x, 0, none⟩), .pointer (some ⟨y, 0, none⟩)] 63)).drew = wA at *
    refine k1.mono ?_
    rintro e w1 ⟨rfl, b1⟩
    have kB1 := kB.below b1 kB.lt
    have nl1 := NodeAt.below b1 nl
    have nr1 := NodeAt.below b1 nr
    have B1 := bA.trans (b1.mono bA.size)
    go_wp2_with fail
    refine (over_any wd 2 ⟨#[]⟩ ⟨#[]⟩ p (X.dig wd) (Y.dig wd) _ hw (str_max [] (by simp)) (str_max [] (by simp)) (X.dig_bd wd) (Y.dig_bd wd)).mono ?_
    rintro e w2 ⟨rfl, b2⟩
    have kB2 := kB1.below b2 kB1.lt
    have nl2 := NodeAt.below b2 nl1
    have nr2 := NodeAt.below b2 nr1
    have B2 := B1.trans (b2.mono B1.size)
    have c0 := kB2.cell 0
    have f0 := kB2.frozen 0
    have hz := kB2.lt
    simp only [List.getElem?_toArray, List.getElem?_cons_zero] at c0
    have hne1 : w.heap.size ≠ x := by omega
    have hne2 : w.heap.size ≠ y := by omega
    go_wp2
    go_ret
    exact ⟨w.heap.size, rfl, ⟨x, y, kB2.set 0 (.int .u64 (overP wd 2 ⟨#[]⟩ ⟨#[]⟩ p (X.dig wd) (Y.dig wd))), hx.setNew B2 _ (Nat.le_refl _) _ _, hy.setNew B2 _ (Nat.le_refl _) _ _⟩, B2.setCell (p := ⟨w.heap.size, 0, none⟩) (Nat.le_refl _) _⟩
  · have kB : Blk (w.alloc (.cells #[.int .u64 0, .string ⟨#[]⟩, .string ⟨#[]⟩, .int .i64 p, .pointer (some ⟨y, 0, none⟩), .pointer (some ⟨x, 0, none⟩)] 63)).drew w.heap.size _ 63 := (Blk.new w #[.int .u64 0, .string ⟨#[]⟩, .string ⟨#[]⟩, .int .i64 p, .pointer (some ⟨y, 0, none⟩), .pointer (some ⟨x, 0, none⟩)] 63).drew
    have bA : Below w.heap.size w (w.alloc (.cells #[.int .u64 0, .string ⟨#[]⟩, .string ⟨#[]⟩, .int .i64 p, .pointer (some ⟨y, 0, none⟩), .pointer (some ⟨x, 0, none⟩)] 63)).drew := ((Below.refl _ _).alloc (Nat.le_refl _) _).drew
    have nl := NodeAt.below bA hy
    have nr := NodeAt.below bA hx
    have k1 := told_fork w.heap.size y x 0 p (Y.dig wd) (X.dig wd) _ _ _ kB nl.lt nr.lt nl.dig nr.dig
    go_enter Tryd.func43, Tryd.ntmps43
    go_wp2
    go_region
    go_wp2_with fail
    generalize (w.alloc (.cells #[.int .u64 0, .string ⟨#[]⟩, .string ⟨#[]⟩, .int .i64 p, .pointer (some ⟨y, 0, none⟩), .pointer (some ⟨x, 0, none⟩)] 63)).drew = wA at *
    refine k1.mono ?_
    rintro e w1 ⟨rfl, b1⟩
    have kB1 := kB.below b1 kB.lt
    have nl1 := NodeAt.below b1 nl
    have nr1 := NodeAt.below b1 nr
    have B1 := bA.trans (b1.mono bA.size)
    go_wp2_with fail
    refine (over_any wd 2 ⟨#[]⟩ ⟨#[]⟩ p (Y.dig wd) (X.dig wd) _ hw (str_max [] (by simp)) (str_max [] (by simp)) (Y.dig_bd wd) (X.dig_bd wd)).mono ?_
    rintro e w2 ⟨rfl, b2⟩
    have kB2 := kB1.below b2 kB1.lt
    have nl2 := NodeAt.below b2 nl1
    have nr2 := NodeAt.below b2 nr1
    have B2 := B1.trans (b2.mono B1.size)
    have c0 := kB2.cell 0
    have f0 := kB2.frozen 0
    have hz := kB2.lt
    simp only [List.getElem?_toArray, List.getElem?_cons_zero] at c0
    have hne1 : w.heap.size ≠ y := by omega
    have hne2 : w.heap.size ≠ x := by omega
    go_wp2
    go_ret
    exact ⟨w.heap.size, rfl, ⟨y, x, kB2.set 0 (.int .u64 (overP wd 2 ⟨#[]⟩ ⟨#[]⟩ p (Y.dig wd) (X.dig wd))), hy.setNew B2 _ (Nat.le_refl _) _ _, hx.setNew B2 _ (Nat.le_refl _) _ _⟩, B2.setCell (p := ⟨w.heap.size, 0, none⟩) (Nat.le_refl _) _⟩
end Go.Proofs.YtfjkgglflmakhaaDoor

namespace Go.Proofs.YtfjkgglflmakhaaDoor
open Go.RowKit
set_option linter.unusedVariables false

/-- Its places are not too great. -/
def Tr.placed : Tr → Prop
  | .leaf _ _ => True
  | .fork p l r => p ≤ 100000000 ∧ l.placed ∧ r.placed

theorem Tr.size_pos (t : Tr) : 0 < t.size := by cases t <;> simp [Tr.size]

set_option maxHeartbeats 1600000 in
theorem end_any (wd : Int) (b : Nat) (t : Tr) (key : Key) (w : World) (hk : key.length ≤ maxLen) (hp : t.placed) (h : NodeAt wd w b t) :
    Calls Tryd.prog 26 #[.agg #[.int .i64 wd, .pointer (some ⟨b, 0, none⟩)], .string (str key)] w fun e w' => ∃ c, e = .returned (.pointer (some ⟨c, 0, none⟩)) ∧ NodeAt wd w' c (.leaf (t.find key).1 (t.find key).2) ∧ Below w.heap.size w w' := by
  have bA : Below w.heap.size w (w.alloc (.cells #[.int .i64 wd, .pointer (some ⟨b, 0, none⟩)] 27)) := (Below.refl _ _).alloc (Nat.le_refl _) _
  have h1 := NodeAt.below bA h
  go_enter Tryd.func26, Tryd.ntmps26
  go_wp2_with fail
  generalize w.alloc (.cells #[.int .i64 wd, .pointer (some ⟨b, 0, none⟩)] 27) = wA at *
  go_loopg [5] t.size (fun g n wr => ∃ (c : Nat) (u : Tr), g = u.size ∧ n = .pointer (some ⟨c, 0, none⟩) ∧ NodeAt wd wA c u ∧ u.placed ∧ u.find key = t.find key ∧ wr = wA)
  case atStart => exact ⟨b, t, rfl, rfl, h1, hp, rfl, rfl⟩
  case round =>
    obtain ⟨c, u, rfl, rfl, hc, hpu, hf, rfl⟩ := hrel
    cases u with
    | leaf k v =>
      have key1 := forks_leaf wd c k v wr hc
      have Hf : Aside (Tr.find key (.leaf k v) = t.find key) := hf
      clear hf
      go_wp2_with fail
      refine key1.mono ?_
      rintro e w' ⟨rfl, rfl⟩
      go_wp2
      go_ret
      refine ⟨c, rfl, ?_, bA⟩
      rw [← Hf.out]; exact hc
    | fork p l r =>
      have key1 := forks_fork wd c p l r wr hc
      obtain ⟨hp1, hpl, hpr⟩ := hpu
      obtain ⟨bl, br, kB, nl, nr⟩ := hc
      have key2 := bit_any key p wr hk hp1
      have key3 := side_any c (bitP key p) bl br _ _ _ _ wr (bitP_01 key p) kB
      have c3 := kB.cell 3
      simp only [List.getElem?_toArray, List.getElem?_cons_succ, List.getElem?_cons_zero] at c3
      have Hf : Aside (Tr.find key (.fork p l r) = t.find key) := hf
      clear hf
      by_cases hb : bitP key p = 0
      · rw [if_pos hb] at key3
        have Hg : Aside (Tr.find key l = t.find key) := by
          show _ = _
          rw [← Hf.out]; simp [Tr.find, hb]
        clear hb Hf
        go_wp2_with fail
        refine key1.mono ?_
        rintro e w' ⟨rfl, rfl⟩
        go_wp2_with fail
        refine key2.mono ?_
        rintro e w' ⟨rfl, rfl⟩
        go_wp2_with fail
        refine key3.mono ?_
        rintro e w' ⟨rfl, rfl⟩
        go_wp2
        go_roundg l.size
        case measure => simp [Tr.size]; omega
        case rel => exact ⟨bl, l, rfl, rfl, nl, hpl, Hg.out, rfl⟩
      · rw [if_neg hb] at key3
        have Hg : Aside (Tr.find key r = t.find key) := by
          show _ = _
          rw [← Hf.out]; simp [Tr.find, hb]
        clear hb Hf
        go_wp2_with fail
        refine key1.mono ?_
        rintro e w' ⟨rfl, rfl⟩
        go_wp2_with fail
        refine key2.mono ?_
        rintro e w' ⟨rfl, rfl⟩
        go_wp2_with fail
        refine key3.mono ?_
        rintro e w' ⟨rfl, rfl⟩
        go_wp2
        go_roundg r.size
        case measure => simp [Tr.size]; omega
        case rel => exact ⟨br, r, rfl, rfl, nr, hpr, Hg.out, rfl⟩

theorem end_none (n : Int) (s : ByteArray) (w : World) :
    Calls Tryd.prog 26 #[.agg #[.int .i64 n, .pointer none], .string s] w fun e w' => e = .returned (.pointer none) ∧ Below w.heap.size w w' := by
  go_enter Tryd.func26, Tryd.ntmps26
  go_wp2
  refine wp_loop_rounds 1 ?_
  rw [rounds_succ]
  go_wp2
  go_ret
  exact ⟨rfl, (Below.refl _ _).alloc (Nat.le_refl _) _⟩

theorem get_none (n : Int) (s : ByteArray) (w : World) :
    Calls Tryd.prog 9 #[.agg #[.int .i64 n, .pointer none], .string s] w fun e w' => e = .returned (.string ⟨#[]⟩) ∧ Below w.heap.size w w' := by
  go_enter Tryd.func9, Tryd.ntmps9
  go_wp2_with fail
  refine (end_none n s _).mono ?_
  rintro e w1 ⟨rfl, b1⟩
  go_wp2
  go_ret
  exact ⟨rfl, ((Below.refl _ _).alloc (Nat.le_refl _) _).trans (b1.mono (by simp))⟩

theorem new_any (n : Int) (w : World) :
    Calls Tryd.prog 6 #[.int .i64 n] w fun e w' => e = .returned (.agg #[.int .i64 n, .pointer none]) ∧ Below w.heap.size w w' := by
  go_enter Tryd.func6, Tryd.ntmps6
  go_wp2
  exact bodyPost_ret (v := .agg #[.int .i64 n, .pointer none]) (by simp [results, Tryd.results6, go_sem]) rfl
    ⟨rfl, (Below.refl _ _).alloc (Nat.le_refl _) _⟩

/-- The value of a key; none is empty. -/
def getO (key : Key) : Option Tr → Key
  | none => []
  | some t => if (t.find key).1 = key then (t.find key).2 else []

set_option maxHeartbeats 1600000 in
theorem get_any (wd : Int) (top : Value) (o : Option Tr) (key : Key) (w : World) (hk : key.length ≤ maxLen) (hp : ∀ t, o = some t → t.placed) (h : TopAt wd w top o) :
    Calls Tryd.prog 9 #[.agg #[.int .i64 wd, top], .string (str key)] w fun e w' => e = .returned (.string (str (getO key o))) ∧ Below w.heap.size w w' := by
  cases o with
  | none =>
    have e : top = .pointer none := h
    subst e
    exact get_none wd (str key) w
  | some t =>
    obtain ⟨b, rfl, hn⟩ := h
    have bA : Below w.heap.size w (w.alloc (.cells #[.int .i64 wd, .pointer (some ⟨b, 0, none⟩)] 27)) := (Below.refl _ _).alloc (Nat.le_refl _) _
    have key1 := end_any wd b t key _ hk (hp t rfl) (NodeAt.below bA hn)
    simp only [getO]
    by_cases hf : (t.find key).1 = key
    · rw [if_pos hf]
      obtain ⟨fk, fv, hF⟩ : ∃ fk fv, t.find key = (fk, fv) := ⟨_, _, rfl⟩
      rw [hF] at key1 hf ⊢
      simp only at key1 hf ⊢
      subst hf
      clear hF
      go_enter Tryd.func9, Tryd.ntmps9
      go_wp2_with fail
      refine key1.mono ?_
      rintro e w1 ⟨c, rfl, hc, b1⟩
      have B1 := bA.trans (b1.mono bA.size)
      have c1 := Blk.cell hc 1
      have c2 := Blk.cell hc 2
      simp only [List.getElem?_toArray, List.getElem?_cons_succ, List.getElem?_cons_zero] at c1 c2
      clear hc key1
      go_wp2
      go_ret
      exact ⟨rfl, B1⟩
    · rw [if_neg hf]
      obtain ⟨fk, fv, hF⟩ : ∃ fk fv, t.find key = (fk, fv) := ⟨_, _, rfl⟩
      rw [hF] at key1 hf
      simp only at key1 hf
      clear hF
      have hne : (fk == key) = false := by simpa using hf
      have s1 := str_toList fk
      have s2 := str_toList key
      go_enter Tryd.func9, Tryd.ntmps9
      go_wp2_with fail
      refine key1.mono ?_
      rintro e w1 ⟨c, rfl, hc, b1⟩
      have B1 := bA.trans (b1.mono bA.size)
      have c1 := Blk.cell hc 1
      have c2 := Blk.cell hc 2
      simp only [List.getElem?_toArray, List.getElem?_cons_succ, List.getElem?_cons_zero] at c1 c2
      clear hc key1
      go_wp2
      go_ret
      exact ⟨rfl, B1⟩
end Go.Proofs.YtfjkgglflmakhaaDoor
