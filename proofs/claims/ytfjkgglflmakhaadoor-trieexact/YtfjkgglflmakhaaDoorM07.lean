/- A tree in memory. -/
import Derived.Test.YtfjkgglflmakhaaDoorTrieTop
import Derived.Test.YtfjkgglflmakhaaDoorTPure
import Derived.Deep.RegionHeld3
import Derived.Deep.LoopGhost
import Derived.Deep.CutRange
import Derived.Deep.DeepCutAuto
import Derived.BigRegion

namespace Go.Proofs.YtfjkgglflmakhaaDoor
open Go.RowKit
set_option linter.unusedVariables false

/-- The digest of a tree's top. -/
def Tr.dig (wd : Int) : Tr → Int
  | .leaf k v => overP wd 1 (str k) (str v) 0 0 0
  | .fork p l r => overP wd 2 ⟨#[]⟩ ⟨#[]⟩ p (l.dig wd) (r.dig wd)
theorem Tr.dig_bd (wd : Int) (t : Tr) : 0 ≤ t.dig wd ∧ t.dig wd ≤ 18446744073709551615 := by
  cases t <;> exact overP_bd _ _ _ _ _ _ _

/-- Keys and values are not too long, places not too great. -/
def Tr.ok : Tr → Prop
  | .leaf k v => k.length ≤ 32 ∧ v.length ≤ 4096
  | .fork p l r => p < 288 ∧ l.ok ∧ r.ok

/-- A node in memory, and all below it. -/
def NodeAt (wd : Int) (w : World) : Nat → Tr → Prop
  | b, .leaf k v => Blk w b #[.int .u64 (Tr.dig wd (.leaf k v)), .string (str k), .string (str v), .int .i64 0, .pointer none, .pointer none] 63
  | b, .fork p l r => ∃ bl br, Blk w b #[.int .u64 (Tr.dig wd (.fork p l r)), .string ⟨#[]⟩, .string ⟨#[]⟩, .int .i64 p, .pointer (some ⟨bl, 0, none⟩), .pointer (some ⟨br, 0, none⟩)] 63 ∧ NodeAt wd w bl l ∧ NodeAt wd w br r

theorem NodeAt.lt {wd : Int} {w : World} {b : Nat} {t : Tr} (h : NodeAt wd w b t) : b < w.heap.size := by
  cases t with
  | leaf k v => exact Blk.lt h
  | fork p l r => obtain ⟨_, _, h, _⟩ := h; exact h.lt
theorem NodeAt.below {wd : Int} {w w' : World} (hb : Below w.heap.size w w') : ∀ {t : Tr} {b : Nat}, NodeAt wd w b t → NodeAt wd w' b t
  | .leaf k v, b, h => Blk.below (B := w.heap.size) h hb (Blk.lt h)
  | .fork p l r, b, h => by
    obtain ⟨bl, br, h, h1, h2⟩ := h
    exact ⟨bl, br, h.below hb h.lt, NodeAt.below hb h1, NodeAt.below hb h2⟩
theorem NodeAt.dig {wd : Int} {w : World} {b : Nat} {t : Tr} (h : NodeAt wd w b t) : w.cell? ⟨b, 0, none⟩ = some (.int .u64 (t.dig wd)) := by
  cases t with
  | leaf k v => exact (Blk.cell h 0).trans rfl
  | fork p l r => obtain ⟨_, _, h, _⟩ := h; exact (h.cell 0).trans rfl

/-- The top of a tree, or none. -/
def TopAt (wd : Int) (w : World) : Value → Option Tr → Prop
  | v, none => v = .pointer none
  | v, some t => ∃ b, v = .pointer (some ⟨b, 0, none⟩) ∧ NodeAt wd w b t
theorem TopAt.below {wd : Int} {w w' : World} {v : Value} {o : Option Tr} (hb : Below w.heap.size w w') (h : TopAt wd w v o) : TopAt wd w' v o := by
  cases o with
  | none => exact h
  | some t => obtain ⟨b, e, h⟩ := h; exact ⟨b, e, h.below hb⟩

theorem forks_leaf (wd : Int) (b : Nat) (k v : Key) (w : World) (h : NodeAt wd w b (.leaf k v)) :
    Calls Tryd.prog 36 #[.pointer (some ⟨b, 0, none⟩)] w fun e w' => e = .returned (.bool false) ∧ w = w' := by
  have c4 := Blk.cell h 4
  simp only [List.getElem?_toArray, List.getElem?_cons_succ, List.getElem?_cons_zero] at c4
  clear h
  go_enter Tryd.func36, Tryd.ntmps36
  go_wp2
  go_ret
  exact ⟨rfl, rfl⟩

theorem forks_fork (wd : Int) (b p : Nat) (l r : Tr) (w : World) (h : NodeAt wd w b (.fork p l r)) :
    Calls Tryd.prog 36 #[.pointer (some ⟨b, 0, none⟩)] w fun e w' => e = .returned (.bool true) ∧ w = w' := by
  obtain ⟨bl, br, h, _⟩ := h
  have c4 := Blk.cell h 4
  simp only [List.getElem?_toArray, List.getElem?_cons_succ, List.getElem?_cons_zero] at c4
  clear h
  go_enter Tryd.func36, Tryd.ntmps36
  go_wp2
  go_ret
  exact ⟨rfl, rfl⟩

theorem side_any (b x bl br : Nat) (d pl : Int) (s1 s2 : ByteArray) (w : World) (hx : x = 0 ∨ x = 1) (h : Blk w b #[.int .u64 d, .string s1, .string s2, .int .i64 pl, .pointer (some ⟨bl, 0, none⟩), .pointer (some ⟨br, 0, none⟩)] 63) :
    Calls Tryd.prog 38 #[.pointer (some ⟨b, 0, none⟩), .int .i64 x] w fun e w' => e = .returned (.pointer (some ⟨if x = 0 then bl else br, 0, none⟩)) ∧ w = w' := by
  have c4 := Blk.cell h 4
  have c5 := Blk.cell h 5
  simp only [List.getElem?_toArray, List.getElem?_cons_succ, List.getElem?_cons_zero] at c4 c5
  clear h
  rcases hx with rfl | rfl
  all_goals
    go_enter Tryd.func38, Tryd.ntmps38
    go_wp2
    go_ret
    exact ⟨rfl, rfl⟩
end Go.Proofs.YtfjkgglflmakhaaDoor

namespace Go.Proofs.YtfjkgglflmakhaaDoor
open Go.RowKit
set_option linter.unusedVariables false

set_option maxHeartbeats 1600000 in
theorem told_leaf (b : Nat) (d : Int) (k v : ByteArray) (w : World) (h : Blk w b #[.int .u64 d, .string k, .string v, .int .i64 0, .pointer none, .pointer none] 63) :
    Calls Tryd.prog 42 #[.pointer (some ⟨b, 0, none⟩)] w fun e w' => e = .returned (.agg #[.int .i64 1, .string k, .string v, .int .i64 0, .int .u64 0, .int .u64 0]) ∧ Below w.heap.size w w' := by
  have hlt := h.lt
  have c1 := Blk.cell h 1
  have c2 := Blk.cell h 2
  have c4 := Blk.cell h 4
  simp only [List.getElem?_toArray, List.getElem?_cons_succ, List.getElem?_cons_zero] at c1 c2 c4
  clear h
  go_enter Tryd.func42, Tryd.ntmps42
  go_wp2
  go_region
  all_goals
    go_wp2
    exact bodyPost_ret (v := .agg #[.int .i64 1, .string k, .string v, .int .i64 0, .int .u64 0, .int .u64 0]) (by simp [results, Tryd.results42, go_sem]) rfl ⟨rfl, ((Below.refl _ _).alloc (Nat.le_refl _) _).drew⟩

set_option maxHeartbeats 3200000 in
theorem told_fork (b bl br : Nat) (d p x y : Int) (s t : ByteArray) (w : World) (h : Blk w b #[.int .u64 d, .string s, .string t, .int .i64 p, .pointer (some ⟨bl, 0, none⟩), .pointer (some ⟨br, 0, none⟩)] 63)
    (hl : bl < w.heap.size) (hr : br < w.heap.size) (cl : w.cell? ⟨bl, 0, none⟩ = some (.int .u64 x)) (cr : w.cell? ⟨br, 0, none⟩ = some (.int .u64 y)) :
    Calls Tryd.prog 42 #[.pointer (some ⟨b, 0, none⟩)] w fun e w' => e = .returned (.agg #[.int .i64 2, .string ⟨#[]⟩, .string ⟨#[]⟩, .int .i64 p, .int .u64 x, .int .u64 y]) ∧ Below w.heap.size w w' := by
  have hlt := h.lt
  have c3 := Blk.cell h 3
  have c4 := Blk.cell h 4
  have c5 := Blk.cell h 5
  simp only [List.getElem?_toArray, List.getElem?_cons_succ, List.getElem?_cons_zero] at c3 c4 c5
  clear h
  go_enter Tryd.func42, Tryd.ntmps42
  go_wp2
  go_region
  all_goals
    go_wp2
    exact bodyPost_ret (v := .agg #[.int .i64 2, .string ⟨#[]⟩, .string ⟨#[]⟩, .int .i64 p, .int .u64 x, .int .u64 y]) (by simp [results, Tryd.results42, go_sem]) rfl ⟨rfl, ((Below.refl _ _).alloc (Nat.le_refl _) _).drew⟩
end Go.Proofs.YtfjkgglflmakhaaDoor
