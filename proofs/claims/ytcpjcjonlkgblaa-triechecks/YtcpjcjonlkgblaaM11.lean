/- The digest of a tree. -/
import Derived.Test.YtcpjcjonlkgblaaM10

namespace Go.Proofs.Ytcpjcjonlkgblaa
open Go.RowKit
set_option linter.unusedVariables false
set_option linter.unusedSimpArgs false

set_option maxHeartbeats 1600000 in
theorem root_none (wd : Int) (w : World) (hw : okW wd) :
    Calls Try.prog 8 #[.agg #[.int .i64 wd, .pointer none]] w fun e w' => e = .returned (.int .u64 (rootP wd none)) ∧ Below w.heap.size w w' := by
  have bA : Below w.heap.size w (w.alloc (.cells #[.int .i64 wd, .pointer none] 30)) := (Below.refl _ _).alloc (Nat.le_refl _) _
  have kT := Blk.new w #[.int .i64 wd, .pointer none] 30
  go_enter Try.func8, Try.ntmps8
  go_upto_region 2 with fail
  generalize w.alloc (.cells #[.int .i64 wd, .pointer none] 30) = wA at *
  have t0 := kT.cell 0
  simp only [List.getElem?_toArray, List.getElem?_cons_succ, List.getElem?_cons_zero] at t0
  have T0 : ∀ w', Below wA.heap.size wA w' → w'.cell? ⟨w.heap.size, 0, none⟩ = some (.int .i64 wd) := fun w' h => by rw [h.cell (p := ⟨w.heap.size, 0, none⟩) kT.lt]; exact t0
  have bw : Below wA.heap.size wA wA := Below.refl _ _
  go_region_held3 (fun w' => Below wA.heap.size wA w') (repeat (first | exact bw.drew | exact hNext | assumption | refine Below.drew ?_ | exact bw))
    (first
    | (go_at_call 22
       refine (bareI_any _).mono ?_
       rintro e w3 ⟨v, rfl, ⟨a, cap, rfl, hs⟩, b3⟩
       have hNext : Below wA.heap.size wA w3 := Below.trans (by assumption) (b3.mono (Below.size (by assumption))))
    | (go_at_call 18
       refine (ofImg_any wd 5 [] _ _ hw (Nat.zero_le _) ⟨a, cap, rfl, hs⟩).mono ?_
       rintro e w4 ⟨rfl, b4⟩
       have hNext2 : Below wA.heap.size wA w4 := hNext.trans (b4.mono hNext.size)))
  all_goals
    go_wp2
    go_ret
    exact ⟨rfl, bA.trans (hNext2.mono bA.size)⟩

set_option maxHeartbeats 1600000 in
theorem root_some (wd : Int) (b : Nat) (t : Tr) (w : World) (hw : okW wd) (h : NodeAt wd w b t) :
    Calls Try.prog 8 #[.agg #[.int .i64 wd, .pointer (some ⟨b, 0, none⟩)]] w fun e w' => e = .returned (.int .u64 (rootP wd (some t))) ∧ Below w.heap.size w w' := by
  have bA : Below w.heap.size w (w.alloc (.cells #[.int .i64 wd, .pointer (some ⟨b, 0, none⟩)] 30)) := (Below.refl _ _).alloc (Nat.le_refl _) _
  have kT := Blk.new w #[.int .i64 wd, .pointer (some ⟨b, 0, none⟩)] 30
  have hA := NodeAt.below bA h
  go_enter Try.func8, Try.ntmps8
  go_upto_region 3 with fail
  generalize w.alloc (.cells #[.int .i64 wd, .pointer (some ⟨b, 0, none⟩)] 30) = wA at *
  have t0 := kT.cell 0
  have t1 := kT.cell 1
  simp only [List.getElem?_toArray, List.getElem?_cons_succ, List.getElem?_cons_zero] at t0 t1
  have T0 : ∀ w', Below wA.heap.size wA w' → w'.cell? ⟨w.heap.size, 0, none⟩ = some (.int .i64 wd) := fun w' h => by rw [h.cell (p := ⟨w.heap.size, 0, none⟩) kT.lt]; exact t0
  have T1 : ∀ w', Below wA.heap.size wA w' → w'.cell? ⟨w.heap.size, 1, none⟩ = some (.pointer (some ⟨b, 0, none⟩)) := fun w' h => by rw [h.cell (p := ⟨w.heap.size, 1, none⟩) kT.lt]; exact t1
  have D0 : ∀ w', Below wA.heap.size wA w' → w'.cell? ⟨b, 0, none⟩ = some (.int .u64 (t.dig wd)) := fun w' h => (NodeAt.below h hA).dig
  have bw : Below wA.heap.size wA wA := Below.refl _ _
  have hd := t.dig_bd wd
  obtain ⟨d, Hd⟩ : ∃ d, Hid (t.dig wd = d) := ⟨_, rfl⟩
  rw [Hd.out] at hd D0
  have HR : Hid (rootP wd (some t) = ofP wd 5 [str (be d 8)]) := by show _ = _; simp only [rootP]; rw [Hd.out]
  clear hA h t0 t1
  go_region_held3 (fun w' => Below wA.heap.size wA w') (repeat (first | exact bw.drew | exact hNext | assumption | refine Below.drew ?_ | exact bw))
    (first
    | (go_at_call 23
       refine (treeI_any d _ hd).mono ?_
       rintro e w3 ⟨v, rfl, ⟨a, cap, rfl, hs⟩, b3⟩
       have hNext : Below wA.heap.size wA w3 := Below.trans (by assumption) (b3.mono (Below.size (by assumption))))
    | (go_at_call 18
       refine (ofImg_any wd 5 [str (be d 8)] _ _ hw (by unfold maxLen; simp) ⟨a, cap, rfl, hs⟩).mono ?_
       rintro e w4 ⟨rfl, b4⟩
       have hNext2 : Below wA.heap.size wA w4 := hNext.trans (b4.mono hNext.size)))
  all_goals
    go_wp2
    go_ret
    exact ⟨by rw [HR.out]; rfl, bA.trans (hNext2.mono bA.size)⟩

theorem root_any (wd : Int) (q : Option Addr) (o : Option Tr) (w : World) (hw : okW wd) (h : TopAt wd w (.pointer q) o) :
    Calls Try.prog 8 #[.agg #[.int .i64 wd, .pointer q]] w fun e w' => e = .returned (.int .u64 (rootP wd o)) ∧ Below w.heap.size w w' := by
  cases o with
  | none =>
    have e : q = none := by have h : Value.pointer q = .pointer none := h; injection h
    subst e
    exact root_none wd w hw
  | some t =>
    obtain ⟨b, e, hn⟩ := h
    have e : q = some ⟨b, 0, none⟩ := by injection e
    subst e
    exact root_some wd b t w hw hn
end Go.Proofs.Ytcpjcjonlkgblaa

namespace Go.Proofs.Ytcpjcjonlkgblaa
open Go.RowKit
set_option linter.unusedVariables false
set_option linter.unusedSimpArgs false

/-- A list of items in memory. -/
def ItemsAt (w : World) (la : Option Addr) (l : List (Key × Key)) : Prop :=
  l = [] ∨ ∃ b off, la = some ⟨b, off, none⟩ ∧ b < w.heap.size ∧ ∀ i x, l[i]? = some x → w.cell? ⟨b, off + i * 2, none⟩ = some (.string (str x.1)) ∧ w.cell? ⟨b, off + i * 2 + 1, none⟩ = some (.string (str x.2))
theorem ItemsAt.below {w w' : World} {la : Option Addr} {l : List (Key × Key)} (h : ItemsAt w la l) (hb : Below w.heap.size w w') : ItemsAt w' la l := by
  rcases h with h | ⟨b, off, e, hl, hc⟩
  · exact .inl h
  · refine .inr ⟨b, off, e, Nat.lt_of_lt_of_le hl hb.size, fun i x hx => ?_⟩
    obtain ⟨h1, h2⟩ := hc i x hx
    exact ⟨by rw [hb.cell (p := ⟨b, off + i * 2, none⟩) hl]; exact h1, by rw [hb.cell (p := ⟨b, off + i * 2 + 1, none⟩) hl]; exact h2⟩


end Go.Proofs.Ytcpjcjonlkgblaa

namespace Go.Proofs.Ytcpjcjonlkgblaa
open Go.RowKit
set_option linter.unusedVariables false
set_option linter.unusedSimpArgs false

/-- It says yes or no, and no of more than so many. -/
def Few (n : Nat) (e : Ending) : Prop := ∃ z : Bool, e = .returned (.bool z) ∧ (z = true → n ≤ 1024)

set_option maxHeartbeats 1600000 in
theorem light_any (la : Option Addr) (ca : Nat) (l : List (Key × Key)) (w : World) (hl : l.length ≤ maxLen) (h1 : ItemsAt w la l) :
    Calls Try.prog 5 #[.slice la l.length ca] w fun e w' => Few l.length e ∧ Below w.heap.size w w' := by
  unfold maxLen at hl
  go_enter Try.func5, Try.ntmps5
  go_wp2_with fail
  go_loopw [3, 4] (fun nv iv wv => ∃ (i : Nat) (n : Int), i ≤ l.length ∧ iv = .int .i64 i ∧ nv = .int .i64 n ∧ Below w.heap.size w wv) (fun _ iv _ => l.length - (intOf iv).toNat)
  case atStart => exact ⟨0, _, Nat.zero_le _, rfl, rfl, Below.refl _ _⟩
  case round =>
    obtain ⟨i, n, hi, rfl, rfl, hb⟩ := hrel
    by_cases hlt : i < l.length
    · have hlt' : (i : Int) < (l.length : Int) := by omega
      by_cases hn : n ≤ 65536
      · rcases ItemsAt.below h1 hb with h0 | ⟨b1, o1, e1, z1, c1⟩
        · rw [h0] at hlt; simp at hlt
        subst e1
        obtain ⟨a1, a2⟩ := c1 i _ (List.getElem?_eq_getElem hlt)
        generalize l[i] = x at *
        obtain ⟨xk, xv⟩ := x
        simp only at a1 a2
        clear c1 h1
        go_upto_region 5 with fail
        go_quiet (fail)
        go_wp2
        exact ⟨⟨i + 1, _, by omega, by go_num, rfl, below_drewN hb _⟩, by simp [intOf]; omega⟩
      · have hnd : decide (n ≤ 65536) = false := by simpa using hn
        go_wp2
        go_ret
        exact ⟨⟨false, rfl, fun h => by cases h⟩, hb⟩
    · have hge : ¬ (i : Int) < (l.length : Int) := by omega
      by_cases hn : n ≤ 65536
      · by_cases hs : l.length ≤ 1024
        · have hs' : (l.length : Int) ≤ 1024 := by omega
          go_wp2
          go_ret
          exact ⟨⟨true, rfl, fun _ => hs⟩, hb⟩
        · have hs' : ¬ (l.length : Int) ≤ 1024 := by omega
          have hsd : decide ((l.length : Int) ≤ 1024) = false := by simpa using hs'
          go_wp2
          go_ret
          exact ⟨⟨false, rfl, fun h => by cases h⟩, hb⟩
      · have hnd : decide (n ≤ 65536) = false := by simpa using hn
        go_wp2
        go_ret
        exact ⟨⟨false, rfl, fun h => by cases h⟩, hb⟩
end Go.Proofs.Ytcpjcjonlkgblaa
