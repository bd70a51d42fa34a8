/- The digest of a tree. -/
import Derived.Test.YtncaimopkcnmbaaTPut4
namespace Go.Proofs.Ytncaimopkcnmbaa
open Go.RowKit
set_option linter.unusedVariables false
set_option linter.unusedSimpArgs false

set_option maxHeartbeats 1600000 in
theorem root_none (wd : Int) (w : World) (hw : okW wd) :
    Calls Try.prog 10 #[.agg #[.int .i64 wd, .pointer none]] w fun e w' => e = .returned (.int .u64 (rootP wd none)) ∧ Below w.heap.size w w' := by
  have bA : Below w.heap.size w (w.alloc (.cells #[.int .i64 wd, .pointer none] 28)) := (Below.refl _ _).alloc (Nat.le_refl _) _
  have kT := Blk.new w #[.int .i64 wd, .pointer none] 28
  go_enter Try.func10, Try.ntmps10
  go_upto_region 2 with fail
  generalize w.alloc (.cells #[.int .i64 wd, .pointer none] 28) = wA at *
  have t0 := kT.cell 0
  simp only [List.getElem?_toArray, List.getElem?_cons_succ, List.getElem?_cons_zero] at t0
  have T0 : ∀ w', Below wA.heap.size wA w' → w'.cell? ⟨w.heap.size, 0, none⟩ = some (.int .i64 wd) := fun w' h => by rw [h.cell (p := ⟨w.heap.size, 0, none⟩) kT.lt]; exact t0
  have bw : Below wA.heap.size wA wA := Below.refl _ _
  go_region_held3 (fun w' => Below wA.heap.size wA w') (repeat (first | exact bw.drew | exact hNext | assumption | refine Below.drew ?_ | exact bw))
    (first
    | (go_at_call 25
       refine (bareI_any _).mono ?_
       rintro e w3 ⟨v, rfl, ⟨a, cap, rfl, hs⟩, b3⟩
       have hNext : Below wA.heap.size wA w3 := Below.trans (by assumption) (b3.mono (Below.size (by assumption))))
    | (go_at_call 24
       refine (ofImg_any wd 5 [] _ _ hw (Nat.zero_le _) ⟨a, cap, rfl, hs⟩).mono ?_
       rintro e w4 ⟨rfl, b4⟩
       have hNext2 : Below wA.heap.size wA w4 := hNext.trans (b4.mono hNext.size)))
  all_goals
    go_wp2
    go_ret
    exact ⟨rfl, bA.trans (hNext2.mono bA.size)⟩

set_option maxHeartbeats 1600000 in
theorem root_some (wd : Int) (b : Nat) (t : Tr) (w : World) (hw : okW wd) (h : NodeAt wd w b t) :
    Calls Try.prog 10 #[.agg #[.int .i64 wd, .pointer (some ⟨b, 0, none⟩)]] w fun e w' => e = .returned (.int .u64 (rootP wd (some t))) ∧ Below w.heap.size w w' := by
  have bA : Below w.heap.size w (w.alloc (.cells #[.int .i64 wd, .pointer (some ⟨b, 0, none⟩)] 28)) := (Below.refl _ _).alloc (Nat.le_refl _) _
  have kT := Blk.new w #[.int .i64 wd, .pointer (some ⟨b, 0, none⟩)] 28
  have hA := NodeAt.below bA h
  go_enter Try.func10, Try.ntmps10
  go_upto_region 3 with fail
  generalize w.alloc (.cells #[.int .i64 wd, .pointer (some ⟨b, 0, none⟩)] 28) = wA at *
  have t0 := kT.cell 0
  have t1 := kT.cell 1
  simp only [List.getElem?_toArray, List.getElem?_cons_succ, List.getElem?_cons_zero] at t0 t1
  have T0 : ∀ w', Below wA.heap.size wA w' → w'.cell? ⟨w.heap.size, 0, none⟩ = some (.int .i64 wd) := fun w' h => by rw [h.cell (p := ⟨w.heap.size, 0, none⟩) kT.lt]; exact t0
  have T1 : ∀ w', Below wA.heap.size wA w' → w'.cell? ⟨w.heap.size, 1, none⟩ = some (.pointer (some ⟨b, 0, none⟩)) := fun w' h => by rw [h.cell (p := ⟨w.heap.size, 1, none⟩) kT.lt]; exact t1
  have D0 : ∀ w', Below wA.heap.size wA w' → w'.cell? ⟨b, 0, none⟩ = some (.int .u64 (t.dig wd)) := fun w' h => (NodeAt.below h hA).dig
  have bw : Below wA.heap.size wA wA := Below.refl _ _
  have hd := t.dig_bd wd
  obtain ⟨d, Hd⟩ : ∃ d, Hid (t.dig wd = d) := ⟨_, rfl⟩
  rw [Hd.out] at hd D0
  have HR : Hid (rootP wd (some t) = ofP wd 5 [str (be d 8)]) := by show _ = _; simp only [rootP]; rw [Hd.out]
  clear hA h t0 t1
  go_region_held3 (fun w' => Below wA.heap.size wA w') (repeat (first | exact bw.drew | exact hNext | assumption | refine Below.drew ?_ | exact bw))
    (first
    | (go_at_call 26
       refine (treeI_any d _ hd).mono ?_
       rintro e w3 ⟨v, rfl, ⟨a, cap, rfl, hs⟩, b3⟩
       have hNext : Below wA.heap.size wA w3 := Below.trans (by assumption) (b3.mono (Below.size (by assumption))))
    | (go_at_call 24
       refine (ofImg_any wd 5 [str (be d 8)] _ _ hw (by unfold maxLen; simp) ⟨a, cap, rfl, hs⟩).mono ?_
       rintro e w4 ⟨rfl, b4⟩
       have hNext2 : Below wA.heap.size wA w4 := hNext.trans (b4.mono hNext.size)))
  all_goals
    go_wp2
    go_ret
    exact ⟨by rw [HR.out]; rfl, bA.trans (hNext2.mono bA.size)⟩

theorem root_any (wd : Int) (q : Option Addr) (o : Option Tr) (w : World) (hw : okW wd) (h : TopAt wd w (.pointer q) o) :
    Calls Try.prog 10 #[.agg #[.int .i64 wd, .pointer q]] w fun e w' => e = .returned (.int .u64 (rootP wd o)) ∧ Below w.heap.size w w' := by
  cases o with
  | none =>
    have e : q = none := by have h : Value.pointer q = .pointer none := h; injection h
    subst e
    exact root_none wd w hw
  | some t =>
    obtain ⟨b, e, hn⟩ := h
    have e : q = some ⟨b, 0, none⟩ := by injection e
    subst e
    exact root_some wd b t w hw hn
end Go.Proofs.Ytncaimopkcnmbaa
