/- A slice of images is turned round, in its own memory. -/
import Derived.Test.YtabimdlooddcoaaDigHold
import Derived.RegionTactic
import Derived.BigRegion
namespace Go.Proofs.Ytabimdlooddcoaa
open Go.RowKit
set_option linter.unusedVariables false

def noEnt : Ent := ⟨0, none, 0, []⟩
/-- Behind k swaps: who stands where. -/
def turned (E : List Ent) (k m : Nat) : Ent := if m < k ∨ E.length ≤ m + k then E.getD (E.length - 1 - m) noEnt else E.getD m noEnt
def Holds2 (cur : Array Value) (f : Nat → Ent) (n : Nat) : Prop := ∀ m, m < n → cur[m * 2]? = some (.int .i64 (f m).tag) ∧ cur[m * 2 + 1]? = some (.slice (f m).a (f m).ss.length (f m).cap)

theorem turned_zero (E : List Ent) (m : Nat) (h : m < E.length) : turned E 0 m = E[m] := by
  unfold turned; rw [if_neg (by omega)]; simp [List.getD, h]
theorem turned_all (E : List Ent) (k m : Nat) (h : m < E.length) (hk : E.length ≤ 2 * k + 1) : turned E k m = E.reverse[m]'(by simpa using h) := by
  unfold turned
  by_cases h1 : m < k ∨ E.length ≤ m + k
  · rw [if_pos h1]
    simp [List.getD, List.getElem_reverse, show E.length - 1 - m < E.length by omega]
  · rw [if_neg h1]
    have e : E.length - 1 - m = m := by omega
    simp [List.getD, h, List.getElem_reverse, e]

theorem holds_swap (cur : Array Value) (E : List Ent) (k j : Nat) (hj : k + j + 1 = E.length) (hkj : k < j) (hsz : E.length * 2 ≤ cur.size) (h : Holds2 cur (turned E k) E.length) :
    Holds2 ((((cur.setIfInBounds (k * 2) (.int .i64 (turned E k j).tag)).setIfInBounds (k * 2 + 1) (.slice (turned E k j).a (turned E k j).ss.length (turned E k j).cap)).setIfInBounds (j * 2) (.int .i64 (turned E k k).tag)).setIfInBounds (j * 2 + 1) (.slice (turned E k k).a (turned E k k).ss.length (turned E k k).cap)) (turned E (k + 1)) E.length := by
  intro m hm
  have hmm := h m hm
  have e1 : turned E (k + 1) k = turned E k j := by
    unfold turned
    rw [if_pos (by omega), if_neg (by omega), show E.length - 1 - k = j by omega]
  have e2 : turned E (k + 1) j = turned E k k := by
    unfold turned
    rw [if_pos (by omega), if_neg (by omega), show E.length - 1 - j = k by omega]
  simp only [Array.getElem?_setIfInBounds, Array.size_setIfInBounds]
  by_cases hk : m = k
  · subst hk
    rw [e1]
    refine ⟨?_, ?_⟩
    · rw [if_neg (by omega), if_neg (by omega), if_neg (by omega), if_pos rfl, if_pos (by omega)]
    · rw [if_neg (by omega), if_neg (by omega), if_pos rfl, if_pos (by omega)]
  · by_cases hj2 : m = j
    · subst hj2
      rw [e2]
      refine ⟨?_, ?_⟩
      · rw [if_neg (by omega), if_pos rfl, if_pos (by omega)]
      · rw [if_pos rfl, if_pos (by omega)]
    · have e3 : turned E (k + 1) m = turned E k m := by
        unfold turned
        by_cases h1 : m < k ∨ E.length ≤ m + k
        · rw [if_pos h1, if_pos (by omega)]
        · rw [if_neg h1, if_neg (by omega)]
      rw [e3]
      refine ⟨?_, ?_⟩
      · rw [if_neg (by omega), if_neg (by omega), if_neg (by omega), if_neg (by omega)]; exact hmm.1
      · rw [if_neg (by omega), if_neg (by omega), if_neg (by omega), if_neg (by omega)]; exact hmm.2

theorem grown_setCell {w w' : World} {g : Nat} (h : w.grownBy w' (some g)) (o : Nat) (v : Value) : w.grownBy (w'.setCell ⟨g, o, none⟩ v) (some g) where
  os := h.os
  tape := h.tape
  output := h.output
  size := by rw [size_setCell]; exact h.size
  block := fun k hk hne => by rw [Below.heap_setCell _ _ _ _ (fun e => hne (by rw [e]))]; exact h.block k hk hne

theorem grown_drew {w w' : World} {r : Option Nat} (h : w.grownBy w' r) : w.grownBy w'.drew r := ⟨h.os, h.tape, h.output, h.size, h.block⟩

set_option maxRecDepth 100000 in
set_option maxHeartbeats 3200000 in
theorem rev_any (g n cap : Nat) (cur : Array Value) (E : List Ent) (w : World) (hn : E.length = n) (hm : n ≤ 4611686018427387904) (hsz : n * 2 ≤ cur.size) (hB : Blk w g cur 30) (hH : Holds2 cur (fun m => E.getD m noEnt) n) :
    Calls Try.prog 47 #[.slice (some ⟨g, 0, none⟩) n cap] w fun e w' => e = .returned (.tuple #[]) ∧ w.grownBy w' (some g) ∧ ∃ cur', Blk w' g cur' 30 ∧ Holds2 cur' (fun m => E.reverse.getD m noEnt) n := by
  have HN := show Hid (_ = _) from hn
  have hs2 : E.length * 2 ≤ cur.size := by omega
  clear hn
  go_enter Try.func47, Try.ntmps47
  go_wp2
  go_loopw [2, 3] (fun iv jv wv => ∃ (k : Nat) (j : Int) (cu : Array Value), iv = .int .i64 k ∧ jv = .int .i64 j ∧ (k : Int) + j + 1 = n ∧ (k : Int) ≤ j + 2 ∧ n * 2 ≤ cu.size ∧ Blk wv g cu 30 ∧ Hid (Holds2 cu (turned E k) E.length) ∧ w.grownBy wv (some g)) (fun iv jv _ => (intOf jv - intOf iv + 3).toNat)
  case atStart =>
    refine ⟨0, (n : Int) - 1, cur, rfl, rfl, by omega, by omega, hsz, hB, ?_, ⟨rfl, rfl, rfl, Nat.le_refl _, fun _ _ _ => rfl⟩⟩
    intro m hm
    have h1 := hH m (by rw [← HN.out]; exact hm)
    simp only [turned_zero E m hm]
    simpa [List.getD, hm] using h1
  case round =>
    obtain ⟨k, j, cu, rfl, rfl, hkj, hk2, hcu, kB, HH, hgr⟩ := hrel
    by_cases hlt : (k : Int) < j
    · obtain ⟨jn, rfl⟩ := Int.eq_ofNat_of_zero_le (show 0 ≤ j by omega)
      have hk := HH.out k (by rw [HN.out]; omega)
      have hj := HH.out jn (by rw [HN.out]; omega)
      have c0 := kB.cell (k * 2)
      have c1 := kB.cell (k * 2 + 1)
      have d0 := kB.cell (jn * 2)
      have d1 := kB.cell (jn * 2 + 1)
      rw [hk.1] at c0
      rw [hk.2] at c1
      rw [hj.1] at d0
      rw [hj.2] at d1
      have f0 := kB.frozen (k * 2)
      have f1 := kB.frozen (k * 2 + 1)
      have f2 := kB.frozen (jn * 2)
      have f3 := kB.frozen (jn * 2 + 1)
      have hsw : Hid (Holds2 _ (turned E (k + 1)) E.length) := holds_swap cu E k jn (by rw [HN.out]; omega) (by omega) (by rw [HN.out]; exact hcu) HH.out
      have kB2 := (((kB.set (k * 2) (.int .i64 (turned E k jn).tag)).set (k * 2 + 1) (.slice (turned E k jn).a (turned E k jn).ss.length (turned E k jn).cap)).set (jn * 2) (.int .i64 (turned E k k).tag)).set (jn * 2 + 1) (.slice (turned E k k).a (turned E k k).ss.length (turned E k k).cap)
      have hg2 := grown_setCell (grown_setCell (grown_setCell (grown_setCell hgr (k * 2) (.int .i64 (turned E k jn).tag)) (k * 2 + 1) (.slice (turned E k jn).a (turned E k jn).ss.length (turned E k jn).cap)) (jn * 2) (.int .i64 (turned E k k).tag)) (jn * 2 + 1) (.slice (turned E k k).a (turned E k k).ss.length (turned E k k).cap)
      clear hk hj
      generalize turned E k jn = ej at *
      generalize turned E k k = ek at *
      have a1 : (0 : Int) ≤ (k : Int) := by omega
      have a2 : (k : Int) < (n : Int) := by omega
      have a3 : (0 : Int) ≤ (jn : Int) := by omega
      have a4 : (jn : Int) < (n : Int) := by omega
      go_wp2_with fail
      go_region
      go_wp2
      go_roundw
      case rel => exact ⟨k + 1, (jn : Int) - 1, _, by go_num, rfl, by omega, by omega, by simp only [Array.size_setIfInBounds]; exact hcu, kB2, hsw, grown_drew hg2⟩
      case measure => simp [intOf]; omega
    · go_wp2
      go_end0
      refine ⟨rfl, hgr, cu, kB, fun m hm => ?_⟩
      have h1 := HH.out m (by rw [HN.out]; exact hm)
      have hm' : m < E.length := by rw [HN.out]; exact hm
      rw [turned_all E k m hm' (by rw [HN.out]; omega)] at h1
      have e : (E.reverse[m]?).getD noEnt = E.reverse[m]'(by simpa using hm') := by rw [List.getElem?_eq_getElem (by simpa using hm')]; rfl
      simp only [e]
      exact h1
end Go.Proofs.Ytabimdlooddcoaa
