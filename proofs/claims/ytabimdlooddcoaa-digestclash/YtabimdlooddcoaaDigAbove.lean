/- What is above a list (chapter 2, D2): the program's way and the answer's come to one plain function. -/
import Derived.Test.YtabimdlooddcoaaDigImg
namespace Go.Proofs.Ytabimdlooddcoaa
open Go.RowKit
set_option linter.unusedVariables false

def aboveF : Nat → Int → List ByteArray → Int
  | 0, _, _ => 0
  | f + 1, w, ss => if ss.length = 0 then 0 else if ss.length = 1 then ofP w 0 ss else
      ofP w 1 [str (be (aboveF f w (ss.take (firstP ss.length))) 8), str (be (aboveF f w (ss.drop (firstP ss.length))) 8)]
def aboveP (w : Int) (ss : List ByteArray) : Int := aboveF ss.length w ss

theorem aboveF_fuel (w : Int) : ∀ (f g : Nat) (ss : List ByteArray), ss.length ≤ f → ss.length ≤ g → aboveF f w ss = aboveF g w ss := by
  intro f
  induction f with
  | zero =>
    intro g ss h1 h2
    have : ss.length = 0 := by omega
    cases g with
    | zero => rfl
    | succ g => simp [aboveF, this]
  | succ f ih =>
    intro g ss h1 h2
    by_cases h0 : ss.length = 0
    · cases g with
      | zero => simp [aboveF, h0]
      | succ g => simp [aboveF, h0]
    · cases g with
      | zero => omega
      | succ g =>
        by_cases h3 : ss.length = 1
        · simp [aboveF, h3]
        · have hs := firstP_spec ss.length (by omega)
          simp only [aboveF, if_neg h0, if_neg h3]
          rw [ih g (ss.take (firstP ss.length)) (by simp; omega) (by simp; omega), ih g (ss.drop (firstP ss.length)) (by simp; omega) (by simp; omega)]

theorem aboveP_zero (w : Int) (ss : List ByteArray) (h : ss.length = 0) : aboveP w ss = 0 := by
  unfold aboveP; rw [h]; rfl
theorem aboveP_one (w : Int) (ss : List ByteArray) (h : ss.length = 1) : aboveP w ss = ofP w 0 ss := by
  unfold aboveP; rw [h]; simp [aboveF, h]
theorem aboveP_more (w : Int) (ss : List ByteArray) (h : 2 ≤ ss.length) :
    aboveP w ss = ofP w 1 [str (be (aboveP w (ss.take (firstP ss.length))) 8), str (be (aboveP w (ss.drop (firstP ss.length))) 8)] := by
  have hs := firstP_spec ss.length h
  have h1 : aboveP w ss = aboveF ((ss.length - 1) + 1) w ss := aboveF_fuel w _ _ ss (Nat.le_refl _) (by omega)
  rw [h1]
  simp only [aboveF]
  rw [if_neg (by omega), if_neg (by omega)]
  rw [aboveF_fuel w (ss.length - 1) (ss.take (firstP ss.length)).length (ss.take (firstP ss.length)) (by simp; omega) (Nat.le_refl _)]
  rw [aboveF_fuel w (ss.length - 1) (ss.drop (firstP ss.length)).length (ss.drop (firstP ss.length)) (by simp; omega) (Nat.le_refl _)]
  rfl
theorem aboveP_bd (w : Int) (ss : List ByteArray) : 0 ≤ aboveP w ss ∧ aboveP w ss ≤ 18446744073709551615 := by
  by_cases h0 : ss.length = 0
  · rw [aboveP_zero w ss h0]; omega
  · by_cases h1 : ss.length = 1
    · rw [aboveP_one w ss h1]; exact ofP_bd _ _ _
    · rw [aboveP_more w ss (by omega)]; exact ofP_bd _ _ _

theorem Strs.take {w : World} {a : Option Addr} {ss : List ByteArray} (h : Strs w a ss) (k : Nat) : Strs w a (ss.take k) := by
  refine ⟨fun s hs => h.1 s (List.mem_of_mem_take hs), ?_⟩
  rcases h.2 with e | ⟨b, off, rfl, hlt, hc⟩
  · left; simp [e]
  · exact .inr ⟨b, off, rfl, hlt, fun i hi => by rw [hc i (by simp at hi; omega)]; simp⟩
theorem Strs.drop {w : World} {b off : Nat} {ss : List ByteArray} (h : Strs w (some ⟨b, off, none⟩) ss) (k : Nat) : Strs w (some ⟨b, off + k, none⟩) (ss.drop k) := by
  refine ⟨fun s hs => h.1 s (List.mem_of_mem_drop hs), ?_⟩
  rcases h.2 with e | ⟨b', off', he, hlt, hc⟩
  · left; simp [e]
  · simp at he; obtain ⟨rfl, rfl⟩ := he
    exact .inr ⟨b, off + k, rfl, hlt, fun i hi => by rw [Nat.add_assoc, hc (k + i) (by simp at hi; omega)]; simp⟩
theorem Strs.some_of {w : World} {a : Option Addr} {ss : List ByteArray} (h : Strs w a ss) (h0 : 0 < ss.length) : ∃ b off, a = some ⟨b, off, none⟩ := by
  rcases h.2 with e | ⟨b, off, rfl, _, _⟩
  · subst e; simp at h0
  · exact ⟨b, off, rfl⟩

/-- What the answer's 'above' comes to, at lists of that length. -/
def RAbove (n : Nat) : Prop := ∀ (wd : Int) (a : Option Addr) (cap : Nat) (ss : List ByteArray) (w : World), -9223372036854775808 ≤ wd ∧ wd ≤ 9223372036854775807 → ss.length = n → n ≤ cap → cap ≤ maxLen → Strs w a ss →
    Calls Try.prog 31 #[.int .i64 wd, .slice a n cap] w fun e w' => e = .returned (.int .u64 (aboveP wd ss)) ∧ Below w.heap.size w w'

set_option maxHeartbeats 1000000 in
theorem rabove_step (n : Nat) (hn : n ≤ 1099511627776) (ih : ∀ m, m < n → RAbove m) : RAbove n := by
  intro wd a cap ss w hw hl hcap hm hs
  have hm' := hm
  unfold maxLen at hm'
  by_cases h0 : n = 0
  · subst h0
    rw [aboveP_zero wd ss hl]
    go_enter Try.func31, Try.ntmps31
    go_wp2
    go_ret
    exact ⟨rfl, Below.refl _ _⟩
  · by_cases h1 : n = 1
    · subst h1
      rw [aboveP_one wd ss hl]
      go_enter Try.func31, Try.ntmps31
      go_wp2_with fail
      refine (rof_any wd 0 a 1 cap ss _ hw hl (by omega) hs).mono ?_
      rintro e w1 ⟨rfl, b1⟩
      go_wp2
      go_ret
      exact ⟨rfl, b1⟩
    · have hf := firstP_spec n (by omega)
      rw [aboveP_more wd ss (by omega), hl]
      have e0 : ((n : Int) == 0) = false := by simp; omega
      have e1 : ((n : Int) == 1) = false := by simp; omega
      obtain ⟨b, off, rfl⟩ := hs.some_of (by omega)
      have hT := hs.take (firstP n)
      have hD := hs.drop (firstP n)
      have hlT : (ss.take (firstP n)).length = firstP n := by simp; omega
      have hlD : (ss.drop (firstP n)).length = n - firstP n := by simp; omega
      have IH1 := show Hid (RAbove (firstP n)) from ih _ hf.2.1
      have IH2 := show Hid (RAbove (n - firstP n)) from ih _ (by omega)
      clear ih
      generalize hxT : ss.take (firstP n) = sT at *
      generalize hxD : ss.drop (firstP n) = sD at *
      clear hxT hxD
      have HlT := show Hid (_ = _) from hlT
      have HlD := show Hid (_ = _) from hlD
      have Hl := show Hid (_ = _) from hl
      clear hlT hlD hl
      go_enter Try.func31, Try.ntmps31
      go_wp2_with fail
      refine (split_any n _ (by omega) hn).mono ?_
      rintro e w1 ⟨rfl, rfl⟩
      generalize firstP n = k at *
      go_wp2_with fail
      refine (IH1.out wd _ cap sT _ hw HlT.out (by omega) hm hT).mono ?_
      rintro e w1 ⟨rfl, b1⟩
      have hx := aboveP_bd wd sT
      go_wp2_with fail
      refine (IH2.out wd _ (cap - k) sD _ hw HlD.out (by omega) (by omega) (hD.below b1)).mono ?_
      rintro e w2 ⟨rfl, b2⟩
      have hy := aboveP_bd wd sD
      go_wp2_with fail
      refine (reight _ _ hx).mono ?_
      rintro e w3 ⟨rfl, b3⟩
      go_wp2_with fail
      refine (reight _ _ hy).mono ?_
      rintro e w4 ⟨rfl, b4⟩
      have b14 := b1.trans ((b2.mono b1.size).trans ((b3.mono (Nat.le_trans b1.size b2.size)).trans (b4.mono (Nat.le_trans b1.size (Nat.le_trans b2.size b3.size)))))
      go_wp2_with fail
      have hS := strs_two w4 (str (be (aboveP wd sT) 8)) (str (be (aboveP wd sD) 8)) (be8_size _) (be8_size _)
      refine (rof_any wd 1 _ 2 2 _ _ hw rfl (by unfold maxLen; omega) hS).mono ?_
      rintro e w5 ⟨rfl, b5⟩
      go_wp2
      go_ret
      exact ⟨rfl, (b14.alloc b14.size _).trans (b5.mono (by rw [World.size_alloc]; have := b14.size; omega))⟩

theorem rabove_any (n : Nat) (hn : n ≤ 1099511627776) : RAbove n := by
  induction n using Nat.strongRecOn with
  | ind n ih => exact rabove_step n hn fun m hm => ih m hm (by omega)

/-- What the program's 'above' comes to, at lists of that length. -/
def DAbove (n : Nat) : Prop := ∀ (wd : Int) (a : Option Addr) (cap : Nat) (ss : List ByteArray) (w : World), -9223372036854775808 ≤ wd ∧ wd ≤ 9223372036854775807 → ss.length = n → n ≤ cap → cap ≤ maxLen → Strs w a ss →
    Calls Try.prog 30 #[.int .i64 wd, .slice a n cap] w fun e w' => e = .returned (.int .u64 (aboveP wd ss)) ∧ Below w.heap.size w w'

set_option maxHeartbeats 1000000 in
theorem above_step (n : Nat) (hn : n ≤ 1099511627776) (ih : ∀ m, m < n → DAbove m) : DAbove n := by
  intro wd a cap ss w hw hl hcap hm hs
  have hm' := hm
  unfold maxLen at hm'
  by_cases h0 : n = 0
  · subst h0
    rw [aboveP_zero wd ss hl]
    go_enter Try.func30, Try.ntmps30
    go_wp2
    go_ret
    exact ⟨rfl, Below.refl _ _⟩
  · by_cases h1 : n = 1
    · subst h1
      rw [aboveP_one wd ss hl]
      match ss, hl with
      | [s], _ =>
      obtain ⟨hsz, h0 | ⟨b, off, rfl, hbl, hc⟩⟩ := hs
      · simp at h0
      have hc0 := hc 0 (by simp)
      have hs0 := hsz s (by simp)
      simp only [Nat.add_zero, List.getElem_cons_zero] at hc0
      clear hc hsz
      go_enter Try.func30, Try.ntmps30
      go_wp2_with fail
      refine (leafI_any s _ hs0).mono ?_
      rintro e w1 ⟨v, rfl, ⟨a1, cap1, rfl, hS⟩, b1⟩
      go_wp2_with fail
      refine (ofImage_any wd 0 a1 1 cap1 [s] _ hw rfl (by unfold maxLen; omega) hS).mono ?_
      rintro e w2 ⟨rfl, b2⟩
      go_wp2
      go_ret
      exact ⟨rfl, b1.trans (b2.mono b1.size)⟩
    · have hf := firstP_spec n (by omega)
      rw [aboveP_more wd ss (by omega), hl]
      have e0 : ((n : Int) == 0) = false := by simp; omega
      have e1 : ((n : Int) == 1) = false := by simp; omega
      obtain ⟨b, off, rfl⟩ := hs.some_of (by omega)
      have hT := hs.take (firstP n)
      have hD := hs.drop (firstP n)
      have hlT : (ss.take (firstP n)).length = firstP n := by simp; omega
      have hlD : (ss.drop (firstP n)).length = n - firstP n := by simp; omega
      have IH1 := show Hid (DAbove (firstP n)) from ih _ hf.2.1
      have IH2 := show Hid (DAbove (n - firstP n)) from ih _ (by omega)
      clear ih
      generalize hxT : ss.take (firstP n) = sT at *
      generalize hxD : ss.drop (firstP n) = sD at *
      clear hxT hxD
      have HlT := show Hid (_ = _) from hlT
      have HlD := show Hid (_ = _) from hlD
      have Hl := show Hid (_ = _) from hl
      clear hlT hlD hl
      go_enter Try.func30, Try.ntmps30
      go_wp2_with fail
      refine (first_any n _ (by omega) hn).mono ?_
      rintro e w1 ⟨rfl, rfl⟩
      generalize firstP n = k at *
      have hx := aboveP_bd wd sT
      have hy := aboveP_bd wd sD
      have g1 : k ≤ cap := by omega
      have g2 : k ≤ n := by omega
      have g3 : ¬ cap = k := by omega
      have hT' : Strs w.drew (some ⟨b, off, none⟩) sT := hT.below (Below.refl _ _).drew
      have hD' : Strs w.drew (some ⟨b, off + k, none⟩) sD := hD.below (Below.refl _ _).drew
      go_wp2_with fail
      go_region_with (first
        | (go_at_call_of 30 (Value.slice (some ⟨b, off, none⟩) k cap); refine (IH1.out wd _ cap sT _ hw HlT.out ?_ hm ?_).mono ?_; omega; exact hT'; rintro e w1 ⟨rfl, b1⟩)
        | (go_at_call_of 30 (Value.slice (some ⟨b, off + k, none⟩) (n - k) (cap - k)); refine (IH2.out wd _ (cap - k) sD _ hw HlD.out ?_ ?_ ?_).mono ?_; omega; omega; exact hD'.below b1; rintro e w2 ⟨rfl, b2⟩)
        | (go_at_call 45; refine (nodeI_any _ _ _ hx hy).mono ?_; rintro e w3 ⟨v, rfl, ⟨a3, cap3, rfl, hS⟩, b3⟩)
        | (go_at_call 9; refine (ofImage_any wd 1 a3 2 cap3 _ _ hw rfl ?_ hS).mono ?_; (unfold maxLen; omega); rintro e w4 ⟨rfl, b4⟩))
      all_goals
        have b01 : Below w.heap.size w w1 := ((Below.refl _ _).drew).trans b1
        have b04 := b01.trans ((b2.mono b01.size).trans ((b3.mono (Nat.le_trans b01.size b2.size)).trans (b4.mono (Nat.le_trans b01.size (Nat.le_trans b2.size b3.size)))))
        go_wp2
        go_ret
        exact ⟨rfl, b04⟩

theorem above_any (n : Nat) (hn : n ≤ 1099511627776) : DAbove n := by
  induction n using Nat.strongRecOn with
  | ind n ih => exact above_step n hn fun m hm => ih m hm (by omega)

/-- D2. -/
def rootP (w : Int) (ss : List ByteArray) : Int := ofP w 2 [str (be (ss.length : Int) 5), str (be (aboveP w ss) 8)]

set_option maxHeartbeats 400000 in
theorem root_any (wd : Int) (a : Option Addr) (n cap : Nat) (ss : List ByteArray) (w : World) (hw : -9223372036854775808 ≤ wd ∧ wd ≤ 9223372036854775807) (hn : n ≤ 1099511627776) (hl : ss.length = n) (hcap : n ≤ cap) (hm : cap ≤ maxLen) (hs : Strs w a ss) :
    Calls Try.prog 10 #[.int .i64 wd, .slice a n cap] w fun e w' => e = .returned (.int .u64 (rootP wd ss)) ∧ Below w.heap.size w w' := by
  have hy := aboveP_bd wd ss
  unfold rootP
  rw [hl]
  go_enter Try.func10, Try.ntmps10
  go_wp2_with fail
  refine (above_any n hn wd a cap ss _ hw hl hcap hm hs).mono ?_
  rintro e w1 ⟨rfl, b1⟩
  go_wp2_with fail
  refine (listI_any _ _ _ hy).mono ?_
  rintro e w2 ⟨v, rfl, ⟨a2, cap2, rfl, hS⟩, b2⟩
  go_wp2_with fail
  refine (ofImage_any wd 2 a2 2 cap2 _ _ hw rfl (by unfold maxLen; omega) hS).mono ?_
  rintro e w3 ⟨rfl, b3⟩
  go_wp2
  go_ret
  exact ⟨rfl, b1.trans ((b2.mono b1.size).trans (b3.mono (Nat.le_trans b1.size b2.size)))⟩

set_option maxHeartbeats 400000 in
theorem rroot_any (wd : Int) (a : Option Addr) (n cap : Nat) (ss : List ByteArray) (w : World) (hw : -9223372036854775808 ≤ wd ∧ wd ≤ 9223372036854775807) (hn : n ≤ 1099511627776) (hl : ss.length = n) (hcap : n ≤ cap) (hm : cap ≤ maxLen) (hs : Strs w a ss) :
    Calls Try.prog 11 #[.int .i64 wd, .slice a n cap] w fun e w' => e = .returned (.int .u64 (rootP wd ss)) ∧ Below w.heap.size w w' := by
  have hy := aboveP_bd wd ss
  unfold rootP
  rw [hl]
  go_enter Try.func11, Try.ntmps11
  go_wp2_with fail
  refine (rabove_any n hn wd a cap ss _ hw hl hcap hm hs).mono ?_
  rintro e w1 ⟨rfl, b1⟩
  go_wp2_with fail
  refine (rfive _ _ (by omega)).mono ?_
  rintro e w2 ⟨rfl, b2⟩
  go_wp2_with fail
  refine (reight _ _ hy).mono ?_
  rintro e w3 ⟨rfl, b3⟩
  have b13 := b1.trans ((b2.mono b1.size).trans (b3.mono (Nat.le_trans b1.size b2.size)))
  go_wp2_with fail
  have hS := strs_two w3 (str (be (n : Int) 5)) (str (be (aboveP wd ss) 8)) (be5_size _) (be8_size _)
  refine (rof_any wd 2 _ 2 2 _ _ hw rfl (by unfold maxLen; omega) hS).mono ?_
  rintro e w5 ⟨rfl, b5⟩
  go_wp2
  go_ret
  exact ⟨rfl, (b13.alloc b13.size _).trans (b5.mono (by rw [World.size_alloc]; have := b13.size; omega))⟩
end Go.Proofs.Ytabimdlooddcoaa
