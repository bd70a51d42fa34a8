/- Which things may be (chapter 1, W3). -/
import Derived.Test.YtigbfbniicfpdaaGreatWNums
namespace Go.Proofs.YtigbfbniicfpdaaGreat.W
open Go.RowKit
set_option linter.unusedVariables false







def mayVoteP (s : Int) (has : Bool) (bl f : Int) : Bool := decide (0 ≤ s) && decide (s ≤ 2) && decide (1 ≤ f) && (has || (decide (bl = 0) && decide (s ≠ 0)))





def mayParcelP (k t : Int) : Bool := (decide (k = 1) || decide (k = 2)) && decide (1 ≤ t)



/-- A list of two numbers each, to be read. -/
def PairsAt (w : World) (la : Option Addr) (ps : List (Int × Int)) : Prop :=
  (∀ p ∈ ps, (-9223372036854775808 ≤ p.1 ∧ p.1 ≤ 9223372036854775807) ∧ (-9223372036854775808 ≤ p.2 ∧ p.2 ≤ 9223372036854775807)) ∧
  (ps = [] ∨ ∃ rb ro, la = some ⟨rb, ro, none⟩ ∧ rb < w.heap.size ∧ ∀ i p, ps[i]? = some p → w.cell? ⟨rb, ro + i * 2, none⟩ = some (.int .i64 p.1) ∧ w.cell? ⟨rb, ro + i * 2 + 1, none⟩ = some (.int .i64 p.2))

theorem PairsAt.below {w w' : World} {B : Nat} {la : Option Addr} {ps : List (Int × Int)} (h : PairsAt w la ps) (hb : Below w.heap.size w w') : PairsAt w' la ps := by
  refine ⟨h.1, ?_⟩
  rcases h.2 with h | ⟨rb, ro, e, hl, hc⟩
  · exact .inl h
  · exact .inr ⟨rb, ro, e, Nat.lt_of_lt_of_le hl hb.size, fun i p hp => by rw [hb.cell (p := ⟨rb, ro + i * 2, none⟩) hl, hb.cell (p := ⟨rb, ro + i * 2 + 1, none⟩) hl]; exact hc i p hp⟩

theorem mayBench1_any (a c : Int) (w : World) : Calls Tryz.prog 77 #[.agg #[.int .i64 a, .int .i64 c]] w fun e w' => e = .returned (.int .i64 a) ∧ Below w.heap.size w w' := by
  go_enter Tryz.func77, Tryz.ntmps77
  go_wp2
  go_ret
  exact ⟨rfl, (Below.refl _ _).alloc (Nat.le_refl _) _⟩

theorem mayBench2_any (a c : Int) (w : World) : Calls Tryz.prog 79 #[.agg #[.int .i64 a, .int .i64 c]] w fun e w' => e = .returned (.bool (decide (1 ≤ c))) ∧ Below w.heap.size w w' := by
  go_enter Tryz.func79, Tryz.ntmps79
  go_wp2
  go_ret
  exact ⟨rfl, (Below.refl _ _).alloc (Nat.le_refl _) _⟩

def riseP (least : Int) : List (Int × Int) → Bool
  | [] => true
  | p :: r => if p.1 < least then false else riseP (wrap64 (p.1 + 1)) r

set_option maxHeartbeats 1600000 in
theorem riseSeat_any (la : Option Addr) (lc : Nat) (least : Int) (ps : List (Int × Int)) (w : World) (hn : ps.length ≤ 140737488351232) (hps : PairsAt w la ps) :
    Calls Tryz.prog 76 #[.slice la ps.length lc, .int .i64 least, .func (.func 77) #[] #[]] w fun e w' => e = .returned (.bool (riseP least ps)) ∧ Below w.heap.size w w' := by
  go_enter Tryz.func76, Tryz.ntmps76
  go_wp2
  go_loopw [1, 8, 9, 12] (fun lv _ _ iv wv => ∃ (k : Nat) (l : Int), k ≤ ps.length ∧ iv = .int .i64 k ∧ lv = .int .i64 l ∧ Hid (riseP least ps = riseP l (ps.drop k)) ∧ Below w.heap.size w wv) (fun _ _ _ iv _ => ps.length - (intOf iv).toNat)
  case atStart => exact ⟨0, least, Nat.zero_le _, rfl, rfl, rfl, Below.refl _ _⟩
  case round =>
    obtain ⟨k, l, hk, rfl, rfl, HR, hb⟩ := hrel
    by_cases hlt : k < ps.length
    · have hlt' : (k : Int) < (ps.length : Int) := by omega
      obtain ⟨hbd, h0 | ⟨rb, ro, rfl, hrl, hc⟩⟩ := hps.below (B := 0) hb
      · subst h0; simp at hlt
      obtain ⟨q0, q1⟩ := hc k ps[k] (List.getElem?_eq_getElem hlt)
      have hpb := (hbd _ (List.getElem_mem hlt)).1
      have HS : Hid (riseP l (ps.drop k) = if ps[k].1 < l then false else riseP (wrap64 (ps[k].1 + 1)) (ps.drop (k + 1))) := by
        show _ = _
        rw [List.drop_eq_getElem_cons hlt]; rfl
      generalize ps[k] = p at *
      obtain ⟨pa, pc⟩ := p
      simp only at q0 q1 hpb HS
      clear hbd hc
      go_wp2_with fail
      refine (mayBench1_any pa pc _).mono ?_
      rintro e w1 ⟨rfl, b1⟩
      have hb1 := (hb.alloc hb.size (.cells #[.int .i64 pa, .int .i64 pc] 39))
      have hb2 := hb1.trans (b1.mono hb1.size)
      by_cases hless : pa < l
      · have Hf : Hid (riseP least ps = false) := HR.out.trans (HS.out.trans (if_pos hless))
        clear HR HS
        go_wp2
        go_ret
        exact ⟨by rw [Hf.out]; rfl, hb2⟩
      · have Hf : Hid (riseP least ps = riseP (wrap64 (pa + 1)) (ps.drop (k + 1))) := HR.out.trans (HS.out.trans (if_neg hless))
        clear HR HS
        go_wp2
        exact ⟨⟨k + 1, wrap64 (pa + 1), by omega, by go_num, by first | rfl | (unfold wrap64; go_num), Hf, hb2⟩, by simp [intOf]; omega⟩
    · have Hf : Hid (riseP least ps = true) := by
        show _ = _
        rw [HR.out, List.drop_of_length_le (by omega)]; rfl
      have hge : ¬ (k : Int) < (ps.length : Int) := by omega
      clear HR
      go_wp2
      go_ret
      exact ⟨by rw [Hf.out]; rfl, hb⟩

def weighP (ps : List (Int × Int)) : Bool := ps.all fun p => decide (1 ≤ p.2)

set_option maxHeartbeats 1600000 in
theorem allSeat_any (la : Option Addr) (lc : Nat) (ps : List (Int × Int)) (w : World) (hn : ps.length ≤ 140737488351232) (hps : PairsAt w la ps) :
    Calls Tryz.prog 78 #[.slice la ps.length lc, .func (.func 79) #[] #[]] w fun e w' => e = .returned (.bool (weighP ps)) ∧ Below w.heap.size w w' := by
  go_enter Tryz.func78, Tryz.ntmps78
  go_wp2
  go_loopw [6, 9] (fun _ iv wv => ∃ (k : Nat), k ≤ ps.length ∧ iv = .int .i64 k ∧ Hid (weighP ps = weighP (ps.drop k)) ∧ Below w.heap.size w wv) (fun _ iv _ => ps.length - (intOf iv).toNat)
  case atStart => exact ⟨0, Nat.zero_le _, rfl, rfl, Below.refl _ _⟩
  case round =>
    obtain ⟨k, hk, rfl, HR, hb⟩ := hrel
    by_cases hlt : k < ps.length
    · have hlt' : (k : Int) < (ps.length : Int) := by omega
      obtain ⟨hbd, h0 | ⟨rb, ro, rfl, hrl, hc⟩⟩ := hps.below (B := 0) hb
      · subst h0; simp at hlt
      obtain ⟨q0, q1⟩ := hc k ps[k] (List.getElem?_eq_getElem hlt)
      have HS : Hid (weighP (ps.drop k) = (decide (1 ≤ ps[k].2) && weighP (ps.drop (k + 1)))) := by
        show _ = _
        rw [List.drop_eq_getElem_cons hlt]; rfl
      generalize ps[k] = p at *
      obtain ⟨pa, pc⟩ := p
      simp only at q0 q1 HS
      clear hbd hc
      go_wp2_with fail
      refine (mayBench2_any pa pc _).mono ?_
      rintro e w1 ⟨rfl, b1⟩
      have hb1 := (hb.alloc hb.size (.cells #[.int .i64 pa, .int .i64 pc] 39))
      have hb2 := hb1.trans (b1.mono hb1.size)
      by_cases hless : 1 ≤ pc
      · have Hf : Hid (weighP ps = weighP (ps.drop (k + 1))) := by
          show _ = _
          rw [HR.out, HS.out]; simp [hless]
        clear HR HS
        go_wp2
        exact ⟨⟨k + 1, by omega, by go_num, Hf, hb2⟩, by simp [intOf]; omega⟩
      · have Hf : Hid (weighP ps = false) := by
          show _ = _
          rw [HR.out, HS.out]; simp; omega
        clear HR HS
        have hless' : decide (1 ≤ pc) = false := by simpa using hless
        go_wp2
        go_ret
        exact ⟨by rw [Hf.out]; rfl, hb2⟩
    · have Hf : Hid (weighP ps = true) := by
        show _ = _
        rw [HR.out, List.drop_of_length_le (by omega)]; rfl
      have hge : ¬ (k : Int) < (ps.length : Int) := by omega
      clear HR
      go_wp2
      go_ret
      exact ⟨by rw [Hf.out]; rfl, hb⟩

def mayBenchP (ps : List (Int × Int)) : Bool := riseP 1 ps && weighP ps

set_option maxHeartbeats 800000 in
theorem mayBench_any (la : Option Addr) (lc : Nat) (ps : List (Int × Int)) (w : World) (hn : ps.length ≤ 140737488351232) (hps : PairsAt w la ps) :
    Calls Tryz.prog 48 #[.slice la ps.length lc] w fun e w' => e = .returned (.bool (mayBenchP ps)) ∧ Below w.heap.size w w' := by
  go_enter Tryz.func48, Tryz.ntmps48
  go_wp2_with fail
  refine (riseSeat_any la lc 1 ps _ hn hps).mono ?_
  rintro e w1 ⟨rfl, b1⟩
  cases hm : riseP 1 ps
  · have Hm := show Hid (_ = _) from hm
    clear hm
    go_wp2
    go_ret
    exact ⟨by unfold mayBenchP; rw [Hm.out]; rfl, b1⟩
  · have Hm := show Hid (_ = _) from hm
    clear hm
    go_wp2_with fail
    refine (allSeat_any la lc ps _ hn (hps.below (B := 0) b1)).mono ?_
    rintro e w2 ⟨rfl, b2⟩
    go_wp2
    go_ret
    exact ⟨by unfold mayBenchP; rw [Hm.out]; simp, b1.trans (b2.mono b1.size)⟩

def mayViewP (wi ep : Int) (ps : List (Int × Int)) : Bool := decide (1 ≤ wi) && decide (wi ≤ 8) && decide (1 ≤ ep) && mayBenchP ps


end Go.Proofs.YtigbfbniicfpdaaGreat.W
