import Derived.Test.YtackcbpabjhmpaaGreatM02
namespace Go.Proofs.YtackcbpabjhmpaaGreat
open Go.RowKit
set_option linter.unusedVariables false
set_option linter.unusedSimpArgs false
theorem anyInt_any (v : Value) (n : Int) (w : World) : Calls Tryz.prog 42 #[.int .i64 n] w fun e w' => e = .returned (.bool true) ∧ Below w.heap.size w w' := by
 go_enter Tryz.func42, Tryz.ntmps42
 go_wp2
 go_ret
 exact ⟨rfl, Below.refl _ _⟩
theorem anyAccount_any (ba fo no bo le fr : Int) (ja : Bool) (w : World) : Calls Tryz.prog 193 #[.agg #[.int .i64 ba, .int .i64 fo, .int .i64 no, .int .i64 bo, .int .i64 le, .int .i64 fr, .bool ja]] w fun e w' => e = .returned (.bool true) ∧ Below w.heap.size w w' := by
 go_enter Tryz.func193, Tryz.ntmps193
 go_wp2
 go_ret
 exact ⟨rfl, by first | exact Below.refl _ _ | exact (Below.refl _ _).alloc (Nat.le_refl _) _⟩
theorem anyResult_any (co us va : Int) (la : Option Addr) (ln lc : Nat) (w : World) : Calls Tryz.prog 210 #[.agg #[.int .i64 co, .int .i64 us, .int .i64 va, .slice la ln lc]] w fun e w' => e = .returned (.bool true) ∧ Below w.heap.size w w' := by
 go_enter Tryz.func210, Tryz.ntmps210
 go_wp2
 go_ret
 exact ⟨rfl, by first | exact Below.refl _ _ | exact (Below.refl _ _).alloc (Nat.le_refl _) _⟩
def mayVoteP (s : Int) (has : Bool) (bl f : Int) : Bool := decide (0 ≤ s) && decide (s ≤ 2) && decide (1 ≤ f) && (has || (decide (bl = 0) && decide (s ≠ 0)))
set_option maxHeartbeats 1600000 in
theorem mayVote_any (h r s : Int) (has : Bool) (bl f : Int) (w : World) : Calls Tryz.prog 50 #[.agg #[.int .i64 h, .int .i64 r, .int .i64 s, .bool has, .int .u64 bl, .int .i64 f]] w fun e w' => e = .returned (.bool (mayVoteP s has bl f)) ∧ Below w.heap.size w w' := by
 have bA : Below w.heap.size w (w.alloc (.cells #[.int .i64 h, .int .i64 r, .int .i64 s, .bool has, .int .u64 bl, .int .i64 f] 36)) := (Below.refl _ _).alloc (Nat.le_refl _) _
 by_cases h0 : s < 0
 ·have e : mayVoteP s has bl f = false := by simp [mayVoteP]; omega
  rw [e]
  clear e
  go_enter Tryz.func50, Tryz.ntmps50
  go_wp2
  go_ret
  exact ⟨rfl, bA⟩
 ·by_cases h1 : 2 < s
  ·have e : mayVoteP s has bl f = false := by simp [mayVoteP]; omega
   rw [e]
   clear e
   go_enter Tryz.func50, Tryz.ntmps50
   go_wp2
   go_ret
   exact ⟨rfl, bA⟩
  ·by_cases h2 : f < 1
   ·have e : mayVoteP s has bl f = false := by simp [mayVoteP]; omega
    rw [e]
    clear e
    go_enter Tryz.func50, Tryz.ntmps50
    go_wp2
    go_ret
    exact ⟨rfl, bA⟩
   ·have e : mayVoteP s has bl f = (has || (decide (bl = 0) && decide (s ≠ 0))) := by
     unfold mayVoteP
     rw [decide_eq_true (show 0 ≤ s by omega), decide_eq_true (show s ≤ 2 by omega), decide_eq_true (show 1 ≤ f by omega)]
     simp
    rw [e]
    clear e
    cases has
    ·by_cases h3 : bl = 0
     ·subst h3
      by_cases h4 : s = 0
      ·subst h4
       go_enter Tryz.func50, Tryz.ntmps50
       go_wp2
       go_ret
       exact ⟨by simp, bA⟩
      ·have h4' : (s != 0) = true := by simpa using h4
       rw [show (false || (decide ((0 : Int) = 0) && decide (s ≠ 0))) = true by simp [h4]]
       go_enter Tryz.func50, Tryz.ntmps50
       go_wp2
       go_ret
       exact ⟨rfl, bA⟩
     ·have h3' : (bl == 0) = false := by simpa using h3
      rw [show (false || (decide (bl = 0) && decide (s ≠ 0))) = false by simp [h3]]
      go_enter Tryz.func50, Tryz.ntmps50
      go_wp2
      go_ret
      exact ⟨rfl, bA⟩
    ·go_enter Tryz.func50, Tryz.ntmps50
     go_wp2
     go_ret
     exact ⟨by simp, bA⟩
set_option maxHeartbeats 800000 in
theorem mayGuilt_any (h r s : Int) (has : Bool) (bl f h2 r2 s2 : Int) (has2 : Bool) (bl2 f2 : Int) (w : World) :
  Calls Tryz.prog 86 #[.agg #[.int .i64 h, .int .i64 r, .int .i64 s, .bool has, .int .u64 bl, .int .i64 f, .int .i64 h2, .int .i64 r2, .int .i64 s2, .bool has2, .int .u64 bl2, .int .i64 f2]] w fun e w' => e = .returned (.bool (mayVoteP s has bl f && mayVoteP s2 has2 bl2 f2)) ∧ Below w.heap.size w w' := by
 have bA : Below w.heap.size w (w.alloc (.cells #[.int .i64 h, .int .i64 r, .int .i64 s, .bool has, .int .u64 bl, .int .i64 f, .int .i64 h2, .int .i64 r2, .int .i64 s2, .bool has2, .int .u64 bl2, .int .i64 f2] 69)) := (Below.refl _ _).alloc (Nat.le_refl _) _
 have kG := Blk.new w #[.int .i64 h, .int .i64 r, .int .i64 s, .bool has, .int .u64 bl, .int .i64 f, .int .i64 h2, .int .i64 r2, .int .i64 s2, .bool has2, .int .u64 bl2, .int .i64 f2] 69
 go_enter Tryz.func86, Tryz.ntmps86
 go_wp2_with fail
 refine (mayVote_any h r s has bl f _).mono ?_
 rintro e w1 ⟨rfl, b1⟩
 have b2 := bA.trans (b1.mono bA.size)
 have kG1 := kG.below b1 kG.lt
 have q6 := kG1.cell 6
 have q7 := kG1.cell 7
 have q8 := kG1.cell 8
 have q9 := kG1.cell 9
 have q10 := kG1.cell 10
 have q11 := kG1.cell 11
 simp only [List.getElem?_toArray, List.getElem?_cons_succ, List.getElem?_cons_zero] at q6 q7 q8 q9 q10 q11
 cases hm : mayVoteP s has bl f
 ·have Hm := show Hid (_ = _) from hm
  clear hm
  go_wp2
  go_ret
  exact ⟨by rw [Hm.out]; rfl, b2⟩
 ·have Hm := show Hid (_ = _) from hm
  clear hm
  go_wp2_with fail
  refine (mayVote_any h2 r2 s2 has2 bl2 f2 _).mono ?_
  rintro e w3 ⟨rfl, b3⟩
  go_wp2
  go_ret
  exact ⟨by rw [Hm.out]; simp, b2.trans (b3.mono b2.size)⟩
def mayParcelP (k t : Int) : Bool := (decide (k = 1) || decide (k = 2)) && decide (1 ≤ t)
set_option maxHeartbeats 800000 in
theorem mayParcel_any (k t a : Int) (w : World) : Calls Tryz.prog 199 #[.agg #[.int .i64 k, .int .i64 t, .int .i64 a]] w fun e w' => e = .returned (.bool (mayParcelP k t)) ∧ Below w.heap.size w w' := by
 have bA : Below w.heap.size w (w.alloc (.cells #[.int .i64 k, .int .i64 t, .int .i64 a] 168)) := (Below.refl _ _).alloc (Nat.le_refl _) _
 by_cases h1 : k = 1
 ·subst h1
  by_cases h2 : 1 ≤ t
  ·rw [show mayParcelP 1 t = true by simp [mayParcelP, h2]]
   go_enter Tryz.func199, Tryz.ntmps199
   go_wp2
   go_ret
   exact ⟨by simp, bA⟩
  ·rw [show mayParcelP 1 t = false by simp [mayParcelP]; omega]
   go_enter Tryz.func199, Tryz.ntmps199
   go_wp2
   go_ret
   exact ⟨by simp, bA⟩
 ·have h1' : (k == 1) = false := by simpa using h1
  by_cases h3 : k = 2
  ·subst h3
   by_cases h2 : 1 ≤ t
   ·rw [show mayParcelP 2 t = true by simp [mayParcelP, h2]]
    go_enter Tryz.func199, Tryz.ntmps199
    go_wp2
    go_ret
    exact ⟨by simp, bA⟩
   ·rw [show mayParcelP 2 t = false by simp [mayParcelP]; omega]
    go_enter Tryz.func199, Tryz.ntmps199
    go_wp2
    go_ret
    exact ⟨by simp, bA⟩
  ·have h3' : (k == 2) = false := by simpa using h3
   rw [show mayParcelP k t = false by simp [mayParcelP, h1, h3]]
   go_enter Tryz.func199, Tryz.ntmps199
   go_wp2
   go_ret
   exact ⟨by simp, bA⟩
def PairsAt (w : World) (la : Option Addr) (ps : List (Int × Int)) : Prop :=
 (∀ p ∈ ps, (-9223372036854775808 ≤ p.1 ∧ p.1 ≤ 9223372036854775807) ∧ (-9223372036854775808 ≤ p.2 ∧ p.2 ≤ 9223372036854775807)) ∧
 (ps = [] ∨ ∃ rb ro, la = some ⟨rb, ro, none⟩ ∧ rb < w.heap.size ∧ ∀ i p, ps[i]? = some p → w.cell? ⟨rb, ro + i * 2, none⟩ = some (.int .i64 p.1) ∧ w.cell? ⟨rb, ro + i * 2 + 1, none⟩ = some (.int .i64 p.2))
theorem PairsAt.below {w w' : World} {B : Nat} {la : Option Addr} {ps : List (Int × Int)} (h : PairsAt w la ps) (hb : Below w.heap.size w w') : PairsAt w' la ps := by
 refine ⟨h.1, ?_⟩
 rcases h.2 with h | ⟨rb, ro, e, hl, hc⟩
 ·exact .inl h
 ·exact .inr ⟨rb, ro, e, Nat.lt_of_lt_of_le hl hb.size, fun i p hp => by rw [hb.cell (p := ⟨rb, ro + i * 2, none⟩) hl, hb.cell (p := ⟨rb, ro + i * 2 + 1, none⟩) hl]; exact hc i p hp⟩
theorem mayBench1_any (a c : Int) (w : World) : Calls Tryz.prog 143 #[.agg #[.int .i64 a, .int .i64 c]] w fun e w' => e = .returned (.int .i64 a) ∧ Below w.heap.size w w' := by
 go_enter Tryz.func143, Tryz.ntmps143
 go_wp2
 go_ret
 exact ⟨rfl, (Below.refl _ _).alloc (Nat.le_refl _) _⟩
theorem mayBench2_any (a c : Int) (w : World) : Calls Tryz.prog 145 #[.agg #[.int .i64 a, .int .i64 c]] w fun e w' => e = .returned (.bool (decide (1 ≤ c))) ∧ Below w.heap.size w w' := by
 go_enter Tryz.func145, Tryz.ntmps145
 go_wp2
 go_ret
 exact ⟨rfl, (Below.refl _ _).alloc (Nat.le_refl _) _⟩
def riseP (least : Int) : List (Int × Int) → Bool
 | [] => true
 | p :: r => if p.1 < least then false else riseP (wrap64 (p.1 + 1)) r
set_option maxHeartbeats 1600000 in
theorem riseSeat_any (la : Option Addr) (lc : Nat) (least : Int) (ps : List (Int × Int)) (w : World) (hn : ps.length ≤ 140737488351232) (hps : PairsAt w la ps) :
  Calls Tryz.prog 142 #[.slice la ps.length lc, .int .i64 least, .func (.func 143) #[] #[]] w fun e w' => e = .returned (.bool (riseP least ps)) ∧ Below w.heap.size w w' := by
 go_enter Tryz.func142, Tryz.ntmps142
 go_wp2
 go_loopw [1, 8, 9, 12] (fun lv _ _ iv wv => ∃ (k : Nat) (l : Int), k ≤ ps.length ∧ iv = .int .i64 k ∧ lv = .int .i64 l ∧ Hid (riseP least ps = riseP l (ps.drop k)) ∧ Below w.heap.size w wv) (fun _ _ _ iv _ => ps.length - (intOf iv).toNat)
 case atStart => exact ⟨0, least, Nat.zero_le _, rfl, rfl, rfl, Below.refl _ _⟩
 case round =>
  obtain ⟨k, l, hk, rfl, rfl, HR, hb⟩ := hrel
  by_cases hlt : k < ps.length
  ·have hlt' : (k : Int) < (ps.length : Int) := by omega
   obtain ⟨hbd, h0 | ⟨rb, ro, rfl, hrl, hc⟩⟩ := hps.below (B := 0) hb
   ·subst h0; simp at hlt
   obtain ⟨q0, q1⟩ := hc k ps[k] (List.getElem?_eq_getElem hlt)
   have hpb := (hbd _ (List.getElem_mem hlt)).1
   have HS : Hid (riseP l (ps.drop k) = if ps[k].1 < l then false else riseP (wrap64 (ps[k].1 + 1)) (ps.drop (k + 1))) := by
    show _ = _
    rw [List.drop_eq_getElem_cons hlt]; rfl
   generalize ps[k] = p at *
   obtain ⟨pa, pc⟩ := p
   simp only at q0 q1 hpb HS
   clear hbd hc
   go_wp2_with fail
   refine (mayBench1_any pa pc _).mono ?_
   rintro e w1 ⟨rfl, b1⟩
   have hb1 := (hb.alloc hb.size (.cells #[.int .i64 pa, .int .i64 pc] 208))
   have hb2 := hb1.trans (b1.mono hb1.size)
   by_cases hless : pa < l
   ·have Hf : Hid (riseP least ps = false) := HR.out.trans (HS.out.trans (if_pos hless))
    clear HR HS
    go_wp2
    go_ret
    exact ⟨by rw [Hf.out]; rfl, hb2⟩
   ·have Hf : Hid (riseP least ps = riseP (wrap64 (pa + 1)) (ps.drop (k + 1))) := HR.out.trans (HS.out.trans (if_neg hless))
    clear HR HS
    go_wp2
    exact ⟨⟨k + 1, wrap64 (pa + 1), by omega, by go_num, by first | rfl | (unfold wrap64; go_num), Hf, hb2⟩, by simp [intOf]; omega⟩
  ·have Hf : Hid (riseP least ps = true) := by
    show _ = _
    rw [HR.out, List.drop_of_length_le (by omega)]; rfl
   have hge : ¬ (k : Int) < (ps.length : Int) := by omega
   clear HR
   go_wp2
   go_ret
   exact ⟨by rw [Hf.out]; rfl, hb⟩
def weighP (ps : List (Int × Int)) : Bool := ps.all fun p => decide (1 ≤ p.2)
set_option maxHeartbeats 1600000 in
theorem allSeat_any (la : Option Addr) (lc : Nat) (ps : List (Int × Int)) (w : World) (hn : ps.length ≤ 140737488351232) (hps : PairsAt w la ps) :
  Calls Tryz.prog 144 #[.slice la ps.length lc, .func (.func 145) #[] #[]] w fun e w' => e = .returned (.bool (weighP ps)) ∧ Below w.heap.size w w' := by
 go_enter Tryz.func144, Tryz.ntmps144
 go_wp2
 go_loopw [6, 9] (fun _ iv wv => ∃ (k : Nat), k ≤ ps.length ∧ iv = .int .i64 k ∧ Hid (weighP ps = weighP (ps.drop k)) ∧ Below w.heap.size w wv) (fun _ iv _ => ps.length - (intOf iv).toNat)
 case atStart => exact ⟨0, Nat.zero_le _, rfl, rfl, Below.refl _ _⟩
 case round =>
  obtain ⟨k, hk, rfl, HR, hb⟩ := hrel
  by_cases hlt : k < ps.length
  ·have hlt' : (k : Int) < (ps.length : Int) := by omega
   obtain ⟨hbd, h0 | ⟨rb, ro, rfl, hrl, hc⟩⟩ := hps.below (B := 0) hb
   ·subst h0; simp at hlt
   obtain ⟨q0, q1⟩ := hc k ps[k] (List.getElem?_eq_getElem hlt)
   have HS : Hid (weighP (ps.drop k) = (decide (1 ≤ ps[k].2) && weighP (ps.drop (k + 1)))) := by
    show _ = _
    rw [List.drop_eq_getElem_cons hlt]; rfl
   generalize ps[k] = p at *
   obtain ⟨pa, pc⟩ := p
   simp only at q0 q1 HS
   clear hbd hc
   go_wp2_with fail
   refine (mayBench2_any pa pc _).mono ?_
   rintro e w1 ⟨rfl, b1⟩
   have hb1 := (hb.alloc hb.size (.cells #[.int .i64 pa, .int .i64 pc] 208))
   have hb2 := hb1.trans (b1.mono hb1.size)
   by_cases hless : 1 ≤ pc
   ·have Hf : Hid (weighP ps = weighP (ps.drop (k + 1))) := by
     show _ = _
     rw [HR.out, HS.out]; simp [hless]
    clear HR HS
    go_wp2
    exact ⟨⟨k + 1, by omega, by go_num, Hf, hb2⟩, by simp [intOf]; omega⟩
   ·have Hf : Hid (weighP ps = false) := by
     show _ = _
     rw [HR.out, HS.out]; simp; omega
    clear HR HS
    have hless' : decide (1 ≤ pc) = false := by simpa using hless
    go_wp2
    go_ret
    exact ⟨by rw [Hf.out]; rfl, hb2⟩
  ·have Hf : Hid (weighP ps = true) := by
    show _ = _
    rw [HR.out, List.drop_of_length_le (by omega)]; rfl
   have hge : ¬ (k : Int) < (ps.length : Int) := by omega
   clear HR
   go_wp2
   go_ret
   exact ⟨by rw [Hf.out]; rfl, hb⟩
def mayBenchP (ps : List (Int × Int)) : Bool := riseP 1 ps && weighP ps
set_option maxHeartbeats 800000 in
theorem mayBench_any (la : Option Addr) (lc : Nat) (ps : List (Int × Int)) (w : World) (hn : ps.length ≤ 140737488351232) (hps : PairsAt w la ps) :
  Calls Tryz.prog 62 #[.slice la ps.length lc] w fun e w' => e = .returned (.bool (mayBenchP ps)) ∧ Below w.heap.size w w' := by
 go_enter Tryz.func62, Tryz.ntmps62
 go_wp2_with fail
 refine (riseSeat_any la lc 1 ps _ hn hps).mono ?_
 rintro e w1 ⟨rfl, b1⟩
 cases hm : riseP 1 ps
 ·have Hm := show Hid (_ = _) from hm
  clear hm
  go_wp2
  go_ret
  exact ⟨by unfold mayBenchP; rw [Hm.out]; rfl, b1⟩
 ·have Hm := show Hid (_ = _) from hm
  clear hm
  go_wp2_with fail
  refine (allSeat_any la lc ps _ hn (hps.below (B := 0) b1)).mono ?_
  rintro e w2 ⟨rfl, b2⟩
  go_wp2
  go_ret
  exact ⟨by unfold mayBenchP; rw [Hm.out]; simp, b1.trans (b2.mono b1.size)⟩
def mayViewP (wi ep : Int) (ps : List (Int × Int)) : Bool := decide (1 ≤ wi) && decide (wi ≤ 8) && decide (1 ≤ ep) && mayBenchP ps
set_option maxHeartbeats 1600000 in
theorem mayView_any (c wi ep h st : Int) (la : Option Addr) (lc : Nat) (ps : List (Int × Int)) (w : World) (hn : ps.length ≤ 140737488351232) (hps : PairsAt w la ps) :
  Calls Tryz.prog 204 #[.agg #[.int .i64 c, .int .i64 wi, .int .i64 ep, .int .i64 h, .int .u64 st, .slice la ps.length lc]] w fun e w' => e = .returned (.bool (mayViewP wi ep ps)) ∧ Below w.heap.size w w' := by
 have bA : Below w.heap.size w (w.alloc (.cells #[.int .i64 c, .int .i64 wi, .int .i64 ep, .int .i64 h, .int .u64 st, .slice la ps.length lc] 173)) := (Below.refl _ _).alloc (Nat.le_refl _) _
 by_cases h1 : 1 ≤ wi
 ·by_cases h2 : wi ≤ 8
  ·by_cases h3 : 1 ≤ ep
   ·rw [show mayViewP wi ep ps = mayBenchP ps by simp [mayViewP, h1, h2, h3]]
    go_enter Tryz.func204, Tryz.ntmps204
    go_wp2_with fail
    refine (mayBench_any la lc ps _ hn (hps.below (B := 0) bA)).mono ?_
    rintro e w1 ⟨rfl, b1⟩
    go_wp2
    go_ret
    exact ⟨by simp, bA.trans (b1.mono bA.size)⟩
   ·rw [show mayViewP wi ep ps = false by simp [mayViewP, h3]]
    have h3' : decide (1 ≤ ep) = false := by simpa using h3
    go_enter Tryz.func204, Tryz.ntmps204
    go_wp2
    go_ret
    exact ⟨by simp, bA⟩
  ·rw [show mayViewP wi ep ps = false by simp [mayViewP, h2]]
   have h2' : decide (wi ≤ 8) = false := by simpa using h2
   go_enter Tryz.func204, Tryz.ntmps204
   go_wp2
   go_ret
   exact ⟨by simp, bA⟩
 ·rw [show mayViewP wi ep ps = false by simp [mayViewP, h1]]
  have h1' : decide (1 ≤ wi) = false := by simpa using h1
  go_enter Tryz.func204, Tryz.ntmps204
  go_wp2
  go_ret
  exact ⟨by simp, bA⟩
end Go.Proofs.YtackcbpabjhmpaaGreat
