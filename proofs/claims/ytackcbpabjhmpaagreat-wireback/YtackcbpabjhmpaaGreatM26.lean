import Derived.Test.YtackcbpabjhmpaaGreatXMay3
import Derived.Test.YtackcbpabjhmpaaGreatXRef3
namespace Go.Proofs.YtackcbpabjhmpaaGreat
open Go.RowKit
set_option linter.unusedVariables false
set_option linter.unusedSimpArgs false
theorem inNum_le {n : Int} (h : inNum n = true) : 0 ≤ n ∧ n ≤ 1099511627775 := by simpa [inNum] using h
theorem not_false {b : Bool} (h : (!b) = false) : b = true := by cases b <;> simp_all
theorem vote_odd (h r s : Int) (has : Bool) (bl f : Int) (hf : voteFar h r s f = false) : voteOdd s has bl f = !mayVoteP s has bl f := by
 simp only [voteFar, Bool.or_eq_false_iff] at hf
 have hs := inNum_le (not_false hf.1.2)
 unfold voteOdd mayVoteP
 cases has <;> by_cases h1 : 2 < s <;> by_cases h2 : f < 1 <;> by_cases h3 : bl = 0 <;> by_cases h4 : s = 0 <;> simp_all <;> omega
set_option maxHeartbeats 800000 in
theorem rputNumber_any (n : Int) (w : World) (bn : -9223372036854775808 ≤ n ∧ n ≤ 9223372036854775807) :
  Calls Tryz.prog 10 #[(.int .i64 n)] w fun e w' => e = .returned (.tuple #[.string ⟨(outB (numZ n) (!inNum n) false).toArray⟩, .int .i64 (outE (!inNum n) false)]) ∧ Below w.heap.size w w' := by
 have R0 : RefAt (w.alloc (.cells #[.string ⟨#[]⟩, .bool false, .bool false] 86)) (w.heap.size) [] false false := by
  have h := Blk.new w #[.string ⟨#[]⟩, .bool false, .bool false] 86
  skip
  exact h
 have bA : Below w.heap.size w (w.alloc (.cells #[.string ⟨#[]⟩, .bool false, .bool false] 86)) := (Below.refl _ _).alloc (Nat.le_refl _) _
 go_enter Tryz.func10, Tryz.ntmps10
 go_wp2_with fail
 refine (rnum_any w.heap.size w.heap.size n [] false false _ (Nat.le_refl _) bn (by simp) R0).mono ?_
 rintro e w1 ⟨rfl, R1, k1⟩
 simp only [List.nil_append, Bool.false_or] at R1
 have b1 := bA.trans k1.below
 go_wp2_with fail
 refine (rout_any (w.heap.size) _ _ _ _ R1).mono ?_
 rintro e w2 ⟨rfl, b2⟩
 go_wp2
 go_ret2
 exact ⟨rfl, b1.trans (b2.mono b1.size)⟩
set_option maxHeartbeats 800000 in
theorem rputVote_any (h : Int) (r : Int) (s : Int) (has : Bool) (bl : Int) (f : Int) (w : World) (bh : -9223372036854775808 ≤ h ∧ h ≤ 9223372036854775807) (br : -9223372036854775808 ≤ r ∧ r ≤ 9223372036854775807) (bs : -9223372036854775808 ≤ s ∧ s ≤ 9223372036854775807) (bbl : 0 ≤ bl ∧ bl ≤ 18446744073709551615) (bf : -9223372036854775808 ≤ f ∧ f ≤ 9223372036854775807) :
  Calls Tryz.prog 14 #[(.agg #[.int .i64 h, .int .i64 r, .int .i64 s, .bool has, .int .u64 bl, .int .i64 f])] w fun e w' => e = .returned (.tuple #[.string ⟨(outB (voteZ h r s has bl f) (voteFar h r s f) (voteOdd s has bl f)).toArray⟩, .int .i64 (outE (voteFar h r s f) (voteOdd s has bl f))]) ∧ Below w.heap.size w w' := by
 have R0 : RefAt ((w.alloc (.cells #[.int .i64 h, .int .i64 r, .int .i64 s, .bool has, .int .u64 bl, .int .i64 f] 36)).alloc (.cells #[.string ⟨#[]⟩, .bool false, .bool false] 86)) (w.heap.size + 1) [] false false := by
  have h := Blk.new (w.alloc (.cells #[.int .i64 h, .int .i64 r, .int .i64 s, .bool has, .int .u64 bl, .int .i64 f] 36)) #[.string ⟨#[]⟩, .bool false, .bool false] 86
  rw [World.size_alloc] at h
  exact h
 have bA : Below w.heap.size w ((w.alloc (.cells #[.int .i64 h, .int .i64 r, .int .i64 s, .bool has, .int .u64 bl, .int .i64 f] 36)).alloc (.cells #[.string ⟨#[]⟩, .bool false, .bool false] 86)) := ((Below.refl _ _).alloc (Nat.le_refl _) _).alloc (by simp) _
 go_enter Tryz.func14, Tryz.ntmps14
 go_wp2_with fail
 refine (rvote_any w.heap.size (w.heap.size + 1) h r s has bl f [] false false _ (by omega) bh br bs bbl bf (by simp) R0).mono ?_
 rintro e w1 ⟨rfl, R1, k1⟩
 simp only [List.nil_append, Bool.false_or] at R1
 have b1 := bA.trans k1.below
 go_wp2_with fail
 refine (rout_any (w.heap.size + 1) _ _ _ _ R1).mono ?_
 rintro e w2 ⟨rfl, b2⟩
 go_wp2
 go_ret2
 exact ⟨rfl, b1.trans (b2.mono b1.size)⟩
set_option maxHeartbeats 800000 in
theorem rputParcel_any (k : Int) (t : Int) (a : Int) (w : World) (bk : -9223372036854775808 ≤ k ∧ k ≤ 9223372036854775807) (bt : -9223372036854775808 ≤ t ∧ t ≤ 9223372036854775807) (ba : -9223372036854775808 ≤ a ∧ a ≤ 9223372036854775807) :
  Calls Tryz.prog 108 #[(.agg #[.int .i64 k, .int .i64 t, .int .i64 a])] w fun e w' => e = .returned (.tuple #[.string ⟨(outB (parcelZ k t a) (parcelFar k t a) (parcelOdd k t)).toArray⟩, .int .i64 (outE (parcelFar k t a) (parcelOdd k t))]) ∧ Below w.heap.size w w' := by
 have R0 : RefAt ((w.alloc (.cells #[.int .i64 k, .int .i64 t, .int .i64 a] 168)).alloc (.cells #[.string ⟨#[]⟩, .bool false, .bool false] 86)) (w.heap.size + 1) [] false false := by
  have h := Blk.new (w.alloc (.cells #[.int .i64 k, .int .i64 t, .int .i64 a] 168)) #[.string ⟨#[]⟩, .bool false, .bool false] 86
  rw [World.size_alloc] at h
  exact h
 have bA : Below w.heap.size w ((w.alloc (.cells #[.int .i64 k, .int .i64 t, .int .i64 a] 168)).alloc (.cells #[.string ⟨#[]⟩, .bool false, .bool false] 86)) := ((Below.refl _ _).alloc (Nat.le_refl _) _).alloc (by simp) _
 go_enter Tryz.func108, Tryz.ntmps108
 go_wp2_with fail
 refine (rparcel_any w.heap.size (w.heap.size + 1) k t a [] false false _ (by omega) bk bt ba (by simp) R0).mono ?_
 rintro e w1 ⟨rfl, R1, k1⟩
 simp only [List.nil_append, Bool.false_or] at R1
 have b1 := bA.trans k1.below
 go_wp2_with fail
 refine (rout_any (w.heap.size + 1) _ _ _ _ R1).mono ?_
 rintro e w2 ⟨rfl, b2⟩
 go_wp2
 go_ret2
 exact ⟨rfl, b1.trans (b2.mono b1.size)⟩
set_option maxHeartbeats 800000 in
theorem rputAccount_any (ba : Int) (fo : Int) (no : Int) (bo : Int) (le : Int) (fr : Int) (ja : Bool) (w : World) (bba : -9223372036854775808 ≤ ba ∧ ba ≤ 9223372036854775807) (bfo : -9223372036854775808 ≤ fo ∧ fo ≤ 9223372036854775807) (bno : -9223372036854775808 ≤ no ∧ no ≤ 9223372036854775807) (bbo : -9223372036854775808 ≤ bo ∧ bo ≤ 9223372036854775807) (ble : -9223372036854775808 ≤ le ∧ le ≤ 9223372036854775807) (bfr : -9223372036854775808 ≤ fr ∧ fr ≤ 9223372036854775807) :
  Calls Tryz.prog 104 #[(.agg #[.int .i64 ba, .int .i64 fo, .int .i64 no, .int .i64 bo, .int .i64 le, .int .i64 fr, .bool ja])] w fun e w' => e = .returned (.tuple #[.string ⟨(outB (accountZ ba fo no bo le fr ja) (accountFar ba fo no bo le fr) false).toArray⟩, .int .i64 (outE (accountFar ba fo no bo le fr) false)]) ∧ Below w.heap.size w w' := by
 have R0 : RefAt ((w.alloc (.cells #[.int .i64 ba, .int .i64 fo, .int .i64 no, .int .i64 bo, .int .i64 le, .int .i64 fr, .bool ja] 163)).alloc (.cells #[.string ⟨#[]⟩, .bool false, .bool false] 86)) (w.heap.size + 1) [] false false := by
  have h := Blk.new (w.alloc (.cells #[.int .i64 ba, .int .i64 fo, .int .i64 no, .int .i64 bo, .int .i64 le, .int .i64 fr, .bool ja] 163)) #[.string ⟨#[]⟩, .bool false, .bool false] 86
  rw [World.size_alloc] at h
  exact h
 have bA : Below w.heap.size w ((w.alloc (.cells #[.int .i64 ba, .int .i64 fo, .int .i64 no, .int .i64 bo, .int .i64 le, .int .i64 fr, .bool ja] 163)).alloc (.cells #[.string ⟨#[]⟩, .bool false, .bool false] 86)) := ((Below.refl _ _).alloc (Nat.le_refl _) _).alloc (by simp) _
 go_enter Tryz.func104, Tryz.ntmps104
 go_wp2_with fail
 refine (raccount_any w.heap.size (w.heap.size + 1) ba fo no bo le fr ja [] false false _ (by omega) bba bfo bno bbo ble bfr (by simp) R0).mono ?_
 rintro e w1 ⟨rfl, R1, k1⟩
 simp only [List.nil_append, Bool.false_or] at R1
 have b1 := bA.trans k1.below
 go_wp2_with fail
 refine (rout_any (w.heap.size + 1) _ _ _ _ R1).mono ?_
 rintro e w2 ⟨rfl, b2⟩
 go_wp2
 go_ret2
 exact ⟨rfl, b1.trans (b2.mono b1.size)⟩
set_option maxHeartbeats 1600000 in
theorem rputGuilt_any (h : Int) (r : Int) (s : Int) (has : Bool) (bl : Int) (f : Int) (h2 : Int) (r2 : Int) (s2 : Int) (has2 : Bool) (bl2 : Int) (f2 : Int) (w : World) (bh : -9223372036854775808 ≤ h ∧ h ≤ 9223372036854775807) (br : -9223372036854775808 ≤ r ∧ r ≤ 9223372036854775807) (bs : -9223372036854775808 ≤ s ∧ s ≤ 9223372036854775807) (bbl : 0 ≤ bl ∧ bl ≤ 18446744073709551615) (bf : -9223372036854775808 ≤ f ∧ f ≤ 9223372036854775807) (bh2 : -9223372036854775808 ≤ h2 ∧ h2 ≤ 9223372036854775807) (br2 : -9223372036854775808 ≤ r2 ∧ r2 ≤ 9223372036854775807) (bs2 : -9223372036854775808 ≤ s2 ∧ s2 ≤ 9223372036854775807) (bbl2 : 0 ≤ bl2 ∧ bl2 ≤ 18446744073709551615) (bf2 : -9223372036854775808 ≤ f2 ∧ f2 ≤ 9223372036854775807) :
  Calls Tryz.prog 38 #[(.agg #[.int .i64 h, .int .i64 r, .int .i64 s, .bool has, .int .u64 bl, .int .i64 f, .int .i64 h2, .int .i64 r2, .int .i64 s2, .bool has2, .int .u64 bl2, .int .i64 f2])] w fun e w' => e = .returned (.tuple #[.string ⟨(outB (voteZ h r s has bl f ++ voteZ h2 r2 s2 has2 bl2 f2) (voteFar h r s f || voteFar h2 r2 s2 f2) (voteOdd s has bl f || voteOdd s2 has2 bl2 f2)).toArray⟩, .int .i64 (outE (voteFar h r s f || voteFar h2 r2 s2 f2) (voteOdd s has bl f || voteOdd s2 has2 bl2 f2))]) ∧ Below w.heap.size w w' := by
 have kG := (Blk.new w #[.int .i64 h, .int .i64 r, .int .i64 s, .bool has, .int .u64 bl, .int .i64 f, .int .i64 h2, .int .i64 r2, .int .i64 s2, .bool has2, .int .u64 bl2, .int .i64 f2] 69).alloc (.cells #[.string ⟨#[]⟩, .bool false, .bool false] 86)
 have R0 : RefAt ((w.alloc (.cells #[.int .i64 h, .int .i64 r, .int .i64 s, .bool has, .int .u64 bl, .int .i64 f, .int .i64 h2, .int .i64 r2, .int .i64 s2, .bool has2, .int .u64 bl2, .int .i64 f2] 69)).alloc (.cells #[.string ⟨#[]⟩, .bool false, .bool false] 86)) (w.heap.size + 1) [] false false := by
  have h := Blk.new (w.alloc (.cells #[.int .i64 h, .int .i64 r, .int .i64 s, .bool has, .int .u64 bl, .int .i64 f, .int .i64 h2, .int .i64 r2, .int .i64 s2, .bool has2, .int .u64 bl2, .int .i64 f2] 69)) #[.string ⟨#[]⟩, .bool false, .bool false] 86
  rw [World.size_alloc] at h
  exact h
 have bA : Below w.heap.size w ((w.alloc (.cells #[.int .i64 h, .int .i64 r, .int .i64 s, .bool has, .int .u64 bl, .int .i64 f, .int .i64 h2, .int .i64 r2, .int .i64 s2, .bool has2, .int .u64 bl2, .int .i64 f2] 69)).alloc (.cells #[.string ⟨#[]⟩, .bool false, .bool false] 86)) := ((Below.refl _ _).alloc (Nat.le_refl _) _).alloc (by simp) _
 have hl1 : (voteZ h r s has bl f).length ≤ 100 := by
  have l1 := numZ_len h
  have l2 := numZ_len r
  have l3 := numZ_len s
  have l4 := numZ_len f
  have l5 := be_len bl 8
  have l6 : (flagB has).length = 1 := rfl
  unfold voteZ
  simp only [List.length_append]
  omega
 go_enter Tryz.func38, Tryz.ntmps38
 go_wp2_with fail
 refine (rvote_any w.heap.size (w.heap.size + 1) h r s has bl f [] false false _ (by omega) bh br bs bbl bf (by simp) R0).mono ?_
 rintro e w1 ⟨rfl, R1, k1⟩
 simp only [List.nil_append, Bool.false_or] at R1
 have b1 := bA.trans k1.below
 have kG1 := kG.kp k1 (by omega)
 have q6 := kG1.cell 6
 have q7 := kG1.cell 7
 have q8 := kG1.cell 8
 have q9 := kG1.cell 9
 have q10 := kG1.cell 10
 have q11 := kG1.cell 11
 simp only [List.getElem?_toArray, List.getElem?_cons_succ, List.getElem?_cons_zero] at q6 q7 q8 q9 q10 q11
 have hz := kG1.lt
 go_wp2_with fail
 refine (rvote_any w.heap.size (w.heap.size + 1) h2 r2 s2 has2 bl2 f2 _ _ _ _ (by omega) bh2 br2 bs2 bbl2 bf2 (by omega) R1).mono ?_
 rintro e w2 ⟨rfl, R2, k2⟩
 have b2 := b1.trans k2.below
 go_wp2_with fail
 refine (rout_any (w.heap.size + 1) _ _ _ _ R2).mono ?_
 rintro e w3 ⟨rfl, b3⟩
 go_wp2
 go_ret2
 exact ⟨rfl, b2.trans (b3.mono b2.size)⟩
theorem riseP_iff : ∀ (ps : List (Int × Int)) (least : Int), (∀ p ∈ ps, 0 ≤ p.1 ∧ p.1 ≤ 1099511627775) →
  (riseP least ps = true ↔ ∀ i, i < ps.length → (if i = 0 then least else (ps.getD (i - 1) (0, 0)).1 + 1) ≤ (ps.getD i (0, 0)).1)
 | [], least, _ => by simp [riseP]
 | p :: r, least, hr => by
  have hp := hr p List.mem_cons_self
  have hw : wrap64 (p.1 + 1) = p.1 + 1 := by unfold wrap64; omega
  have ih := riseP_iff r (p.1 + 1) (fun q hq => hr q (List.mem_cons_of_mem _ hq))
  have e : riseP least (p :: r) = if p.1 < least then false else riseP (wrap64 (p.1 + 1)) r := rfl
  rw [e, hw]
  constructor
  ·intro h
   split at h
   ·cases h
   ·rename_i hge
    have h2 := ih.1 h
    intro i hi
    match i with
    | 0 => simp; omega
    | 1 =>
     have := h2 0 (by simp at hi; omega)
     simpa using this
    | j + 2 =>
     have := h2 (j + 1) (by simp at hi; omega)
     simpa using this
  ·intro h
   have h0 := h 0 (by simp)
   simp at h0
   rw [if_neg (by omega)]
   refine ih.2 fun i hi => ?_
   match i with
   | 0 =>
    have := h 1 (by simp; omega)
    simpa using this
   | j + 1 =>
    have := h (j + 2) (by simp; omega)
    simpa using this
theorem weighP_iff (ps : List (Int × Int)) : weighP ps = true ↔ ∀ i, i < ps.length → 1 ≤ (ps.getD i (0, 0)).2 := by
 unfold weighP
 rw [List.all_eq_true]
 constructor
 ·intro h i hi
  have := h ps[i] (List.getElem_mem hi)
  simpa [List.getD, hi] using this
 ·intro h p hp
  obtain ⟨i, hi, rfl⟩ := List.getElem_of_mem hp
  have := h i hi
  simpa [List.getD, hi] using this
theorem benchOdd_iff (ps : List (Int × Int)) : benchOdd ps = true ↔ ∃ i, i < ps.length ∧ oddAt ps i = true := by
 unfold benchOdd oddTo
 rw [List.any_eq_true]
 constructor
 ·rintro ⟨i, hi, h⟩; exact ⟨i, by simpa using hi, h⟩
 ·rintro ⟨i, hi, h⟩; exact ⟨i, by simpa using hi, h⟩
theorem bench_odd (ps : List (Int × Int)) (hf : benchFar ps = false) : benchOdd ps = !mayBenchP ps := by
 have hr : ∀ p ∈ ps, 0 ≤ p.1 ∧ p.1 ≤ 1099511627775 := by
  intro p hp
  simp only [benchFar, Bool.or_eq_false_iff] at hf
  have h := hf.2
  unfold pairsFar at h
  rw [List.any_eq_false] at h
  have h1 := h p hp
  simp only [Bool.or_eq_true, not_or] at h1
  exact inNum_le (by simpa using h1.1)
 have h1 := riseP_iff ps 1 hr
 have h2 := weighP_iff ps
 have h3 := benchOdd_iff ps
 have hg : ∀ i, 0 ≤ (ps.getD i (0, 0)).1 := by
  intro i
  by_cases hi : i < ps.length
  ·have := (hr ps[i] (List.getElem_mem hi)).1
   simpa [List.getD, hi] using this
  ·simp [List.getD, Nat.le_of_not_lt hi]
 cases hm : mayBenchP ps
 ·show benchOdd ps = true
  rw [h3]
  apply Classical.byContradiction
  intro hn
  have hall : ∀ i, i < ps.length → oddAt ps i = false := fun i hi => by
   cases hc : oddAt ps i
   ·rfl
   ·exact absurd ⟨i, hi, hc⟩ hn
  have e1 : riseP 1 ps = true := h1.2 fun i hi => by
   have ho := hall i hi
   simp only [oddAt, Bool.or_eq_false_iff, Bool.and_eq_false_iff, decide_eq_false_iff_not] at ho
   split
   ·omega
   ·rename_i hi0
    rcases ho.2 with h | h
    ·omega
    ·omega
  have e2 : weighP ps = true := h2.2 fun i hi => by
   have ho := hall i hi
   simp only [oddAt, Bool.or_eq_false_iff, Bool.and_eq_false_iff, decide_eq_false_iff_not] at ho
   omega
  unfold mayBenchP at hm
  rw [e1, e2] at hm
  cases hm
 ·show benchOdd ps = false
  cases hc : benchOdd ps
  ·rfl
  ·exfalso
   obtain ⟨i, hi, ho⟩ := h3.1 hc
   simp only [mayBenchP, Bool.and_eq_true] at hm
   have q1 := h1.1 hm.1 i hi
   have q2 := h2.1 hm.2 i hi
   have q3 := hg (i - 1)
   simp only [oddAt, Bool.or_eq_true, Bool.and_eq_true, decide_eq_true_eq] at ho
   split at q1
   ·omega
   ·omega
theorem okL_each {α : Type} {atoms : α → List Atom} {xs : List α} (h : okL (eachL atoms xs) = true) : ∀ x ∈ xs, okL (atoms x) = true := by
 induction xs with
 | nil => intro x hx; simp at hx
 | cons y ys ih =>
  simp only [eachL, okL_append, Bool.and_eq_true] at h
  intro x hx
  rcases List.mem_cons.1 hx with rfl | hx
  ·exact h.1
  ·exact ih h.2 x hx
theorem okL_list {α : Type} {most : Int} {atoms : α → List Atom} {xs : List α} (h : okL (listL most atoms xs) = true) : (xs.length : Int) ≤ most ∧ ∀ x ∈ xs, okL (atoms x) = true := by
 simp only [listL, okL, Bool.and_eq_true, Atom.ok, decide_eq_true_eq] at h
 exact ⟨h.1.2, okL_each h.2⟩
theorem okL_int {n : Int} (h : okL (intA n) = true) : 0 ≤ n ∧ n ≤ 1099511627775 := by
 simpa [intA, okL, Atom.ok] using h
theorem any_all {α : Type} {o m : α → Bool} {xs : List α} (h : ∀ x ∈ xs, o x = !m x) : xs.any o = !xs.all m := by
 induction xs with
 | nil => rfl
 | cons y ys ih =>
  simp only [List.any_cons, List.all_cons]
  rw [h y (by simp), ih fun x hx => h x (by simp [hx])]
  cases m y <;> simp
theorem riseI_pairs (xs : List Int) : ∀ least, riseI least xs = riseP least (xs.map fun n => (n, 0)) := by
 induction xs with
 | nil => intro l; rfl
 | cons n r ih => intro l; simp only [riseI, List.map_cons, riseP, ih]
theorem getD_pairs (xs : List Int) (i : Nat) : ((xs.map fun n => (n, (0 : Int))).getD i (0, 0)).1 = xs.getD i 0 := by
 simp only [List.getD, List.getElem?_map]
 cases xs[i]? <;> rfl
theorem riseI_iff (xs : List Int) (least : Int) (h : ∀ n ∈ xs, 0 ≤ n ∧ n ≤ 1099511627775) :
  riseI least xs = true ↔ ∀ i, i < xs.length → (if i = 0 then least else xs.getD (i - 1) 0 + 1) ≤ xs.getD i 0 := by
 rw [riseI_pairs, riseP_iff _ _ (by
  intro p hp
  obtain ⟨n, hn, rfl⟩ := List.mem_map.1 hp
  exact h n hn)]
 simp only [List.length_map, getD_pairs]
theorem rise_same (xs : List Int) (h : ∀ n ∈ xs, 0 ≤ n ∧ n ≤ 1099511627775) : riseOdd xs xs.length = !riseI 1 xs := by
 have hi := riseI_iff xs 1 h
 have hg : ∀ i, 0 ≤ xs.getD i 0 := by
  intro i
  by_cases hl : i < xs.length
  ·simpa [List.getD, hl] using (h xs[i] (List.getElem_mem hl)).1
  ·simp [List.getD, Nat.le_of_not_lt hl]
 cases hm : riseI 1 xs
 ·show riseOdd xs xs.length = true
  apply Classical.byContradiction
  intro hn
  have hall : ∀ i, i < xs.length → stepOdd xs i = false := fun i hl => by
   cases hc : stepOdd xs i
   ·rfl
   ·exact absurd (List.any_eq_true.2 ⟨i, List.mem_range.2 hl, hc⟩) hn
  have e1 : riseI 1 xs = true := hi.2 fun i hl => by
   have ho := hall i hl
   simp only [stepOdd, Bool.or_eq_false_iff, Bool.and_eq_false_iff, decide_eq_false_iff_not] at ho
   split
   ·omega
   ·rcases ho.2 with h | h <;> omega
  rw [e1] at hm
  cases hm
 ·show riseOdd xs xs.length = false
  cases hc : riseOdd xs xs.length
  ·rfl
  ·exfalso
   obtain ⟨i, hl, ho⟩ := List.any_eq_true.1 hc
   have q1 := hi.1 hm i (List.mem_range.1 hl)
   have q3 := hg (i - 1)
   simp only [stepOdd, Bool.or_eq_true, Bool.and_eq_true, decide_eq_true_eq] at ho
   split at q1 <;> omega
theorem backs_same (xs : List Turn) (h : ∀ n ∈ xs, 0 ≤ n.p ∧ n.p ≤ 1099511627775) : backsOdd xs xs.length = !riseI 0 (xs.map Turn.p) := by
 have hp : ∀ n ∈ xs.map Turn.p, 0 ≤ n ∧ n ≤ 1099511627775 := by
  intro n hn
  obtain ⟨y, hy, rfl⟩ := List.mem_map.1 hn
  exact h y hy
 have hi := riseI_iff (xs.map Turn.p) 0 hp
 rw [List.length_map] at hi
 have hg : ∀ i, 0 ≤ (xs.map Turn.p).getD i 0 := by
  intro i
  by_cases hl : i < (xs.map Turn.p).length
  ·have h1 := (hp ((xs.map Turn.p)[i]'hl) (List.getElem_mem hl)).1
   have h2 : (xs.map Turn.p).getD i 0 = (xs.map Turn.p)[i]'hl := by simp only [List.getD, List.getElem?_eq_getElem hl, Option.getD_some]
   rw [h2]; exact h1
  ·simp [List.getD, Nat.le_of_not_lt (by simpa using hl)]
 cases hm : riseI 0 (xs.map Turn.p)
 ·show backsOdd xs xs.length = true
  apply Classical.byContradiction
  intro hn
  have hall : ∀ i, i < xs.length → backOdd xs i = false := fun i hl => by
   cases hc : backOdd xs i
   ·rfl
   ·exact absurd (List.any_eq_true.2 ⟨i, List.mem_range.2 hl, hc⟩) hn
  have e1 : riseI 0 (xs.map Turn.p) = true := hi.2 fun i hl => by
   have ho := hall i hl
   simp only [backOdd, Bool.and_eq_false_iff, decide_eq_false_iff_not] at ho
   have := hg i
   split
   ·omega
   ·rcases ho with h | h <;> omega
  rw [e1] at hm
  cases hm
 ·show backsOdd xs xs.length = false
  cases hc : backsOdd xs xs.length
  ·rfl
  ·exfalso
   obtain ⟨i, hl, ho⟩ := List.any_eq_true.1 hc
   have q1 := hi.1 hm i (List.mem_range.1 hl)
   simp only [backOdd, Bool.and_eq_true, decide_eq_true_eq] at ho
   split at q1 <;> omega
theorem Cert.odd_may (x : Cert) (h : okL x.atoms = true) : x.odd = !x.may := by
 simp only [Cert.atoms, okL_append, Bool.and_eq_true] at h
 have hl := okL_list h.2
 unfold Cert.odd Cert.may
 rw [rise_same x.fr.xs fun n hn => okL_int (hl.2 n hn)]
 cases (decide (x.s ≠ 1) && decide (x.s ≠ 2)) <;> cases (!x.has && decide (x.bl ≠ 0)) <;> simp
theorem Proof.odd_may (x : Proof) (h : okL x.atoms = true) : x.odd = !x.may := by
 simp only [Proof.atoms, okL_append, Bool.and_eq_true] at h
 have hl := okL_list h.1.1.1
 have hp : ∀ y ∈ x.tu.xs, 0 ≤ y.p ∧ y.p ≤ 1099511627775 := fun y hy => by
  have h1 := hl.2 y hy
  simp only [Turn.atoms, okL_append, okL, Atom.ok, Bool.and_eq_true, decide_eq_true_eq] at h1
  omega
 unfold Proof.odd Proof.may
 rw [backs_same x.tu.xs hp]
 cases hv : x.leaf
 ·by_cases h0 : x.tu.xs.length = 0
  ·have e : x.tu.xs = [] := List.eq_nil_of_length_eq_zero h0
   rw [e]
   by_cases h1 : x.key = [] <;> by_cases h2 : x.val = [] <;> simp [h1, h2, riseI]
  ·have h0' : 0 < x.tu.xs.length := by omega
   simp only [h0, h0', decide_true, decide_false]
   simp
 ·by_cases h2 : x.val = [] <;> simp [h2]
theorem Sight.odd_may (x : Sight) (h : okL x.atoms = true) : x.odd = !x.may := by
 simp only [Sight.atoms, okL_append, Bool.and_eq_true] at h
 have hb : benchFar x.se.xs = false := by
  obtain ⟨_, p2, _⟩ := pairsZ_each x.se.xs
  have e2 : (!okL (benchL x.se.xs)) = benchFar x.se.xs := by
   simp only [benchL, listL, okL, Bool.not_and, p2, benchFar, far_num 7 _ (show (7 : Int) ≤ 1099511627775 by omega)]
  rw [← e2, h.2]; rfl
 unfold Sight.odd Sight.may
 rw [x.ce.odd_may h.1.2, bench_odd x.se.xs hb]
 simp
theorem Tx.odd_may (x : Tx) (h : okL x.atoms = true) : x.odd = !x.may := by
 simp only [Tx.atoms, okL_append, Bool.and_eq_true] at h
 have hs := okL_list h.1.2
 have hp := okL_list h.2
 have hn : 0 ≤ x.to := by
  have h1 := h.1.1.1.1
  simp only [nums, List.map, okL, Atom.ok, Bool.and_eq_true, decide_eq_true_eq] at h1
  omega
 have e1 : x.si.xs.any Sight.odd = !x.si.xs.all Sight.may := any_all fun y hy => y.odd_may (hs.2 y hy)
 have e2 : x.pr.xs.any Proof.odd = !x.pr.xs.all Proof.may := any_all fun y hy => y.odd_may (hp.2 y hy)
 have e3 : ((isTo x.k && decide (x.to < 1)) || (!isTo x.k && decide (x.to ≠ 0))) = (isTo x.k != decide (1 ≤ x.to)) := by
  by_cases h1 : 1 ≤ x.to
  ·have h2 : ¬ x.to < 1 := by omega
   have h3 : ¬ x.to = 0 := by omega
   cases isTo x.k <;> simp [h1, h2, h3]
  ·have h2 : x.to = 0 := by omega
   rw [h2]
   cases isTo x.k <;> simp
 have e4 : (decide (x.k ≠ 2) && decide (x.k ≠ 3) && decide (x.te ≠ [])) = (!isTx x.k && decide (x.te ≠ [])) := by
  unfold isTx
  by_cases h2 : x.k = 2 <;> by_cases h3 : x.k = 3 <;> simp [h2, h3]
 have e5 : (decide (x.k ≠ 3) && decide (0 < x.ar.xs.length)) = (!decide (x.k = 3) && decide (0 < x.ar.xs.length)) := by
  by_cases h3 : x.k = 3 <;> simp [h3]
 have e6 : (decide (x.k = 9) != decide (x.si.xs.length = 1)) = decide (nSi x.k ≠ (x.si.xs.length : Int)) := by
  have h1 := hs.1
  unfold nSi
  by_cases h2 : x.k = 9 <;> by_cases h3 : x.si.xs.length = 1
  ·simp [h2, h3]
  ·have : x.si.xs.length = 0 := by omega
   simp [h2, this]
  ·simp [h2, h3]
  ·have : x.si.xs.length = 0 := by omega
   simp [h2, this]
 have e7 : (decide (x.k = 10) != decide (x.pr.xs.length = 1)) = decide (nPr x.k ≠ (x.pr.xs.length : Int)) := by
  have h1 := hp.1
  unfold nPr
  by_cases h2 : x.k = 10 <;> by_cases h3 : x.pr.xs.length = 1
  ·simp [h2, h3]
  ·have : x.pr.xs.length = 0 := by omega
   simp [h2, this]
  ·simp [h2, h3]
  ·have : x.pr.xs.length = 0 := by omega
   simp [h2, this]
 unfold Tx.odd Tx.may Tx.bad1 Tx.bad2 Tx.bad3 Tx.bad4
 rw [e1, e2, e3, e4, e5, e6, e7]
 generalize x.si.xs.all Sight.may = b1
 generalize x.pr.xs.all Proof.may = b2
 generalize (decide (x.k < 1) || decide (10 < x.k) || decide (x.f < 1)) = b3
 generalize (isTo x.k != decide (1 ≤ x.to)) = b4
 generalize (!isAm x.k && decide (x.am ≠ 0)) = b5
 generalize (!isTx x.k && decide (x.te ≠ [])) = b6
 generalize (!decide (x.k = 3) && decide (0 < x.ar.xs.length)) = b7
 generalize decide (nSi x.k ≠ (x.si.xs.length : Int)) = b8
 generalize decide (nPr x.k ≠ (x.pr.xs.length : Int)) = b9
 revert b1 b2 b3 b4 b5 b6 b7 b8 b9
 decide
theorem anyHeader_any (x : Header) (w : World) : Calls Tryz.prog 68 #[.agg #[.int .i64 x.c, .int .i64 x.h, .int .u64 x.pa, .int .u64 x.tx, .int .u64 x.gu, .int .u64 x.st, .int .u64 x.re, .int .u64 x.be, .int .i64 x.pr]] w fun e w' => e = .returned (.bool true) ∧ Below w.heap.size w w' := by
 go_enter Tryz.func68, Tryz.ntmps68
 go_wp2
 go_ret
 exact ⟨rfl, by first | exact Below.refl _ _ | exact (Below.refl _ _).alloc (Nat.le_refl _) _⟩
set_option maxHeartbeats 1600000 in
theorem rputHeader_anyX (x : Header) (w : World) (hL : wtL x.atoms ≤ 1099400000000) (g : goods w.heap.size w x.flds) :
  Calls Tryz.prog 26 #[(.agg #[.int .i64 x.c, .int .i64 x.h, .int .u64 x.pa, .int .u64 x.tx, .int .u64 x.gu, .int .u64 x.st, .int .u64 x.re, .int .u64 x.be, .int .i64 x.pr])] w fun e w' => e = .returned (.tuple #[.string ⟨(outB (encZL x.atoms) (!okL x.atoms) false).toArray⟩, .int .i64 (outE (!okL x.atoms) false)]) ∧ Below w.heap.size w w' := by
 have R0 : RefL ((w.alloc (.cells #[.int .i64 x.c, .int .i64 x.h, .int .u64 x.pa, .int .u64 x.tx, .int .u64 x.gu, .int .u64 x.st, .int .u64 x.re, .int .u64 x.be, .int .i64 x.pr] 51)).alloc (.cells #[.string ⟨#[]⟩, .bool false, .bool false] 86)) (w.heap.size + 1) [] false := by
  have h := Blk.new (w.alloc (.cells #[.int .i64 x.c, .int .i64 x.h, .int .u64 x.pa, .int .u64 x.tx, .int .u64 x.gu, .int .u64 x.st, .int .u64 x.re, .int .u64 x.be, .int .i64 x.pr] 51)) #[.string ⟨#[]⟩, .bool false, .bool false] 86
  rw [World.size_alloc] at h
  exact h
 have bA : Below w.heap.size w ((w.alloc (.cells #[.int .i64 x.c, .int .i64 x.h, .int .u64 x.pa, .int .u64 x.tx, .int .u64 x.gu, .int .u64 x.st, .int .u64 x.re, .int .u64 x.be, .int .i64 x.pr] 51)).alloc (.cells #[.string ⟨#[]⟩, .bool false, .bool false] 86)) := ((Below.refl _ _).alloc (Nat.le_refl _) _).alloc (by simp) _
 have g1 := g.below bA
 clear g
 go_enter Tryz.func26, Tryz.ntmps26
 go_wp2_with fail
 refine (rheader_anyX w.heap.size (w.heap.size + 1) x [] false _ (by omega) (by simp only [wtL]; omega) R0 g1).mono ?_
 rintro e w1 ⟨rfl, R1, k1⟩
 have R2 : RefAt w1 (w.heap.size + 1) (encZL x.atoms) (!okL x.atoms) false := by
  have h := R1
  unfold RefL at h
  simpa using h
 have b1 := bA.trans k1.below
 clear R0 R1 g1
 go_wp2_with fail
 refine (rout_any (w.heap.size + 1) _ _ _ _ R2).mono ?_
 rintro e w2 ⟨rfl, b2⟩
 go_wp2
 go_ret2
 exact ⟨rfl, b1.trans (b2.mono b1.size)⟩
set_option maxHeartbeats 1600000 in
theorem rputCert_anyX (x : Cert) (w : World) (hL : wtL x.atoms ≤ 1099400000000) (g : goods w.heap.size w x.flds) :
  Calls Tryz.prog 18 #[(.agg #[.int .i64 x.h, .int .i64 x.r, .int .i64 x.s, .bool x.has, .int .u64 x.bl, .slice x.fr.la x.fr.xs.length x.fr.lc])] w fun e w' => e = .returned (.tuple #[.string ⟨(outB (encZL x.atoms) (!okL x.atoms) x.odd).toArray⟩, .int .i64 (outE (!okL x.atoms) x.odd)]) ∧ Below w.heap.size w w' := by
 have R0 : RefL ((w.alloc (.cells #[.int .i64 x.h, .int .i64 x.r, .int .i64 x.s, .bool x.has, .int .u64 x.bl, .slice x.fr.la x.fr.xs.length x.fr.lc] 42)).alloc (.cells #[.string ⟨#[]⟩, .bool false, .bool false] 86)) (w.heap.size + 1) [] false := by
  have h := Blk.new (w.alloc (.cells #[.int .i64 x.h, .int .i64 x.r, .int .i64 x.s, .bool x.has, .int .u64 x.bl, .slice x.fr.la x.fr.xs.length x.fr.lc] 42)) #[.string ⟨#[]⟩, .bool false, .bool false] 86
  rw [World.size_alloc] at h
  exact h
 have bA : Below w.heap.size w ((w.alloc (.cells #[.int .i64 x.h, .int .i64 x.r, .int .i64 x.s, .bool x.has, .int .u64 x.bl, .slice x.fr.la x.fr.xs.length x.fr.lc] 42)).alloc (.cells #[.string ⟨#[]⟩, .bool false, .bool false] 86)) := ((Below.refl _ _).alloc (Nat.le_refl _) _).alloc (by simp) _
 have g1 := g.below bA
 clear g
 go_enter Tryz.func18, Tryz.ntmps18
 go_wp2_with fail
 refine (rcert_anyX w.heap.size (w.heap.size + 1) x [] false _ (by omega) (by simp only [wtL]; omega) R0 g1).mono ?_
 rintro e w1 ⟨rfl, R1, k1⟩
 have R2 : RefAt w1 (w.heap.size + 1) (encZL x.atoms) (!okL x.atoms) x.odd := by
  have h := R1
  unfold RefL at h
  simpa using h
 have b1 := bA.trans k1.below
 clear R0 R1 g1
 go_wp2_with fail
 refine (rout_any (w.heap.size + 1) _ _ _ _ R2).mono ?_
 rintro e w2 ⟨rfl, b2⟩
 go_wp2
 go_ret2
 exact ⟨rfl, b1.trans (b2.mono b1.size)⟩
set_option maxHeartbeats 1600000 in
theorem rputProof_anyX (x : Proof) (w : World) (hL : wtL x.atoms ≤ 1099400000000) (g : goods w.heap.size w x.flds) :
  Calls Tryz.prog 30 #[(.agg #[.slice x.tu.la x.tu.xs.length x.tu.lc, .bool x.leaf, .string ⟨x.key.toArray⟩, .string ⟨x.val.toArray⟩])] w fun e w' => e = .returned (.tuple #[.string ⟨(outB (encZL x.atoms) (!okL x.atoms) x.odd).toArray⟩, .int .i64 (outE (!okL x.atoms) x.odd)]) ∧ Below w.heap.size w w' := by
 have R0 : RefL ((w.alloc (.cells #[.slice x.tu.la x.tu.xs.length x.tu.lc, .bool x.leaf, .string ⟨x.key.toArray⟩, .string ⟨x.val.toArray⟩] 57)).alloc (.cells #[.string ⟨#[]⟩, .bool false, .bool false] 86)) (w.heap.size + 1) [] false := by
  have h := Blk.new (w.alloc (.cells #[.slice x.tu.la x.tu.xs.length x.tu.lc, .bool x.leaf, .string ⟨x.key.toArray⟩, .string ⟨x.val.toArray⟩] 57)) #[.string ⟨#[]⟩, .bool false, .bool false] 86
  rw [World.size_alloc] at h
  exact h
 have bA : Below w.heap.size w ((w.alloc (.cells #[.slice x.tu.la x.tu.xs.length x.tu.lc, .bool x.leaf, .string ⟨x.key.toArray⟩, .string ⟨x.val.toArray⟩] 57)).alloc (.cells #[.string ⟨#[]⟩, .bool false, .bool false] 86)) := ((Below.refl _ _).alloc (Nat.le_refl _) _).alloc (by simp) _
 have g1 := g.below bA
 clear g
 go_enter Tryz.func30, Tryz.ntmps30
 go_wp2_with fail
 refine (rproof_anyX w.heap.size (w.heap.size + 1) x [] false _ (by omega) (by simp only [wtL]; omega) R0 g1).mono ?_
 rintro e w1 ⟨rfl, R1, k1⟩
 have R2 : RefAt w1 (w.heap.size + 1) (encZL x.atoms) (!okL x.atoms) x.odd := by
  have h := R1
  unfold RefL at h
  simpa using h
 have b1 := bA.trans k1.below
 clear R0 R1 g1
 go_wp2_with fail
 refine (rout_any (w.heap.size + 1) _ _ _ _ R2).mono ?_
 rintro e w2 ⟨rfl, b2⟩
 go_wp2
 go_ret2
 exact ⟨rfl, b1.trans (b2.mono b1.size)⟩
end Go.Proofs.YtackcbpabjhmpaaGreat
