/- BenchExact: the law. -/
import Derived.Test.YtigbfbniicfpdaaGreatHBest
import Derived.Test.YtigbfbniicfpdaaGreatVHas
import Derived.Test.YtigbfbniicfpdaaGreatBDig
import Derived.Test.YtigbfbniicfpdaaGreatBSame
import Derived.Deep.RegionHeld3
namespace Go.Proofs.YtigbfbniicfpdaaGreat
open Go.RowKit
set_option linter.unusedVariables false
set_option linter.unusedSimpArgs false

theorem rmore_any (la na : Option Addr) (ca cn : Nat) (l : List (Int × Int)) (named : List Int) (w : World) (hl : l.length ≤ 64) (hn : named.length ≤ maxLen) (hw : ∀ x ∈ l, 0 ≤ x.2 ∧ x.2 ≤ 1099511627775) (h1 : SeatsAt w la l) (h2 : IntsAt w na named) :
    Calls Tryz.prog 21 #[.slice la l.length ca, .slice na named.length cn] w fun e w' => e = .returned (.bool (decide (totP l < 3 * wtP l named))) ∧ Below w.heap.size w w' := by
  obtain ⟨p1, p2⟩ := totP_bound hw
  obtain ⟨p4, p5⟩ := wtP_bound named hw
  have p3 : totP l ≤ 1099511627775 * 64 := by omega
  go_enter Tryz.func21, Tryz.ntmps21
  go_wp2_with fail
  refine (rweight_any la na ca cn l named w hl hn hw h1 h2).mono ?_
  rintro e w1 ⟨rfl, b1⟩
  go_wp2_with fail
  refine (rtotal_any la ca l w1 hl hw (h1.below b1)).mono ?_
  rintro e w2 ⟨rfl, b2⟩
  go_wp2
  go_ret
  exact ⟨rfl, b1.trans (b2.mono b1.size)⟩

theorem outB_len (B : List UInt8) (f o : Bool) : (W.outB B f o).length ≤ B.length := by
  unfold W.outB
  split
  · simp
  · split
    · simp
    · exact Nat.le_refl _
def bS (l : List (Int × Int)) : ByteArray := ⟨(W.outB (W.benchZ l) (W.benchFar l) (W.benchOdd l)).toArray⟩
def bE (l : List (Int × Int)) : Int := W.outE (W.benchFar l) (W.benchOdd l)
theorem bS_len (l : List (Int × Int)) (h : l.length ≤ 4096) : (bS l).size ≤ maxLen := by
  have h1 := outB_len (W.benchZ l) (W.benchFar l) (W.benchOdd l)
  have h2 := W.pairsZ_len l
  have h3 := W.numZ_len (l.length : Int)
  show (W.outB (W.benchZ l) (W.benchFar l) (W.benchOdd l)).toArray.size ≤ maxLen
  rw [List.size_toArray]
  unfold W.benchZ at h1
  rw [List.length_append] at h1
  unfold maxLen
  unfold W.benchZ
  omega

theorem own_cap {w : World} {base : Nat} {sv : Value} {m : List (Int × Int)} (h : w.ownsRow base 39 2 sv m.length (flatS m)) {la : Option Addr} {cap : Nat} (e : sv = .slice la m.length cap) : m.length ≤ cap ∧ cap ≤ maxLen := by
  rcases h.2 with ⟨e1, h0⟩ | ⟨g, cg, cur, e1, _, _, hc, hcm, _⟩
  · rw [e] at e1
    simp only [Value.slice.injEq] at e1
    unfold maxLen
    omega
  · rw [e] at e1
    simp only [Value.slice.injEq] at e1
    rw [e1.2.2]
    exact ⟨hc, hcm⟩

set_option maxRecDepth 8000 in
set_option maxHeartbeats 3200000 in
theorem bench_any (wd who : Int) (la na : Option Addr) (ca cn : Nat) (l : List (Int × Int)) (named : List Int) (w : World) (hwd : -9223372036854775808 ≤ wd ∧ wd ≤ 9223372036854775807) (hl : l.length ≤ maxLen) (hn : named.length ≤ maxLen) (hw : ∀ x ∈ l, InI x) (h1 : SeatsAt w la l) (hI : IntsAt w na named) :
    Calls Tryz.prog 3 #[.int .i64 wd, .slice la l.length ca, .slice na named.length cn, .int .i64 who] w fun e w' => e = .returned (.bool true) ∧ Below w.heap.size w w' := by
  have hll := hl
  have hnn := hn
  unfold maxLen at hl hn
  by_cases hg : 4096 < l.length
  · have g1' : (4096 : Int) < (l.length : Int) := by omega
    go_enter Tryz.func3, Tryz.ntmps3
    go_wp2
    go_ret
    exact ⟨rfl, Below.refl _ _⟩
  have g1' : ¬ (4096 : Int) < (l.length : Int) := by omega
  by_cases hg2 : 4096 < named.length
  · have g2' : (4096 : Int) < (named.length : Int) := by omega
    go_enter Tryz.func3, Tryz.ntmps3
    go_wp2
    go_ret
    exact ⟨rfl, Below.refl _ _⟩
  have g2' : ¬ (4096 : Int) < (named.length : Int) := by omega
  go_enter Tryz.func3, Tryz.ntmps3
  go_wp2_with fail
  refine (choose_any la ca l w (by omega) hw h1).mono ?_
  rintro e w1 ⟨v1, rfl, o1, b1⟩
  rw [kept_cho] at o1
  obtain ⟨aa, ac, rfl, sa⟩ := SeatsAt.of_owns o1
  clear o1
  go_wp2_with fail
  refine (rchoose_any la ca l w1 (by omega) (h1.below b1)).mono ?_
  rintro e w2 ⟨⟨v2, rfl, o2⟩, b2⟩
  obtain ⟨ba, bc, rfl, sb⟩ := SeatsAt.of_owns o2
  have hc7 : (choP l).length ≤ 7 := by
    have := (choGo_good 7 [] (leftN l l.length) (by simp [Rises]) (leftN_apart l _) (by simp) (by simp) (fun x hx => (leftN_mem l _ x hx).2)).2.2
    simpa [choP] using this
  clear o2
  go_wp2_with fail
  refine (sameSeats_any aa ba ac bc (choP l) (choP l) w2 (by omega) (by omega) (sa.below b2) sb).mono ?_
  rintro e w3 ⟨rfl, b3⟩
  rw [show decide (choP l = choP l) = true from decide_eq_true rfl]
  have B3 := (b1.trans (b2.mono b1.size)).trans (b3.mono (b1.trans (b2.mono b1.size)).size)
  clear b1 b2 b3 sa sb hc7
  have F1 : ∀ w', Below w.heap.size w w' → Calls Tryz.prog 7 #[.slice la l.length ca] w' fun e w'' => e = .returned (.bool (fitB l)) ∧ Below w'.heap.size w' w'' := fun w' hb => fits_any la ca l w' hll (h1.below hb)
  have F2 : ∀ w', Below w.heap.size w w' → Calls Tryz.prog 8 #[.slice la l.length ca] w' fun e w'' => e = .returned (.bool (fitB l)) ∧ Below w'.heap.size w' w'' := fun w' hb => rfits_any la ca l w' hll (h1.below hb)
  have F3 : ∀ w', Below w.heap.size w w' → Calls Tryz.prog 9 #[.slice la l.length ca, .int .i64 who] w' fun e w'' => e = .returned (.bool (hasP l who)) ∧ Below w'.heap.size w' w'' := fun w' hb => has_any la ca l who w' hll (h1.below hb)
  have F4 : ∀ w', Below w.heap.size w w' → Calls Tryz.prog 10 #[.slice la l.length ca, .int .i64 who] w' fun e w'' => e = .returned (.bool (hasP l who)) ∧ Below w'.heap.size w' w'' := fun w' hb => (rhas_any la ca l who w' hll (h1.below hb)).mono fun e w'' h => ⟨h.1, by rw [h.2]; exact Below.refl _ _⟩
  have SE : ∀ w', Below w.heap.size w w' → Calls Tryz.prog 11 #[.slice la l.length ca] w' fun e w'' => (∃ v x, e = .returned v ∧ GoodB x ∧ w''.ownsRow w'.heap.size 39 2 v x.length (flatS x)) ∧ Below w'.heap.size w' w'' := fun w' hb => seated_any la ca l w' hll hw (h1.below hb)
  have HI : ∀ w', Below w.heap.size w w' → IntsAt w' na named := fun w' hb => hI.below hb
  generalize fitB l = P at *
  generalize hasP l who = Z at *
  clear h1 hI hw
  go_wp2_with fail
  refine (F1 _ B3).mono ?_
  rintro e w4 ⟨rfl, b4⟩
  have B4 := B3.trans (b4.mono B3.size)
  clear b4 F1 B3
  go_wp2_with fail
  refine (F2 _ B4).mono ?_
  rintro e w5 ⟨rfl, b5⟩
  have B5 := B4.trans (b5.mono B4.size)
  clear b5 F2 B4
  go_wp2_with fail
  refine (F3 _ B5).mono ?_
  rintro e w6 ⟨rfl, b6⟩
  have B6 := B5.trans (b6.mono B5.size)
  clear b6 F3 B5
  go_wp2_with fail
  refine (F4 _ B6).mono ?_
  rintro e w7 ⟨rfl, b7⟩
  have B7 := B6.trans (b7.mono B6.size)
  clear b7 F4 B6
  go_wp2_with fail
  refine (SE _ B7).mono ?_
  rintro e w8 ⟨⟨v8, x, rfl, hgd, o8⟩, b8⟩
  obtain ⟨xa, xc, rfl, sx⟩ := SeatsAt.of_owns o8
  obtain ⟨q1, q2⟩ := own_cap o8 rfl
  have B8 := B7.trans (b8.mono B7.size)
  clear b8 SE B7 o8
  have hx7 := hgd.few
  have hin : ∀ y ∈ x, InI y := fun y hy => by have := hgd.may y hy; unfold MayS at this; unfold InI; omega
  have hpa : W.PairsAt w8 xa x := ⟨hin, sx⟩
  have SB : ∀ w', Below w8.heap.size w8 w' → SeatsAt w' xa x := fun w' hb => sx.below hb
  go_wp2_with fail
  refine (bdig_any wd xa x.length xc w8 (bS x) (bE x) hwd (bS_len x (by omega)) (W.wputBench_any xa xc x w8 (by omega) q1 q2 hpa)).mono ?_
  rintro e w9 ⟨rfl, b9⟩
  have B9 := B8.trans (b9.mono B8.size)
  go_wp2_with fail
  refine (rbdig_any wd xa x.length xc w9 (bS x) (bE x) hwd (bS_len x (by omega)) (W.rputBench_any xa xc x w9 (by omega) q1 q2 ⟨hin, SB _ b9⟩)).mono ?_
  rintro e w10 ⟨rfl, b10⟩
  have b10 := b9.trans (b10.mono b9.size)
  clear b9 B9 sx hpa
  have HJ : ∀ w', Below w8.heap.size w8 w' → IntsAt w' na named := fun w' hb => HI w' (B8.trans (hb.mono B8.size))
  generalize ofP wd 7 [bS x] = D at *
  go_wp2_with fail
  refine (total_any xa xc x w10 (by omega) hgd.w (SB _ b10)).mono ?_
  rintro e w11 ⟨rfl, b11⟩
  have b11 := b10.trans (b11.mono b10.size)
  go_wp2_with fail
  refine (rtotal_any xa xc x w11 (by omega) hgd.w (SB _ b11)).mono ?_
  rintro e w12 ⟨rfl, b12⟩
  have b12 := b11.trans (b12.mono b11.size)
  go_wp2_with fail
  refine (weight_any xa na xc cn x named w12 (by omega) hnn hgd.w (SB _ b12) (HJ _ b12)).mono ?_
  rintro e w13 ⟨rfl, b13⟩
  have b13 := b12.trans (b13.mono b12.size)
  go_wp2_with fail
  refine (rweight_any xa na xc cn x named w13 (by omega) hnn hgd.w (SB _ b13) (HJ _ b13)).mono ?_
  rintro e w14 ⟨rfl, b14⟩
  have b14 := b13.trans (b14.mono b13.size)
  go_wp2_with fail
  refine (quorum_any xa na xc cn x named w14 (by omega) hnn hgd.w (SB _ b14) (HJ _ b14)).mono ?_
  rintro e w15 ⟨rfl, b15⟩
  have b15 := b14.trans (b15.mono b14.size)
  go_wp2_with fail
  refine (rquorum_any xa na xc cn x named w15 (by omega) hnn hgd.w (SB _ b15) (HJ _ b15)).mono ?_
  rintro e w16 ⟨rfl, b16⟩
  have b16 := b15.trans (b16.mono b15.size)
  go_wp2_with fail
  refine (some_any xa na xc cn x named w16 (by omega) hnn hgd.w (SB _ b16) (HJ _ b16)).mono ?_
  rintro e w17 ⟨rfl, b17⟩
  have b17 := b16.trans (b17.mono b16.size)
  go_wp2_with fail
  refine (rmore_any xa na xc cn x named w17 (by omega) hnn hgd.w (SB _ b17) (HJ _ b17)).mono ?_
  rintro e w18 ⟨rfl, b18⟩
  have b18 := b17.trans (b18.mono b17.size)
  go_wp2_with fail
  refine (has_any xa xc x who w18 (by unfold maxLen; omega) (SB _ b18)).mono ?_
  rintro e w19 ⟨rfl, b19⟩
  have b19 := b18.trans (b19.mono b18.size)
  go_wp2_with fail
  refine (rhas_any xa xc x who w19 (by unfold maxLen; omega) (SB _ b19)).mono ?_
  rintro e w20 ⟨rfl, rfl⟩
  go_wp2
  go_ret
  exact ⟨rfl, B8.trans (b19.mono B8.size)⟩
end Go.Proofs.YtigbfbniicfpdaaGreat
