/- The answer's writing, as lists of parts. -/
import Derived.Test.YtaifkidpdmhciaaGreatXThings
import Derived.Test.YtaifkidpdmhciaaGreatM02
import Derived.Test.YtaifkidpdmhciaaGreatM03

namespace Go.Proofs.YtaifkidpdmhciaaGreat
open Go.RowKit
set_option linter.unusedVariables false

/-- What the answer has written: these parts; and whether something may not be. -/
def RefL (w : World) (b : Nat) (l : List Atom) (odd : Bool) : Prop := RefAt w b (encZL l) (!okL l) odd
theorem RefL.below {w w' : World} {b : Nat} {l : List Atom} {odd : Bool} (h : RefL w b l odd) (hb : Below w.heap.size w w') : RefL w' b l odd := RefAt.below h hb
theorem RefL.lt {w : World} {b : Nat} {l : List Atom} {odd : Bool} (h : RefL w b l odd) : b < w.heap.size := Blk.lt h
theorem RefL.as {w : World} {b : Nat} {l l' : List Atom} {odd odd' : Bool} (h : RefL w b l odd) (e : l = l') (o : odd = odd') : RefL w b l' odd' := by subst e; subst o; exact h
theorem encZL_one (l : List Atom) (a : Atom) : encZL (l ++ [a]) = encZL l ++ a.encZ := by rw [encZL_append]; simp [encZL]
theorem okL_one (l : List Atom) (a : Atom) : (!okL (l ++ [a])) = (!okL l || !a.ok) := by rw [okL_append]; simp [okL]

theorem rnumL (base b : Nat) (n : Int) (l : List Atom) (odd : Bool) (w : World) (hb : base ≤ b) (hn : -9223372036854775808 ≤ n ∧ n ≤ 9223372036854775807) (hL : wtL l ≤ 1099511000000) (R : RefL w b l odd) :
    Calls Tryz.prog 48 #[.pointer (some ⟨b, 0, none⟩), .int .i64 n] w fun e w' => e = .returned (.tuple #[]) ∧ RefL w' b (l ++ intA n) odd ∧ Kp base b w w' := by
  have hl := encZL_len l
  refine (rnum_any base b n (encZL l) (!okL l) odd w hb hn (by omega) R).mono ?_
  rintro e w' ⟨h1, h2, h3⟩
  refine ⟨h1, ?_, h3⟩
  unfold RefL
  rw [show intA n = [Atom.num 1099511627775 n] from rfl, encZL_one, okL_one, ← far_plain]
  exact h2
theorem rdigL (base b : Nat) (d : Int) (l : List Atom) (odd : Bool) (w : World) (hb : base ≤ b) (hd : 0 ≤ d ∧ d ≤ 18446744073709551615) (hL : wtL l ≤ 1099511000000) (R : RefL w b l odd) :
    Calls Tryz.prog 79 #[.pointer (some ⟨b, 0, none⟩), .int .u64 d] w fun e w' => e = .returned (.tuple #[]) ∧ RefL w' b (l ++ digL d) odd ∧ Kp base b w w' := by
  have hl := encZL_len l
  refine (rdig_any base b d (encZL l) (!okL l) odd w hb hd (by omega) R).mono ?_
  rintro e w' ⟨h1, h2, h3⟩
  refine ⟨h1, ?_, h3⟩
  unfold RefL
  rw [show digL d = [Atom.raw (be d 8)] from rfl, encZL_one, okL_one]
  simpa [Atom.ok, Atom.encZ] using h2
theorem rflagL (base b : Nat) (x : Bool) (l : List Atom) (odd : Bool) (w : World) (hb : base ≤ b) (hL : wtL l ≤ 1099511000000) (R : RefL w b l odd) :
    Calls Tryz.prog 78 #[.pointer (some ⟨b, 0, none⟩), .bool x] w fun e w' => e = .returned (.tuple #[]) ∧ RefL w' b (l ++ flagL x) odd ∧ Kp base b w w' := by
  have hl := encZL_len l
  refine (rflag_any base b x (encZL l) (!okL l) odd w hb (by omega) R).mono ?_
  rintro e w' ⟨h1, h2, h3⟩
  refine ⟨h1, ?_, h3⟩
  unfold RefL
  rw [show flagL x = [Atom.raw (flagB x)] from rfl, encZL_one, okL_one]
  simpa [Atom.ok, Atom.encZ, flagB] using h2
theorem roddL (base b : Nat) (x : Bool) (l : List Atom) (odd : Bool) (w : World) (hb : base ≤ b) (R : RefL w b l odd) :
    Calls Tryz.prog 49 #[.pointer (some ⟨b, 0, none⟩), .bool x] w fun e w' => e = .returned (.tuple #[]) ∧ RefL w' b l (odd || x) ∧ Kp base b w w' :=
  rodd_any base b x (encZL l) (!okL l) odd w hb R
theorem rcountL (base b : Nat) (n most : Int) (l : List Atom) (odd : Bool) (w : World) (hb : base ≤ b) (hn : -9223372036854775808 ≤ n ∧ n ≤ 9223372036854775807) (hm : most ≤ 1099511627775) (hL : wtL l ≤ 1099511000000) (R : RefL w b l odd) :
    Calls Tryz.prog 81 #[.pointer (some ⟨b, 0, none⟩), .int .i64 n, .int .i64 most] w fun e w' => e = .returned (.tuple #[]) ∧ RefL w' b (l ++ [Atom.num most n]) odd ∧ Kp base b w w' := by
  have hl := encZL_len l
  refine (rcount_any base b n most (encZL l) (!okL l) odd w hb hn (by omega) R).mono ?_
  rintro e w' ⟨h1, h2, h3⟩
  refine ⟨h1, ?_, h3⟩
  unfold RefL
  rw [encZL_one, okL_one, ← far_num most n hm, ← Bool.or_assoc]
  exact h2

set_option maxHeartbeats 800000 in
theorem rtextL (base b : Nat) (s : List UInt8) (most : Int) (l : List Atom) (odd : Bool) (w : World) (hb : base ≤ b) (hm : most ≤ 1099511627775) (hL : wtL l + s.length ≤ 1099511000000) (R : RefL w b l odd) :
    Calls Tryz.prog 126 #[.pointer (some ⟨b, 0, none⟩), .string ⟨s.toArray⟩, .int .i64 most] w fun e w' => e = .returned (.tuple #[]) ∧ RefL w' b (l ++ textL most s) odd ∧ Kp base b w w' := by
  have hsz : (⟨s.toArray⟩ : ByteArray).size = s.length := by simp [ByteArray.size]
  have hL1 : wtL l ≤ 1099511000000 := by omega
  have hs1 : s.length ≤ 1099511000000 := by omega
  go_enter Tryz.func126, Tryz.ntmps126
  go_wp2_with fail
  refine (rcountL base b (s.length : Int) most l odd _ hb (by omega) hm hL1 R).mono ?_
  rintro e w1 ⟨rfl, R1, k1⟩
  have hl := encZL_len (l ++ [Atom.num most (s.length : Int)])
  rw [wtL_append] at hl
  simp only [wtL, Atom.wt] at hl
  obtain ⟨c0, c1, c2, f0, f1, f2, hlt1⟩ := RefAt.cells R1
  have hR : RefAt w1 b (encZL (l ++ [Atom.num most (s.length : Int)])) (!okL (l ++ [Atom.num most (s.length : Int)])) odd := R1
  generalize hG : encZL (l ++ [Atom.num most (s.length : Int)]) = D at *
  have HG := show Hid (_ = _) from hG
  clear hG
  go_wp2
  (try go_region)
  rw [str_app]
  go_end0
  have hbw : base ≤ w1.heap.size := Nat.le_trans hb (Nat.le_of_lt hlt1)
  have key : ∀ w2, RefAt w2 b (D ++ s) (!okL (l ++ [Atom.num most (s.length : Int)])) odd → RefL w2 b (l ++ textL most s) odd := by
    intro w2 h
    unfold RefL
    rw [show l ++ textL most s = (l ++ [Atom.num most (s.length : Int)]) ++ [Atom.raw s] by simp [textL], encZL_one, okL_one, HG.out]
    simpa [Atom.ok, Atom.encZ] using h
  exact ⟨rfl, key _ (by first | exact hR.setB _ | exact (hR.setB _).below (Below.refl _ _).drew), by first | exact k1.trans (Kp.set hb 0 _) | exact (k1.trans (Kp.set hb 0 _)).trans (Kp.of_below (Below.refl _ _).drew (by simpa [World.setCell] using hbw))⟩
end Go.Proofs.YtaifkidpdmhciaaGreat

namespace Go.Proofs.YtaifkidpdmhciaaGreat
open Go.RowKit
set_option linter.unusedVariables false

def voteZ (h r s : Int) (has : Bool) (bl f : Int) : List UInt8 := numZ h ++ numZ r ++ numZ s ++ flagB has ++ be bl 8 ++ numZ f
def voteFar (h r s f : Int) : Bool := !inNum h || !inNum r || !inNum s || !inNum f
def voteOdd (s : Int) (has : Bool) (bl f : Int) : Bool := decide (2 < s) || decide (f < 1) || (!has && (decide (bl ≠ 0) || decide (s = 0)))

set_option maxHeartbeats 3200000 in
theorem rvote_any (base b : Nat) (h : Int) (r : Int) (s : Int) (has : Bool) (bl : Int) (f : Int) (B : List UInt8) (far odd : Bool) (w : World) (hb : base ≤ b) (bh : -9223372036854775808 ≤ h ∧ h ≤ 9223372036854775807) (br : -9223372036854775808 ≤ r ∧ r ≤ 9223372036854775807) (bs : -9223372036854775808 ≤ s ∧ s ≤ 9223372036854775807) (bbl : 0 ≤ bl ∧ bl ≤ 18446744073709551615) (bf : -9223372036854775808 ≤ f ∧ f ≤ 9223372036854775807) (hB : B.length ≤ 1099511620000) (R : RefAt w b B far odd) :
    Calls Tryz.prog 52 #[.pointer (some ⟨b, 0, none⟩), .agg #[.int .i64 h, .int .i64 r, .int .i64 s, .bool has, .int .u64 bl, .int .i64 f]] w fun e w' => e = .returned (.tuple #[]) ∧ RefAt w' b (B ++ voteZ h r s has bl f) (far || voteFar h r s f) (odd || voteOdd s has bl f) ∧ Kp base b w w' := by
  have hlt := Blk.lt R
  have hB0 : base ≤ w.heap.size := Nat.le_trans hb (Nat.le_of_lt hlt)
  have bA : Below w.heap.size w (w.alloc (.cells #[.int .i64 h, .int .i64 r, .int .i64 s, .bool has, .int .u64 bl, .int .i64 f] 31)) := (Below.refl _ _).alloc (Nat.le_refl _) _
  have X0 := Blk.new w #[.int .i64 h, .int .i64 r, .int .i64 s, .bool has, .int .u64 bl, .int .i64 f] 31
  have K0 : Kp base b w (w.alloc (.cells #[.int .i64 h, .int .i64 r, .int .i64 s, .bool has, .int .u64 bl, .int .i64 f] 31)) := Kp.of_below bA hB0
  have R0 := R.below bA
  have hXb : w.heap.size ≠ b := by omega
  go_enter Tryz.func52, Tryz.ntmps52
  have q0 := X0.cell 0
  simp only [List.getElem?_toArray, List.getElem?_cons_zero] at q0
  go_wp2_with fail
  refine (rnum_any base b h (B) (far) (odd) _ hb bh (by omega) R0).mono ?_
  rintro e w1 ⟨rfl, R1, k1⟩
  have L1 : (B ++ numZ h).length ≤ B.length + 6 := by rw [List.length_append]; have := numZ_len h; omega
  have X1 := X0.kp k1 hXb
  have K1 := K0.trans k1
  clear q0
  have q1 := X1.cell 1
  simp only [List.getElem?_toArray, List.getElem?_cons_succ, List.getElem?_cons_zero] at q1
  go_wp2_with fail
  refine (rnum_any base b r (B ++ numZ h) (far || !inNum h) (odd) _ hb br (by omega) R1).mono ?_
  rintro e w2 ⟨rfl, R2, k2⟩
  have L2 : (B ++ numZ h ++ numZ r).length ≤ B.length + 12 := by rw [List.length_append]; have := numZ_len r; omega
  have X2 := X1.kp k2 hXb
  have K2 := K1.trans k2
  clear q1
  have q2 := X2.cell 2
  simp only [List.getElem?_toArray, List.getElem?_cons_succ, List.getElem?_cons_zero] at q2
  go_wp2_with fail
  refine (rnum_any base b s (B ++ numZ h ++ numZ r) (far || !inNum h || !inNum r) (odd) _ hb bs (by omega) R2).mono ?_
  rintro e w3 ⟨rfl, R3, k3⟩
  have L3 : (B ++ numZ h ++ numZ r ++ numZ s).length ≤ B.length + 18 := by rw [List.length_append]; have := numZ_len s; omega
  have X3 := X2.kp k3 hXb
  have K3 := K2.trans k3
  clear q2
  have q3 := X3.cell 3
  simp only [List.getElem?_toArray, List.getElem?_cons_succ, List.getElem?_cons_zero] at q3
  go_wp2_with fail
  refine (rflag_any base b has (B ++ numZ h ++ numZ r ++ numZ s) (far || !inNum h || !inNum r || !inNum s) (odd) _ hb (by omega) R3).mono ?_
  rintro e w4 ⟨rfl, R4f, k4⟩
  have R4 : RefAt w4 b (B ++ numZ h ++ numZ r ++ numZ s ++ flagB has) (far || !inNum h || !inNum r || !inNum s) (odd) := R4f
  have L4 : (B ++ numZ h ++ numZ r ++ numZ s ++ flagB has).length ≤ B.length + 19 := by rw [List.length_append]; have : (flagB has).length = 1 := rfl; omega
  have X4 := X3.kp k4 hXb
  have K4 := K3.trans k4
  clear q3
  have q4 := X4.cell 4
  simp only [List.getElem?_toArray, List.getElem?_cons_succ, List.getElem?_cons_zero] at q4
  go_wp2_with fail
  refine (rdig_any base b bl (B ++ numZ h ++ numZ r ++ numZ s ++ flagB has) (far || !inNum h || !inNum r || !inNum s) (odd) _ hb bbl (by omega) R4).mono ?_
  rintro e w5 ⟨rfl, R5, k5⟩
  have L5 : (B ++ numZ h ++ numZ r ++ numZ s ++ flagB has ++ be bl 8).length ≤ B.length + 27 := by rw [List.length_append]; have := be_len bl 8; omega
  have X5 := X4.kp k5 hXb
  have K5 := K4.trans k5
  clear q4
  have q5 := X5.cell 5
  simp only [List.getElem?_toArray, List.getElem?_cons_succ, List.getElem?_cons_zero] at q5
  go_wp2_with fail
  refine (rnum_any base b f (B ++ numZ h ++ numZ r ++ numZ s ++ flagB has ++ be bl 8) (far || !inNum h || !inNum r || !inNum s) (odd) _ hb bf (by omega) R5).mono ?_
  rintro e w6 ⟨rfl, R6, k6⟩
  have L6 : (B ++ numZ h ++ numZ r ++ numZ s ++ flagB has ++ be bl 8 ++ numZ f).length ≤ B.length + 33 := by rw [List.length_append]; have := numZ_len f; omega
  have X6 := X5.kp k6 hXb
  have K6 := K5.trans k6
  clear q5
  clear L1 L2 L3 L4 L5 k1 k2 k3 k4 k5 k6
  have EB : B ++ numZ h ++ numZ r ++ numZ s ++ flagB has ++ be bl 8 ++ numZ f = B ++ voteZ h r s has bl f := by simp [voteZ, List.append_assoc]
  have EF : (far || !inNum h || !inNum r || !inNum s || !inNum f) = (far || voteFar h r s f) := by simp [voteFar, Bool.or_assoc]
  rw [EB, EF] at R6
  have fin : ∀ (x y : Bool), x = (decide (2 < s) || decide (f < 1)) → y = (!has && (decide (bl ≠ 0) || decide (s = 0))) → (odd || x || y) = (odd || voteOdd s has bl f) := by
    intro x y hx hy
    rw [hx, hy]
    unfold voteOdd
    rw [Bool.or_assoc]
  clear EB EF
  have q2 := X6.cell 2
  have q5 := X6.cell 5
  simp only [List.getElem?_toArray, List.getElem?_cons_succ, List.getElem?_cons_zero] at q2 q5
  by_cases h2 : 2 < s
  · go_wp2_with fail
    refine (rodd_any base b true _ _ _ _ hb R6).mono ?_
    rintro e w7 ⟨rfl, R7, k7⟩
    clear q2 q5
    have X7 := X6.kp k7 hXb
    have p2 := X7.cell 2
    have p3 := X7.cell 3
    have p4 := X7.cell 4
    simp only [List.getElem?_toArray, List.getElem?_cons_succ, List.getElem?_cons_zero] at p2 p3 p4
    have K7 := K6.trans k7
    cases has
    · by_cases hbz : bl = 0
      · subst hbz
        go_wp2_with fail
        refine (rodd_any base b (decide (s = 0)) _ _ _ _ hb R7).mono ?_
        rintro e w8 ⟨rfl, R8, k8⟩
        rw [fin true (decide (s = 0)) (by simp [h2]) (by simp)] at R8
        go_wp2
        go_end0
        exact ⟨rfl, R8, K7.trans k8⟩
      · have hbn : (bl != 0) = true := by simpa using hbz
        go_wp2_with fail
        refine (rodd_any base b true _ _ _ _ hb R7).mono ?_
        rintro e w8 ⟨rfl, R8, k8⟩
        rw [fin true true (by simp [h2]) (by simp [hbz])] at R8
        go_wp2
        go_end0
        exact ⟨rfl, R8, K7.trans k8⟩
    · go_wp2_with fail
      refine (rodd_any base b false _ _ _ _ hb R7).mono ?_
      rintro e w8 ⟨rfl, R8, k8⟩
      rw [fin true false (by simp [h2]) (by simp)] at R8
      go_wp2
      go_end0
      exact ⟨rfl, R8, K7.trans k8⟩
  · go_wp2_with fail
    refine (rodd_any base b (decide (2 < s) || decide (f < 1)) _ _ _ _ hb R6).mono ?_
    rintro e w7 ⟨rfl, R7, k7⟩
    clear q2 q5
    have X7 := X6.kp k7 hXb
    have p2 := X7.cell 2
    have p3 := X7.cell 3
    have p4 := X7.cell 4
    simp only [List.getElem?_toArray, List.getElem?_cons_succ, List.getElem?_cons_zero] at p2 p3 p4
    have K7 := K6.trans k7
    cases has
    · by_cases hbz : bl = 0
      · subst hbz
        go_wp2_with fail
        refine (rodd_any base b (decide (s = 0)) _ _ _ _ hb R7).mono ?_
        rintro e w8 ⟨rfl, R8, k8⟩
        rw [fin (decide (2 < s) || decide (f < 1)) (decide (s = 0)) rfl (by simp)] at R8
        go_wp2
        go_end0
        exact ⟨rfl, R8, K7.trans k8⟩
      · have hbn : (bl != 0) = true := by simpa using hbz
        go_wp2_with fail
        refine (rodd_any base b true _ _ _ _ hb R7).mono ?_
        rintro e w8 ⟨rfl, R8, k8⟩
        rw [fin (decide (2 < s) || decide (f < 1)) true rfl (by simp [hbz])] at R8
        go_wp2
        go_end0
        exact ⟨rfl, R8, K7.trans k8⟩
    · go_wp2_with fail
      refine (rodd_any base b false _ _ _ _ hb R7).mono ?_
      rintro e w8 ⟨rfl, R8, k8⟩
      rw [fin (decide (2 < s) || decide (f < 1)) false rfl (by simp)] at R8
      go_wp2
      go_end0
      exact ⟨rfl, R8, K7.trans k8⟩

def parcelZ (k t a : Int) : List UInt8 := numZ k ++ numZ t ++ numZ a
def parcelFar (k t a : Int) : Bool := !inNum k || !inNum t || !inNum a
def parcelOdd (k t : Int) : Bool := decide (k < 1) || decide (2 < k) || decide (t < 1)



def accountZ (ba fo no bo le fr : Int) (ja : Bool) : List UInt8 := numZ ba ++ numZ fo ++ numZ no ++ numZ bo ++ numZ le ++ numZ fr ++ flagB ja
def accountFar (ba fo no bo le fr : Int) : Bool := !inNum ba || !inNum fo || !inNum no || !inNum bo || !inNum le || !inNum fr



end Go.Proofs.YtaifkidpdmhciaaGreat

namespace Go.Proofs.YtaifkidpdmhciaaGreat
open Go.RowKit
set_option linter.unusedVariables false

/-- A list of two numbers each, below base. -/
def PairsLt (base : Nat) (w : World) (la : Option Addr) (ps : List (Int × Int)) : Prop :=
  (∀ p ∈ ps, (-9223372036854775808 ≤ p.1 ∧ p.1 ≤ 9223372036854775807) ∧ (-9223372036854775808 ≤ p.2 ∧ p.2 ≤ 9223372036854775807)) ∧
  (ps = [] ∨ ∃ rb ro, la = some ⟨rb, ro, none⟩ ∧ rb < base ∧ ∀ i p, ps[i]? = some p → w.cell? ⟨rb, ro + i * 2, none⟩ = some (.int .i64 p.1) ∧ w.cell? ⟨rb, ro + i * 2 + 1, none⟩ = some (.int .i64 p.2))
theorem PairsLt.kp {base b : Nat} {w w' : World} {la : Option Addr} {ps : List (Int × Int)} (h : PairsLt base w la ps) (hK : Kp base b w w') : PairsLt base w' la ps := by
  refine ⟨h.1, ?_⟩
  rcases h.2 with h | ⟨rb, ro, e, hl, hc⟩
  · exact .inl h
  · exact .inr ⟨rb, ro, e, hl, fun i p hp => by rw [hK.below.cell (p := ⟨rb, ro + i * 2, none⟩) hl, hK.below.cell (p := ⟨rb, ro + i * 2 + 1, none⟩) hl]; exact hc i p hp⟩

def pairsZ (ps : List (Int × Int)) : List UInt8 := ps.flatMap fun p => numZ p.1 ++ numZ p.2
def pairsFar (ps : List (Int × Int)) : Bool := ps.any fun p => !inNum p.1 || !inNum p.2
def oddAt (ps : List (Int × Int)) (i : Nat) : Bool := decide ((ps.getD i (0, 0)).1 < 1) || decide ((ps.getD i (0, 0)).2 < 1) || (decide (0 < i) && decide ((ps.getD i (0, 0)).1 ≤ (ps.getD (i - 1) (0, 0)).1))
def oddTo (ps : List (Int × Int)) (k : Nat) : Bool := (List.range k).any (oddAt ps)
theorem pairsZ_take (ps : List (Int × Int)) (k : Nat) (p : Int × Int) (h : ps[k]? = some p) : pairsZ (ps.take (k + 1)) = pairsZ (ps.take k) ++ numZ p.1 ++ numZ p.2 := by
  rw [List.take_add_one, h]
  simp [pairsZ, List.append_assoc]
theorem pairsFar_take (ps : List (Int × Int)) (k : Nat) (p : Int × Int) (h : ps[k]? = some p) : pairsFar (ps.take (k + 1)) = (pairsFar (ps.take k) || !inNum p.1 || !inNum p.2) := by
  rw [List.take_add_one, h]
  simp [pairsFar, Bool.or_assoc]
theorem oddTo_succ (ps : List (Int × Int)) (k : Nat) : oddTo ps (k + 1) = (oddTo ps k || oddAt ps k) := by
  unfold oddTo
  rw [List.range_succ, List.any_append]; simp
theorem pairsZ_len (ps : List (Int × Int)) : (pairsZ ps).length ≤ 12 * ps.length := by
  induction ps with
  | nil => simp [pairsZ]
  | cons p r ih =>
    have h1 := numZ_len p.1
    have h2 := numZ_len p.2
    have e : pairsZ (p :: r) = (numZ p.1 ++ numZ p.2) ++ pairsZ r := by simp [pairsZ]
    rw [e, List.length_append, List.length_append, List.length_cons]
    omega
def benchZ (ps : List (Int × Int)) : List UInt8 := numZ ps.length ++ pairsZ ps
def benchFar (ps : List (Int × Int)) : Bool := decide ((7 : Int) < ps.length) || !inNum ps.length || pairsFar ps
def benchOdd (ps : List (Int × Int)) : Bool := oddTo ps ps.length

end Go.Proofs.YtaifkidpdmhciaaGreat

namespace Go.Proofs.YtaifkidpdmhciaaGreat
open Go.RowKit
set_option linter.unusedVariables false

def stepOdd (xs : List Int) (i : Nat) : Bool := decide (xs.getD i 0 < 1) || (decide (0 < i) && decide (xs.getD i 0 ≤ xs.getD (i - 1) 0))
def riseOdd (xs : List Int) (k : Nat) : Bool := (List.range k).any (stepOdd xs)
theorem riseOdd_succ (xs : List Int) (k : Nat) : riseOdd xs (k + 1) = (riseOdd xs k || stepOdd xs k) := by
  simp [riseOdd, List.range_succ]
def backOdd (xs : List Turn) (i : Nat) : Bool := decide (0 < i) && decide ((xs.map Turn.p).getD i 0 ≤ (xs.map Turn.p).getD (i - 1) 0)
def backsOdd (xs : List Turn) (k : Nat) : Bool := (List.range k).any (backOdd xs)
theorem backsOdd_succ (xs : List Turn) (k : Nat) : backsOdd xs (k + 1) = (backsOdd xs k || backOdd xs k) := by
  simp [backsOdd, List.range_succ]
theorem any_take {α : Type} (f : α → Bool) (xs : List α) (k : Nat) (x : α) (h : xs[k]? = some x) : (xs.take (k + 1)).any f = ((xs.take k).any f || f x) := by
  have e : xs.take (k + 1) = xs.take k ++ [x] := by rw [List.take_add_one, h]; rfl
  rw [e]; simp
def Vote.odd (x : Vote) : Bool := decide (2 < x.s) || decide (x.f < 1) || (!x.has && (decide (x.bl ≠ 0) || decide (x.s = 0)))
def Guilt.odd (x : Guilt) : Bool := x.a.odd || x.c.odd
def Cert.odd (x : Cert) : Bool := (decide (x.s ≠ 1) && decide (x.s ≠ 2)) || (!x.has && decide (x.bl ≠ 0)) || riseOdd x.fr.xs x.fr.xs.length
def Proof.odd (x : Proof) : Bool := backsOdd x.tu.xs x.tu.xs.length || (x.leaf && decide (x.val = [])) || (!x.leaf && (decide (0 < x.tu.xs.length) || decide (x.key ≠ []) || decide (x.val ≠ [])))
def Sight.odd (x : Sight) : Bool := x.ce.odd || benchOdd x.se.xs
def isTo (k : Int) : Bool := decide (k = 1) || decide (k = 3) || decide (k = 7) || decide (k = 8)
def isAm (k : Int) : Bool := isTo k || (decide (k = 2) || decide (k = 4) || decide (k = 5))
def Tx.odd (x : Tx) : Bool := x.si.xs.any Sight.odd || x.pr.xs.any Proof.odd || (decide (x.k < 1) || decide (10 < x.k) || decide (x.f < 1)) || ((isTo x.k && decide (x.to < 1)) || (!isTo x.k && decide (x.to ≠ 0))) || (!isAm x.k && decide (x.am ≠ 0)) ||
  (decide (x.k ≠ 2) && decide (x.k ≠ 3) && decide (x.te ≠ [])) || (decide (x.k ≠ 3) && decide (0 < x.ar.xs.length)) || (decide (x.k = 9) != decide (x.si.xs.length = 1)) || (decide (x.k = 10) != decide (x.pr.xs.length = 1))
def Block.odd (x : Block) : Bool := x.tx.xs.any Tx.odd || x.gu.xs.any Guilt.odd
def Motion.odd (x : Motion) : Bool := x.bl.odd || x.ba.xs.any Cert.odd || decide (x.fr < 1)
def Known.odd (x : Known) : Bool := x.ce.odd || x.bl.odd
def Message.odd (x : Message) : Bool := x.vo.xs.any Vote.odd || x.mo.xs.any Motion.odd || x.kn.xs.any Known.odd || x.tx.xs.any Tx.odd || decide (x.fr < 1)
end Go.Proofs.YtaifkidpdmhciaaGreat
