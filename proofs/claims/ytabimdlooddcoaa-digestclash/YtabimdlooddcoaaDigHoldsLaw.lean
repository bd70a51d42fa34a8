/- DigestHolds: a path that the program tells of a list's leaf holds under the list's root; and of whatever path, leaf and root the program says the same as the answer. No condition. -/
import Derived.Test.YtabimdlooddcoaaRows
import Derived.Test.YtabimdlooddcoaaDigSpoil
import Derived.WalkKit
import Derived.ProofKit
import Derived.OpenShut
import Derived.ShutString
import Derived.ChangeOld
import Derived.Below
import Derived.SizedLaws
import Derived.SliceStrings
import Derived.Deep.RegionHeld3
namespace Go.Proofs.Ytabimdlooddcoaa.digestHolds
open Go.ChangeShapes Go.WideShapes Go.ChangeAt Go.RowKit
open Go.ChangeMaps (open_string shut_string)
set_option linter.unusedVariables false

theorem own : ownKnob Try.prog.godebug = none := by kernel_rfl
theorem laidOut : laidOutB Try.prog = true := by kernel_rfl

/-- What the path of a leaf that is there comes to. -/
theorem holds_path (wd : Int) (ss : List ByteArray) (n k : Nat) (s : ByteArray) (hl : ss.length = n) (hn : n ≤ 1099511627775) (hs : ss[k]? = some s) : holdsP wd (rootP wd ss) s (n : Int) (k : Int) (sidesP wd ss k) = true := by
  have hk : k < n := by rw [← hl]; exact (List.getElem?_eq_some_iff.1 hs).1
  have h := climb_above wd n ss k s hl hs
  rw [holdsP_yes wd _ s n k _ hk hn h.1]
  unfold topP rootP
  rw [h.2, hl]
  simp

theorem sum_le (ss : List ByteArray) {n : Nat} (hn : n ≤ 140737488351232) (hsz : ∀ s ∈ ss, s.size ≤ 140737488351232) (hl : ss.length = n) : sumP ss ≤ 281474976710656 := by
  have h : ∀ (l : List ByteArray) (m : Nat), (∀ s ∈ l, s.size ≤ 140737488351232) → m ≤ 281474976710656 → sumF m l ≤ 281474976710656 := by
    intro l
    induction l with
    | nil => intro m _ hm; exact hm
    | cons x r ih =>
      intro m hx hm
      simp only [sumF]
      split
      · exact ih _ (fun s hs => hx s (List.mem_cons_of_mem _ hs)) (by have := hx x List.mem_cons_self; omega)
      · exact hm
  exact h ss ss.length hsz (by omega)

theorem sides_len (wd : Int) (ss : List ByteArray) (n k : Nat) (hl : ss.length = n) (hk : k < n) : (sidesP wd ss k).length ≤ n := by
  have h1 : ss[k]? = some (ss[k]'(by omega)) := List.getElem?_eq_getElem (by omega)
  have h := climb_above wd n ss k _ hl h1
  have := turnsP_len n k (by omega)
  omega

theorem sides_bd (wd : Int) : ∀ (f : Nat) (ss : List ByteArray) (i : Nat), ∀ d ∈ sidesF f wd ss i, 0 ≤ d ∧ d ≤ 18446744073709551615 := by
  intro f
  induction f with
  | zero => intro ss i d hd; simp [sidesF] at hd
  | succ f ih =>
    intro ss i d hd
    simp only [sidesF] at hd
    split at hd
    · simp at hd
    · split at hd
      · rcases List.mem_cons.1 hd with h | h
        · subst h; exact aboveP_bd _ _
        · exact ih _ _ d h
      · rcases List.mem_cons.1 hd with h | h
        · subst h; exact aboveP_bd _ _
        · exact ih _ _ d h

set_option maxHeartbeats 6400000 in
theorem walk (wd : Int) (a : Option Addr) (n cap : Nat) (ss : List ByteArray) (i how d : Int) (s : ByteArray) (root : Int) (w : World) (hw : -9223372036854775808 ≤ wd ∧ wd ≤ 9223372036854775807) (hi : -9223372036854775808 ≤ i ∧ i ≤ 9223372036854775807)
    (hh : -9223372036854775808 ≤ how ∧ how ≤ 9223372036854775807) (hd : -9223372036854775808 ≤ d ∧ d ≤ 9223372036854775807) (hsm : s.size ≤ 140737488351232)
    (hl : ss.length = n) (hn : n ≤ 140737488351232) (hcap : n ≤ cap) (hm : cap ≤ maxLen) (hsz : ∀ s ∈ ss, s.size ≤ 140737488351232) (hs : Strs w a ss) :
    Calls Try.prog 4 #[.int .i64 wd, .slice a n cap, .int .i64 i, .int .i64 how, .int .i64 d, .string s, .int .i64 root] w fun e w' => e = .returned (.bool true) ∧ Below w.heap.size w w' := by
  have hsu := sum_le ss hn hsz hl
  by_cases hbig : 65536 < sumP ss + s.size
  · have hbig' : (65536 : Int) < (sumP ss : Int) + (s.size : Int) := by omega
    go_enter Try.func4, Try.ntmps4
    go_wp2_with fail
    refine (sum_any a n cap ss _ hn hsz hl hs).mono ?_
    rintro e w1 ⟨rfl, rfl⟩
    go_wp2
    go_ret
    exact ⟨rfl, Below.refl _ _⟩
  · have hge := sumF_ge ss ss.length
    have hbig' : ¬ (65536 : Int) < (sumP ss : Int) + (s.size : Int) := by omega
    have hn2 : n ≤ 65536 := by unfold sumP at hbig; omega
    have hsx : s.size ≤ maxLen := by unfold maxLen; omega
    have HL := show Hid (_ = _) from hl
    have hroot := u64_bounds root
    clear hl hge hbig
    by_cases hin : 0 ≤ i ∧ i < n
    · obtain ⟨k, rfl⟩ := Int.eq_ofNat_of_zero_le hin.1
      have hk : k < n := by omega
      obtain ⟨b, off, rfl⟩ := hs.some_of (by rw [HL.out]; omega)
      have hck : ∃ sk, ss[k]? = some sk := ⟨ss[k]'(by rw [HL.out]; exact hk), List.getElem?_eq_getElem (by rw [HL.out]; exact hk)⟩
      obtain ⟨sk, hsk⟩ := hck
      have hskz : sk.size ≤ maxLen := hs.1 sk (List.mem_of_getElem? hsk)
      have Hpath := show Hid (_ = _) from holds_path wd ss n k sk HL.out (by omega) hsk
      have hslen := sides_len wd ss n k HL.out hk
      have hsbd : ∀ d ∈ sidesP wd ss k, 0 ≤ d ∧ d ≤ 18446744073709551615 := sides_bd wd _ ss k
      obtain ⟨hbl, hck⟩ : b < w.heap.size ∧ w.cell? ⟨b, off + k, none⟩ = some (.string sk) := by
        rcases hs.2 with h0 | ⟨b', off', he, hlt, hc⟩
        · subst h0; simp at hsk
        · simp at he; obtain ⟨rfl, rfl⟩ := he
          have hkl := (List.getElem?_eq_some_iff.1 hsk).1
          refine ⟨hlt, ?_⟩
          rw [hc k hkl]
          rw [List.getElem?_eq_getElem hkl] at hsk
          rw [Option.some.inj hsk]
      clear hsk
      go_enter Try.func4, Try.ntmps4
      go_wp2_with fail
      refine (sum_any _ n cap ss _ hn hsz HL.out hs).mono ?_
      rintro e w1 ⟨rfl, rfl⟩
      go_wp2_with fail
      refine (root_any wd _ n cap ss _ hw (by omega) HL.out hcap hm hs).mono ?_
      rintro e w1 ⟨rfl, b1⟩
      go_wp2_with fail
      refine (path_some wd b off n cap k ss _ hw (by omega) HL.out hcap hm (hs.below b1) hk).mono ?_
      rintro e w2 ⟨v6, rfl, r6, b2'⟩
      have b2 := b1.trans (b2'.mono b1.size)
      obtain ⟨a6, c6, hv6⟩ := r6.form
      subst hv6
      rw [List.length_map] at *
      have bA : Below w.heap.size w (w2.alloc (.cells #[.int .i64 n, .int .i64 k, .slice a6 (sidesP wd ss k).length c6] 34)) := b2.alloc b2.size _
      have r6' := r6.below ((Below.refl _ _).alloc (Nat.le_refl _) (.cells #[.int .i64 n, .int .i64 k, .slice a6 (sidesP wd ss k).length c6] 34))
      have kp := Blk.new w2 #[.int .i64 n, .int .i64 k, .slice a6 (sidesP wd ss k).length c6] 34
      have hckA : (w2.alloc (.cells #[.int .i64 n, .int .i64 k, .slice a6 (sidesP wd ss k).length c6] 34)).cell? ⟨b, off + k, none⟩ = some (.string sk) := by rw [bA.cell (p := ⟨b, off + k, none⟩) hbl]; exact hck
      have hk1 : (k : Int) < (n : Int) := by omega
      have hk0 : (0 : Int) ≤ (k : Int) := by omega
      have hb2 : b < w2.heap.size := Nat.lt_of_lt_of_le hbl b2.size
      go_wp2_with fail
      generalize hWA : w2.alloc (.cells #[.int .i64 n, .int .i64 k, .slice a6 (sidesP wd ss k).length c6] 34) = wA at *
      have HWA := show Hid (_ = _) from hWA
      clear hWA
      have hpl := kp.lt
      have s0 := kp.cell 0
      have s1 := kp.cell 1
      have s2 := kp.cell 2
      simp only [List.getElem?_toArray, List.getElem?_cons_succ, List.getElem?_cons_zero] at s0 s1 s2
      go_region_held3 (fun w' => w'.cell? ⟨b, off + k, none⟩ = some (.string sk) ∧ w'.cell? ⟨w2.heap.size, 0, none⟩ = some (.int .i64 n) ∧ w'.cell? ⟨w2.heap.size, 1, none⟩ = some (.int .i64 k) ∧ w'.cell? ⟨w2.heap.size, 2, none⟩ = some (.slice a6 (sidesP wd ss k).length c6)) (go_keep)
        (first
        | (go_at_call 15
           refine (holds_any wd (rootP wd ss) (n : Int) (k : Int) sk _ _ (sidesP wd ss k) hw hskz ?_ hsbd).mono ?_
           · exact row_drew r6'
           rintro e w3 ⟨rfl, b3'⟩
           have b3 : Below wA.heap.size wA w3 := ((Below.refl _ _).drew).trans b3'
           have x0 : w3.cell? ⟨b, off + k, none⟩ = some (.string sk) := by rw [b3.cell (p := ⟨b, off + k, none⟩) (Nat.lt_of_lt_of_le hbl bA.size)]; exact hckA
           have x1 : w3.cell? ⟨w2.heap.size, 0, none⟩ = some (.int .i64 n) := by rw [b3.cell (p := ⟨w2.heap.size, 0, none⟩) hpl]; exact s0
           have x2 : w3.cell? ⟨w2.heap.size, 1, none⟩ = some (.int .i64 k) := by rw [b3.cell (p := ⟨w2.heap.size, 1, none⟩) hpl]; exact s1
           have x3 : w3.cell? ⟨w2.heap.size, 2, none⟩ = some (.slice a6 (sidesP wd ss k).length c6) := by rw [b3.cell (p := ⟨w2.heap.size, 2, none⟩) hpl]; exact s2))
      rw [Hpath.out]
      have bb3 := bA.trans (b3.mono bA.size)
      have r63 := r6'.below b3
      have hbw3 : b < w3.heap.size := Nat.lt_of_lt_of_le hbl bb3.size
      clear s0 s1 s2 hckA r6 r6' b1 b2' hck b3' kp
      go_wp2_with fail
      refine (spoil_any (n : Int) (k : Int) how d (.slice a6 (sidesP wd ss k).length c6) (sidesP wd ss k) _ r63 hsbd (by omega) (by omega) (by omega) hh hd).mono ?_
      rintro e wq ⟨v, rfl, ⟨c2, i2, ds2, sq, rfl, rq, hd2, hc2, hi2⟩, bq⟩
      obtain ⟨qa, qc, hqv⟩ := rq.form
      subst hqv
      have bbq := (bb3.trans (bq.mono bb3.size)).alloc (Nat.le_trans bb3.size bq.size) (.cells #[.int .i64 c2, .int .i64 i2, .slice qa (ds2.map (Value.int .u64)).length qc] 34)
      have kQ := Blk.new wq #[.int .i64 c2, .int .i64 i2, .slice qa (ds2.map (Value.int .u64)).length qc] 34
      have rq3 := rq.below ((Below.refl _ _).alloc (Nat.le_refl _) (.cells #[.int .i64 c2, .int .i64 i2, .slice qa (ds2.map (Value.int .u64)).length qc] 34))
      rw [List.length_map] at *
      clear rq
      have hcq : wq.cell? ⟨b, off + k, none⟩ = some (.string sk) := by rw [bq.cell (p := ⟨b, off + k, none⟩) hbw3]; exact x0
      have hbq : b < wq.heap.size := Nat.lt_of_lt_of_le hbw3 bq.size
      clear x0 x1 x2 x3
      go_wp2_with fail
      refine (pick_any d 3 _ hd (by omega)).mono ?_
      rintro e w4 ⟨⟨r, rfl, hr0, hr3⟩, rfl⟩
      by_cases hrp : 0 < r
      · skip
        go_wp2_with fail
        refine (holds_any wd (rootP wd ss) c2 i2 sk _ _ ds2 hw hskz rq3 hd2).mono ?_
        rintro e w9 ⟨rfl, b9⟩
        have kQ9 := kQ.below b9 kQ.lt
        have bb9 := bbq.trans (b9.mono bbq.size)
        have rq9 := rq3.below b9
        have m0 := kQ9.cell 0
        have m1 := kQ9.cell 1
        have m2 := kQ9.cell 2
        simp only [List.getElem?_toArray, List.getElem?_cons_succ, List.getElem?_cons_zero] at m0 m1 m2
        go_wp2_with fail
        refine (rholds_any wd (rootP wd ss) c2 i2 sk _ _ ds2 hw hskz rq9 hd2).mono ?_
        rintro e w10 ⟨rfl, b10⟩
        have kQ10 := kQ9.below b10 kQ9.lt
        have bb10 := bb9.trans (b10.mono bb9.size)
        have rq10 := rq9.below b10
        clear m0 m1 m2
        have m0 := kQ10.cell 0
        have m1 := kQ10.cell 1
        have m2 := kQ10.cell 2
        simp only [List.getElem?_toArray, List.getElem?_cons_succ, List.getElem?_cons_zero] at m0 m1 m2
        go_wp2_with fail
        refine (holds_any wd _ c2 i2 sk _ _ ds2 hw hskz rq10 hd2).mono ?_
        rintro e w11 ⟨rfl, b11⟩
        have kQ11 := kQ10.below b11 kQ10.lt
        have bb11 := bb10.trans (b11.mono bb10.size)
        have rq11 := rq10.below b11
        clear m0 m1 m2
        have m0 := kQ11.cell 0
        have m1 := kQ11.cell 1
        have m2 := kQ11.cell 2
        simp only [List.getElem?_toArray, List.getElem?_cons_succ, List.getElem?_cons_zero] at m0 m1 m2
        go_wp2_with fail
        refine (rholds_any wd _ c2 i2 sk _ _ ds2 hw hskz rq11 hd2).mono ?_
        rintro e w12 ⟨rfl, b12⟩
        have bb12 := bb11.trans (b12.mono bb11.size)
        go_wp2
        go_ret
        exact ⟨by simp, bb12⟩
      · have hrn : decide (0 < r) = false := by simpa using hrp
        go_wp2_with fail
        refine (holds_any wd (rootP wd ss) c2 i2 s _ _ ds2 hw hsx rq3 hd2).mono ?_
        rintro e w9 ⟨rfl, b9⟩
        have kQ9 := kQ.below b9 kQ.lt
        have bb9 := bbq.trans (b9.mono bbq.size)
        have rq9 := rq3.below b9
        have m0 := kQ9.cell 0
        have m1 := kQ9.cell 1
        have m2 := kQ9.cell 2
        simp only [List.getElem?_toArray, List.getElem?_cons_succ, List.getElem?_cons_zero] at m0 m1 m2
        go_wp2_with fail
        refine (rholds_any wd (rootP wd ss) c2 i2 s _ _ ds2 hw hsx rq9 hd2).mono ?_
        rintro e w10 ⟨rfl, b10⟩
        have kQ10 := kQ9.below b10 kQ9.lt
        have bb10 := bb9.trans (b10.mono bb9.size)
        have rq10 := rq9.below b10
        clear m0 m1 m2
        have m0 := kQ10.cell 0
        have m1 := kQ10.cell 1
        have m2 := kQ10.cell 2
        simp only [List.getElem?_toArray, List.getElem?_cons_succ, List.getElem?_cons_zero] at m0 m1 m2
        go_wp2_with fail
        refine (holds_any wd _ c2 i2 s _ _ ds2 hw hsx rq10 hd2).mono ?_
        rintro e w11 ⟨rfl, b11⟩
        have kQ11 := kQ10.below b11 kQ10.lt
        have bb11 := bb10.trans (b11.mono bb10.size)
        have rq11 := rq10.below b11
        clear m0 m1 m2
        have m0 := kQ11.cell 0
        have m1 := kQ11.cell 1
        have m2 := kQ11.cell 2
        simp only [List.getElem?_toArray, List.getElem?_cons_succ, List.getElem?_cons_zero] at m0 m1 m2
        go_wp2_with fail
        refine (rholds_any wd _ c2 i2 s _ _ ds2 hw hsx rq11 hd2).mono ?_
        rintro e w12 ⟨rfl, b12⟩
        have bb12 := bb11.trans (b12.mono bb11.size)
        go_wp2
        go_ret
        exact ⟨by simp, bb12⟩
    · have hcase : (i < 0 ∧ decide (0 ≤ i) = false) ∨ (0 ≤ i ∧ (n : Int) ≤ i ∧ decide (i < (n : Int)) = false) := by
        by_cases h : i < 0
        · exact .inl ⟨h, by simp; omega⟩
        · exact .inr ⟨by omega, by omega, by simp; omega⟩
      rcases hcase with ⟨h1, h2⟩ | ⟨h1, h2, h3⟩
      · skip
        go_enter Try.func4, Try.ntmps4
        go_wp2_with fail
        refine (sum_any _ n cap ss _ hn hsz HL.out hs).mono ?_
        rintro e w1 ⟨rfl, rfl⟩
        go_wp2_with fail
        refine (root_any wd _ n cap ss _ hw (by omega) HL.out hcap hm hs).mono ?_
        rintro e w1 ⟨rfl, b1⟩
        go_wp2_with fail
        refine (path_none wd _ n cap i _ (by omega)).mono ?_
        rintro e w2 ⟨rfl, b2'⟩
        have b2 := b1.trans (b2'.mono b1.size)
        have bA := b2.alloc b2.size (.cells #[.int .i64 0, .int .i64 0, .slice none 0 0] 34)
        have rp : Row (w2.alloc (.cells #[.int .i64 0, .int .i64 0, .slice none 0 0] 34)) (.slice none 0 0) (([] : List Int).map (Value.int .u64)) := ⟨none, 0, rfl, Nat.le_refl _, Nat.zero_le _, .inl rfl⟩
        unfold noPath
        go_wp2_with fail
        refine (spoil_any 0 0 how d (.slice none 0 0) [] _ rp (by simp) (by simp) (by omega) (by omega) hh hd).mono ?_
        rintro e wq ⟨v, rfl, ⟨c2, i2, ds2, sq, rfl, rq, hd2, hc2, hi2⟩, bq⟩
        obtain ⟨qa, qc, hqv⟩ := rq.form
        subst hqv
        have bbq := (bA.trans (bq.mono bA.size)).alloc (Nat.le_trans bA.size bq.size) (.cells #[.int .i64 c2, .int .i64 i2, .slice qa (ds2.map (Value.int .u64)).length qc] 34)
        have kQ := Blk.new wq #[.int .i64 c2, .int .i64 i2, .slice qa (ds2.map (Value.int .u64)).length qc] 34
        have rq3 := rq.below ((Below.refl _ _).alloc (Nat.le_refl _) (.cells #[.int .i64 c2, .int .i64 i2, .slice qa (ds2.map (Value.int .u64)).length qc] 34))
        rw [List.length_map] at *
        clear rq
        go_wp2_with fail
        refine (holds_any wd (rootP wd ss) c2 i2 s _ _ ds2 hw hsx rq3 hd2).mono ?_
        rintro e w9 ⟨rfl, b9⟩
        have kQ9 := kQ.below b9 kQ.lt
        have bb9 := bbq.trans (b9.mono bbq.size)
        have rq9 := rq3.below b9
        have m0 := kQ9.cell 0
        have m1 := kQ9.cell 1
        have m2 := kQ9.cell 2
        simp only [List.getElem?_toArray, List.getElem?_cons_succ, List.getElem?_cons_zero] at m0 m1 m2
        go_wp2_with fail
        refine (rholds_any wd (rootP wd ss) c2 i2 s _ _ ds2 hw hsx rq9 hd2).mono ?_
        rintro e w10 ⟨rfl, b10⟩
        have kQ10 := kQ9.below b10 kQ9.lt
        have bb10 := bb9.trans (b10.mono bb9.size)
        have rq10 := rq9.below b10
        clear m0 m1 m2
        have m0 := kQ10.cell 0
        have m1 := kQ10.cell 1
        have m2 := kQ10.cell 2
        simp only [List.getElem?_toArray, List.getElem?_cons_succ, List.getElem?_cons_zero] at m0 m1 m2
        go_wp2_with fail
        refine (holds_any wd _ c2 i2 s _ _ ds2 hw hsx rq10 hd2).mono ?_
        rintro e w11 ⟨rfl, b11⟩
        have kQ11 := kQ10.below b11 kQ10.lt
        have bb11 := bb10.trans (b11.mono bb10.size)
        have rq11 := rq10.below b11
        clear m0 m1 m2
        have m0 := kQ11.cell 0
        have m1 := kQ11.cell 1
        have m2 := kQ11.cell 2
        simp only [List.getElem?_toArray, List.getElem?_cons_succ, List.getElem?_cons_zero] at m0 m1 m2
        go_wp2_with fail
        refine (rholds_any wd _ c2 i2 s _ _ ds2 hw hsx rq11 hd2).mono ?_
        rintro e w12 ⟨rfl, b12⟩
        have bb12 := bb11.trans (b12.mono bb11.size)
        go_wp2
        go_ret
        exact ⟨by simp, bb12⟩
      · skip
        go_enter Try.func4, Try.ntmps4
        go_wp2_with fail
        refine (sum_any _ n cap ss _ hn hsz HL.out hs).mono ?_
        rintro e w1 ⟨rfl, rfl⟩
        go_wp2_with fail
        refine (root_any wd _ n cap ss _ hw (by omega) HL.out hcap hm hs).mono ?_
        rintro e w1 ⟨rfl, b1⟩
        go_wp2_with fail
        refine (path_none wd _ n cap i _ (by omega)).mono ?_
        rintro e w2 ⟨rfl, b2'⟩
        have b2 := b1.trans (b2'.mono b1.size)
        have bA := b2.alloc b2.size (.cells #[.int .i64 0, .int .i64 0, .slice none 0 0] 34)
        have rp : Row (w2.alloc (.cells #[.int .i64 0, .int .i64 0, .slice none 0 0] 34)) (.slice none 0 0) (([] : List Int).map (Value.int .u64)) := ⟨none, 0, rfl, Nat.le_refl _, Nat.zero_le _, .inl rfl⟩
        unfold noPath
        go_wp2_with fail
        refine (spoil_any 0 0 how d (.slice none 0 0) [] _ rp (by simp) (by simp) (by omega) (by omega) hh hd).mono ?_
        rintro e wq ⟨v, rfl, ⟨c2, i2, ds2, sq, rfl, rq, hd2, hc2, hi2⟩, bq⟩
        obtain ⟨qa, qc, hqv⟩ := rq.form
        subst hqv
        have bbq := (bA.trans (bq.mono bA.size)).alloc (Nat.le_trans bA.size bq.size) (.cells #[.int .i64 c2, .int .i64 i2, .slice qa (ds2.map (Value.int .u64)).length qc] 34)
        have kQ := Blk.new wq #[.int .i64 c2, .int .i64 i2, .slice qa (ds2.map (Value.int .u64)).length qc] 34
        have rq3 := rq.below ((Below.refl _ _).alloc (Nat.le_refl _) (.cells #[.int .i64 c2, .int .i64 i2, .slice qa (ds2.map (Value.int .u64)).length qc] 34))
        rw [List.length_map] at *
        clear rq
        go_wp2_with fail
        refine (holds_any wd (rootP wd ss) c2 i2 s _ _ ds2 hw hsx rq3 hd2).mono ?_
        rintro e w9 ⟨rfl, b9⟩
        have kQ9 := kQ.below b9 kQ.lt
        have bb9 := bbq.trans (b9.mono bbq.size)
        have rq9 := rq3.below b9
        have m0 := kQ9.cell 0
        have m1 := kQ9.cell 1
        have m2 := kQ9.cell 2
        simp only [List.getElem?_toArray, List.getElem?_cons_succ, List.getElem?_cons_zero] at m0 m1 m2
        go_wp2_with fail
        refine (rholds_any wd (rootP wd ss) c2 i2 s _ _ ds2 hw hsx rq9 hd2).mono ?_
        rintro e w10 ⟨rfl, b10⟩
        have kQ10 := kQ9.below b10 kQ9.lt
        have bb10 := bb9.trans (b10.mono bb9.size)
        have rq10 := rq9.below b10
        clear m0 m1 m2
        have m0 := kQ10.cell 0
        have m1 := kQ10.cell 1
        have m2 := kQ10.cell 2
        simp only [List.getElem?_toArray, List.getElem?_cons_succ, List.getElem?_cons_zero] at m0 m1 m2
        go_wp2_with fail
        refine (holds_any wd _ c2 i2 s _ _ ds2 hw hsx rq10 hd2).mono ?_
        rintro e w11 ⟨rfl, b11⟩
        have kQ11 := kQ10.below b11 kQ10.lt
        have bb11 := bb10.trans (b11.mono bb10.size)
        have rq11 := rq10.below b11
        clear m0 m1 m2
        have m0 := kQ11.cell 0
        have m1 := kQ11.cell 1
        have m2 := kQ11.cell 2
        simp only [List.getElem?_toArray, List.getElem?_cons_succ, List.getElem?_cons_zero] at m0 m1 m2
        go_wp2_with fail
        refine (rholds_any wd _ c2 i2 s _ _ ds2 hw hsx rq11 hd2).mono ?_
        rintro e w12 ⟨rfl, b12⟩
        have bb12 := bb11.trans (b12.mono bb11.size)
        go_wp2
        go_ret
        exact ⟨by simp, bb12⟩

theorem mem_weights_strs {H : Type} (P : Program) (e : TypeId) (ss : List ByteArray) (s : ByteArray) (hs : s ∈ ss) : s.size ∈ DataW.weightsAll (H := H) P e (strs ss) := by
  induction ss with
  | nil => cases hs
  | cons x r ih =>
    simp only [strs, List.map_cons, DataW.weightsAll, DataW.weights]
    rcases List.mem_cons.1 hs with rfl | h
    · simp
    · exact List.mem_append_right _ (ih h)

theorem Try.bytesS : Try.prog.bytesOf 9 = 16 := by kernel_rfl
theorem Try.cellsS : Try.prog.cellsOf 9 = 1 := by kernel_rfl

set_option maxRecDepth 100000 in
theorem lifted (os : Os) (started : os.Started) (H : Type) (enc : TypeId × Value → H) :
    ReturnsInHanded {} Try.checked os 4 .any (Rows.digestHoldsSpec.pre6 enc Try.prog Try.f4 Rows.digestHoldsRow.domain false) (Rows.digestHoldsSpec.post enc Try.prog Try.f4 false true false false) := by
  refine returnsInHanded_of_change_sized (C := Try.checked) own started (by kernel_rfl) Try.func4
    (ChangeSpec.witness6 (enc := enc) (C := Try.checked) false ⟨#[], #[.int .i64 0, .slice none 0 0, .int .i64 0, .int .i64 0, .int .i64 0, .string ByteArray.empty, .int .i64 0], []⟩ 8 (by kernel_rfl) (by kernel_rfl) (by kernel_rfl) (by kernel_rfl)) ?_
  intro W base args ds gs before hval0 hW hcnd hsz0 _
  have hval : ∀ (j : Nat) t v, Try.f4.params[j]? = some t → args[j]? = some v → Value.okWide Try.prog W .any base t v := hval0
  have hsz : (DataW.weightsEach Try.prog (Try.f4.params.toList ++ Rows.digestHoldsSpec.plain.varTypes Try.prog) (ds ++ gs)).all (· ≤ reachBytes) = true := hsz0
  have hW' := hW
  obtain ⟨p, q, hA0, hV, rfl, hfz, hnd⟩ := hW
  have hA : DataW.TrodAll enc Try.prog W 0 (fun _ => true) true Try.f4.params.toList args.toList ds p := hA0
  rw [Try.params4] at hA hval hsz
  obtain ⟨v0, vs0, d0, ds0, p0, q0, hargs, rfl, rfl, h0, r0⟩ := trodAll_cons hA
  obtain ⟨v1, vs1, d1, ds1, p1, q1, rfl, rfl, rfl, h1, r1⟩ := trodAll_cons r0
  obtain ⟨v2, vs2, d2, ds2, p2, q2, rfl, rfl, rfl, h2, r2⟩ := trodAll_cons r1
  obtain ⟨v3, vs3, d3, ds3, p3, q3, rfl, rfl, rfl, h3, r3⟩ := trodAll_cons r2
  obtain ⟨v4, vs4, d4, ds4, p4, q4, rfl, rfl, rfl, h4, r4⟩ := trodAll_cons r3
  obtain ⟨v5, vs5, d5, ds5, p5, q5, rfl, rfl, rfl, h5, r5⟩ := trodAll_cons r4
  obtain ⟨v6, vs6, d6, ds6, p6, q6, rfl, rfl, rfl, h6, r6⟩ := trodAll_cons r5
  obtain ⟨rfl, rfl, rfl⟩ := trodAll_nil r6
  obtain rfl : args = #[v0, v1, v2, v3, v4, v5, v6] := by cases args; simp_all
  obtain ⟨rfl, rfl⟩ := trodVars_none hV
  obtain ⟨a0, rfl, rfl, rfl, w0⟩ := open_int Try.underlying3 (hval 0 3 v0 rfl rfl) h0
  obtain ⟨a2, rfl, rfl, rfl, w2⟩ := open_int Try.underlying3 (hval 2 3 v2 rfl rfl) h2
  obtain ⟨a3, rfl, rfl, rfl, w3⟩ := open_int Try.underlying3 (hval 3 3 v3 rfl rfl) h3
  obtain ⟨a4, rfl, rfl, rfl, w4⟩ := open_int Try.underlying3 (hval 4 3 v4 rfl rfl) h4
  obtain ⟨s5, rfl, rfl, rfl, w5⟩ := open_string Try.underlying9 (hval 5 9 v5 rfl rfl) h5
  obtain ⟨a6, rfl, rfl, rfl, w6⟩ := open_int Try.underlying3 (hval 6 3 v6 rfl rfl) h6
  obtain ⟨ad, len, cap, rfl⟩ := okWide_slice Try.underlying22 (hval 1 22 v1 rfl rfl)
  have k1 := h1
  have lt1 : ∀ x ∈ p1, x.block < W.heap.size := by obtain ⟨m, hm⟩ := k1; exact DataW.trod_lt m _ _ _ hm
  have hs5 : s5.size ≤ 140737488351232 := by
    have h := sized_string hsz (j := 5) (t := 9) rfl rfl
    simpa [reachBytes] using h
  obtain ⟨ss, hl, hn, hcap, hm, hss, hS⟩ : ∃ ss : List ByteArray, ss.length = len ∧ len ≤ 140737488351232 ∧ len ≤ cap ∧ cap ≤ maxLen ∧ (∀ s ∈ ss, s.size ≤ 140737488351232) ∧ Strs W ad ss := by
    obtain ⟨fuel, hf⟩ := h1
    rcases open_strings Try.underlying22 Try.underlying9 Try.cellsS hf with ⟨hcs, _⟩ | ⟨x, l, c, ss, hcs, _, hlc, hmc, hzl, hx, hcell, hws⟩
    · simp [Value.cells] at hcs
      obtain ⟨rfl, rfl, rfl⟩ := hcs
      exact ⟨[], rfl, by omega, by omega, by unfold maxLen; omega, by simp, by simp, .inl rfl⟩
    · simp [Value.cells] at hcs
      obtain ⟨rfl, rfl, rfl⟩ := hcs
      simp only [Prod.mk.injEq] at hx
      obtain ⟨hd2, hp2⟩ := hx
      subst hd2
      simp at hzl
      have hw2 := sized_slice hsz (j := 1) (t := 22) (e := 9) rfl rfl Try.underlying22
      rw [Try.bytesS] at hw2
      simp only [strs, List.length_map, List.length_take, List.length_drop, reachBytes] at hw2
      refine ⟨ss.take len, by simp; omega, by omega, hlc, hmc, fun s hs => ?_, fun s hs => hws s (List.mem_of_mem_take hs), ?_⟩
      · have hmem : s.size ∈ (DataW.slice (strs (ss.take len)) (strs (ss.drop len)) : DataW H).weights Try.prog 22 := by
          simp only [DataW.weights, Try.underlying22]
          exact List.mem_cons_of_mem _ (List.mem_append_left _ (mem_weights_strs _ _ _ s hs))
        have hall := DataW.weights_mem_each (ts := [3, 22, 3, 3, 3, 9, 3] ++ Rows.digestHoldsSpec.plain.varTypes Try.prog) (ds := [.lit (.int .i64 a0), .slice (strs (ss.take len)) (strs (ss.drop len)), .lit (.int .i64 a2), .lit (.int .i64 a3), .lit (.int .i64 a4), .lit (.string s5.data.toList), .lit (.int .i64 a6)] ++ []) (j := 1) rfl rfl _ hmem
        exact of_decide_eq_true (List.all_eq_true.1 hsz _ hall)
      · by_cases h0 : len = 0
        · left; simp [h0]
        · right
          obtain ⟨b, off, spot⟩ := x
          have hc := hcell 0 (by omega)
          have hspot : spot = none := by simpa [Addr.add] using World.cell?_spot hc
          subst hspot
          have hlt := World.block_lt_of_cell? W _ hc
          refine ⟨b, off, rfl, by simpa [Addr.add] using hlt, fun i hi => ?_⟩
          have hi' : i < ss.length := by simp at hi; omega
          have hci := hcell i hi'
          rw [show (⟨b, off, none⟩ : Addr).add i = ⟨b, off + i, none⟩ by unfold Addr.add; split <;> simp_all] at hci
          rw [hci]
          simp [List.getD, hi']
  clear hA0 hval0
  refine (walk a0 ad len cap ss a2 a3 a4 s5 a6 W (bounds_i64 w0) (bounds_i64 w2) (bounds_i64 w3) (bounds_i64 w4) hs5 hl hn hcap hm hss hS).mono fun e W' ⟨he, bel⟩ => ?_
  subst he
  exact ⟨_, rfl, _, _, _, [], _, [], hW', trodAll_mk1 (shut_bool Try.underlying4 _), (trodAll_cons_mk (shut_int Try.underlying3 w0) (trodAll_cons_mk (Below.trod laidOut (by kernel_rfl) (of_decide_eq_true (by kernel_rfl)) k1 bel lt1) (trodAll_cons_mk (shut_int Try.underlying3 w2) (trodAll_cons_mk (shut_int Try.underlying3 w3) (trodAll_cons_mk (shut_int Try.underlying3 w4) (trodAll_cons_mk (shut_string Try.underlying9 w5) (trodAll_cons_mk (shut_int Try.underlying3 w6) trodAll_mk0))))))), rfl, bel.frame _, fun h => by cases h⟩

theorem over : Rows.digestHoldsRow.holds Try.pinned (OpenSpec.ofChange Rows.digestHoldsSpec) :=
  OpenClaim.holds_of_wide 4 Try.f4 rfl rfl rfl rfl rfl rfl rfl ⟨rfl, rfl, rfl, rfl, rfl⟩ rfl rfl rfl rfl rfl (by kernel_rfl) Try.func4 (by kernel_rfl)
    (of_decide_eq_true (by kernel_rfl)) (by unfold Func.isWrapper; first | (rw [if_pos (by decide +kernel)]; kernel_rfl) | (rw [if_neg (by decide +kernel)]; exact ⟨rfl, rfl⟩))
    (fun os started H enc _ => lifted os started H enc)

end Go.Proofs.Ytabimdlooddcoaa.digestHolds
namespace Go.Proofs.Ytabimdlooddcoaa

/-- The statement. -/
theorem digestHolds_holds : Rows.DigestHoldsSaid := digestHolds.over
end Go.Proofs.Ytabimdlooddcoaa
