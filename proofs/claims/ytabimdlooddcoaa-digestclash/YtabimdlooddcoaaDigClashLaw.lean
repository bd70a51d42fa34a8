/- DigestClash: where two unlike leaves hold at one place the program tells two unlike images of one digest, the same that the answer tells; else it tells none. No condition. -/
import Derived.Test.YtabimdlooddcoaaRows
import Derived.Test.YtabimdlooddcoaaDigHoldsLaw
import Derived.Test.YtabimdlooddcoaaDigClb
import Derived.WalkKit
import Derived.ProofKit
import Derived.OpenShut
import Derived.ShutString
import Derived.ChangeOld
import Derived.Below
import Derived.SizedLaws
import Derived.SliceStrings
import Derived.Deep.RegionHeld3
import Derived.Deep.DeepCutAuto
namespace Go.Proofs.Ytabimdlooddcoaa.digestClash
open Go.ChangeShapes Go.WideShapes Go.ChangeAt Go.RowKit
open Go.ChangeMaps (open_string shut_string)
open digestHolds
set_option linter.unusedVariables false

theorem bel_alloc {wB w : World} (h : Below wB.heap.size wB w) (o : Obj) : Below wB.heap.size wB (w.alloc o) := h.alloc h.size o
theorem bel_set {wB w : World} {p : Addr} (h : Below wB.heap.size wB w) (hp : wB.heap.size ≤ p.block) (v : Value) : Below wB.heap.size wB (w.setCell p v) := h.setCell hp v
def CF (w : World) (b : Nat) : Prop := (w.cell? ⟨b, 0, none⟩ = some (.int .i64 0) ∧ w.cell? ⟨b, 1, none⟩ = some (.slice none 0 0)) ∧ w.frozen? ⟨b, 0, none⟩ = false ∧ w.frozen? ⟨b, 1, none⟩ = false ∧ b < w.heap.size
theorem blk_cf {w : World} {b : Nat} (h : Blk w b #[.int .i64 0, .slice none 0 0] 30) : CF w b := by
  have h0 := h.cell 0
  have h1 := h.cell 1
  simp at h0 h1
  exact ⟨⟨h0, h1⟩, h.frozen 0, h.frozen 1, h.lt⟩
theorem own_one {w w' : World} (hb : Below (w.alloc (.cells #[.int .i64 0, .slice none 0 0] 30)).drew.heap.size (w.alloc (.cells #[.int .i64 0, .slice none 0 0] 30)).drew w') :
    Blk w' w.heap.size #[.int .i64 0, .slice none 0 0] 30 ∧ CF w' w.heap.size := by
  have h := (Blk.new w #[.int .i64 0, .slice none 0 0] 30).drew.below hb (by show _ < (w.alloc (.cells #[.int .i64 0, .slice none 0 0] 30)).heap.size; simp)
  exact ⟨h, blk_cf h⟩
theorem own_two {w w' : World} (hb : Below ((w.alloc (.cells #[.int .i64 0, .slice none 0 0] 30)).alloc (.cells #[.int .i64 0, .slice none 0 0] 30)).drew.heap.size ((w.alloc (.cells #[.int .i64 0, .slice none 0 0] 30)).alloc (.cells #[.int .i64 0, .slice none 0 0] 30)).drew w') :
    (Blk w' w.heap.size #[.int .i64 0, .slice none 0 0] 30 ∧ CF w' w.heap.size) ∧ Blk w' (w.heap.size + 1) #[.int .i64 0, .slice none 0 0] 30 ∧ CF w' (w.heap.size + 1) := by
  have h1 := ((Blk.new w #[.int .i64 0, .slice none 0 0] 30).alloc (.cells #[.int .i64 0, .slice none 0 0] 30)).drew.below hb (by show _ < ((w.alloc (.cells #[.int .i64 0, .slice none 0 0] 30)).alloc (.cells #[.int .i64 0, .slice none 0 0] 30)).heap.size; simp; omega)
  have h2 := (Blk.new (w.alloc (.cells #[.int .i64 0, .slice none 0 0] 30)) #[.int .i64 0, .slice none 0 0] 30).drew.below hb (by show _ < ((w.alloc (.cells #[.int .i64 0, .slice none 0 0] 30)).alloc (.cells #[.int .i64 0, .slice none 0 0] 30)).heap.size; simp)
  rw [World.size_alloc] at h2
  exact ⟨⟨h1, blk_cf h1⟩, h2, blk_cf h2⟩

theorem strs_seti {w : World} {z : Option Addr} {ss : List ByteArray} (h : Strs w z ss) {a : Nat} {t : TypeId} {x : Int} {a1 : Option Addr} {n1 c1 : Nat} (h1 : Blk w a #[.int .i64 x, .slice a1 n1 c1] t) (u0 u1 : Value) :
    Strs ((w.setCell ⟨a, 0, none⟩ u0).setCell ⟨a, 1, none⟩ u1) z ss := by
  refine ⟨h.1, ?_⟩
  rcases h.2 with h0 | ⟨g, off, rfl, hlt, hc⟩
  · exact .inl h0
  · by_cases h0 : ss = []
    · exact .inl h0
    · have hpos : 0 < ss.length := List.length_pos_iff.2 h0
      have hf := hc 0 hpos
      have ha : g ≠ a := fun e => by
        subst e
        rw [h1.cell] at hf
        rcases Nat.lt_or_ge (off + 0) 2 with hh | hh
        · have : off + 0 = 0 ∨ off + 0 = 1 := by omega
          rcases this with e | e <;> rw [e] at hf <;> simp at hf
        · rw [Array.getElem?_eq_none (by simpa using hh)] at hf; cases hf
      refine .inr ⟨g, off, rfl, by simp only [size_setCell]; exact hlt, fun i hi => ?_⟩
      rw [cell_off _ _ _ (by exact Ne.symm ha), cell_off _ _ _ (by exact Ne.symm ha)]
      exact hc i hi
theorem blk_seti {w : World} {a : Nat} {t : TypeId} {x y : Value} (h1 : Blk w a #[x, y] t) (u0 u1 : Value) :
    Blk ((w.setCell ⟨a, 0, none⟩ u0).setCell ⟨a, 1, none⟩ u1) a #[u0, u1] t := (h1.set 0 u0).set 1 u1
theorem blk_setother {w : World} {a b : Nat} {t : TypeId} {cs : Array Value} (hab : b ≠ a) (h1 : Blk w b cs t) (u0 u1 : Value) :
    Blk ((w.setCell ⟨a, 0, none⟩ u0).setCell ⟨a, 1, none⟩ u1) b cs t := (h1.setOther ⟨a, 0, none⟩ hab u0).setOther ⟨a, 1, none⟩ hab u1
theorem strs_alloc {w : World} {z : Option Addr} {ss : List ByteArray} (h : Strs w z ss) (o : Obj) : Strs (w.alloc o) z ss := h.below ((Below.refl _ _).alloc (Nat.le_refl _) o)

/-- Two images in two new variables, and whether they were found. -/
def Two (wB : World) (O : Option ((Int × List ByteArray) × (Int × List ByteArray))) (av bv fv : Value) (wx : World) : Prop :=
  ∃ (A B : Nat) (t1 t2 : Int) (s1 s2 : List ByteArray) (a1 a2 : Option Addr) (k1 k2 : Nat), av = .pointer (some ⟨A, 0, none⟩) ∧ bv = .pointer (some ⟨B, 0, none⟩) ∧ fv = .bool O.isSome ∧
    Blk wx A #[.int .i64 t1, .slice a1 s1.length k1] 30 ∧ Blk wx B #[.int .i64 t2, .slice a2 s2.length k2] 30 ∧ Strs wx a1 s1 ∧ Strs wx a2 s2 ∧ s1.length ≤ 2 ∧ s2.length ≤ 2 ∧
    O.getD ((0, []), (0, [])) = ((t1, s1), (t2, s2)) ∧ Below wB.heap.size wB wx ∧ wB.heap.size ≤ A ∧ wB.heap.size ≤ B

section
variable {wB w3 : World} {O : Option ((Int × List ByteArray) × (Int × List ByteArray))} {t1 t2 : Int} {s1 s2 : List ByteArray} {a1 a2 : Option Addr} {k1 k2 : Nat}
theorem two_a (hN : Below wB.heap.size wB w3) (S1 : Strs w3 a1 s1) (S2 : Strs w3 a2 s2) (l1 : s1.length ≤ 2) (l2 : s2.length ≤ 2) (hg : O.getD ((0, []), (0, [])) = ((t1, s1), (t2, s2))) :
    Two wB O (.pointer (some ⟨w3.heap.size, 0, none⟩)) (.pointer (some ⟨w3.heap.size + 1, 0, none⟩)) (.bool O.isSome) ((w3.alloc (.cells #[.int .i64 t1, .slice a1 s1.length k1] 30)).alloc (.cells #[.int .i64 t2, .slice a2 s2.length k2] 30)) := by
  have hB := Blk.new (w3.alloc (.cells #[.int .i64 t1, .slice a1 s1.length k1] 30)) #[.int .i64 t2, .slice a2 s2.length k2] 30
  rw [World.size_alloc] at hB
  exact ⟨_, _, t1, t2, s1, s2, a1, a2, k1, k2, rfl, rfl, rfl, (Blk.new w3 _ _).alloc _, hB, strs_alloc (strs_alloc S1 _) _, strs_alloc (strs_alloc S2 _) _, l1, l2, hg, bel_alloc (bel_alloc hN _) _, hN.size, Nat.le_succ_of_le hN.size⟩
theorem two_b (hN : Below wB.heap.size wB w3) (S1 : Strs w3 a1 s1) (S2 : Strs w3 a2 s2) (l1 : s1.length ≤ 2) (l2 : s2.length ≤ 2) (hg : O.getD ((0, []), (0, [])) = ((t1, s1), (t2, s2))) :
    Two wB O (.pointer (some ⟨w3.heap.size + 1, 0, none⟩)) (.pointer (some ⟨w3.heap.size, 0, none⟩)) (.bool O.isSome) ((w3.alloc (.cells #[.int .i64 t2, .slice a2 s2.length k2] 30)).alloc (.cells #[.int .i64 t1, .slice a1 s1.length k1] 30)) := by
  have hB := Blk.new (w3.alloc (.cells #[.int .i64 t2, .slice a2 s2.length k2] 30)) #[.int .i64 t1, .slice a1 s1.length k1] 30
  rw [World.size_alloc] at hB
  exact ⟨_, _, t1, t2, s1, s2, a1, a2, k1, k2, rfl, rfl, rfl, hB, (Blk.new w3 _ _).alloc _, strs_alloc (strs_alloc S1 _) _, strs_alloc (strs_alloc S2 _) _, l1, l2, hg, bel_alloc (bel_alloc hN _) _, Nat.le_succ_of_le hN.size, hN.size⟩
theorem two_c (hN : Below wB.heap.size wB w3) (S1 : Strs w3 a1 s1) (S2 : Strs w3 a2 s2) (l1 : s1.length ≤ 2) (l2 : s2.length ≤ 2) (hg : O.getD ((0, []), (0, [])) = ((t1, s1), (t2, s2))) (ob : Blk w3 wB.heap.size #[.int .i64 0, .slice none 0 0] 30) :
    Two wB O (.pointer (some ⟨wB.heap.size, 0, none⟩)) (.pointer (some ⟨w3.heap.size, 0, none⟩)) (.bool O.isSome) (((w3.setCell ⟨wB.heap.size, 0, none⟩ (.int .i64 t1)).setCell ⟨wB.heap.size, 1, none⟩ (.slice a1 s1.length k1)).alloc (.cells #[.int .i64 t2, .slice a2 s2.length k2] 30)) := by
  have hB := Blk.new ((w3.setCell ⟨wB.heap.size, 0, none⟩ (.int .i64 t1)).setCell ⟨wB.heap.size, 1, none⟩ (.slice a1 s1.length k1)) #[.int .i64 t2, .slice a2 s2.length k2] 30
  rw [size_setCell, size_setCell] at hB
  exact ⟨_, _, t1, t2, s1, s2, a1, a2, k1, k2, rfl, rfl, rfl, (blk_seti ob _ _).alloc _, hB, strs_alloc (strs_seti S1 ob _ _) _, strs_alloc (strs_seti S2 ob _ _) _, l1, l2, hg, bel_alloc (bel_set (bel_set hN (Nat.le_refl _) _) (Nat.le_refl _) _) _, Nat.le_refl _, hN.size⟩
theorem two_d (hN : Below wB.heap.size wB w3) (S1 : Strs w3 a1 s1) (S2 : Strs w3 a2 s2) (l1 : s1.length ≤ 2) (l2 : s2.length ≤ 2) (hg : O.getD ((0, []), (0, [])) = ((t1, s1), (t2, s2))) (ob : Blk w3 wB.heap.size #[.int .i64 0, .slice none 0 0] 30) :
    Two wB O (.pointer (some ⟨w3.heap.size, 0, none⟩)) (.pointer (some ⟨wB.heap.size, 0, none⟩)) (.bool O.isSome) (((w3.setCell ⟨wB.heap.size, 0, none⟩ (.int .i64 t2)).setCell ⟨wB.heap.size, 1, none⟩ (.slice a2 s2.length k2)).alloc (.cells #[.int .i64 t1, .slice a1 s1.length k1] 30)) := by
  have hB := Blk.new ((w3.setCell ⟨wB.heap.size, 0, none⟩ (.int .i64 t2)).setCell ⟨wB.heap.size, 1, none⟩ (.slice a2 s2.length k2)) #[.int .i64 t1, .slice a1 s1.length k1] 30
  rw [size_setCell, size_setCell] at hB
  exact ⟨_, _, t1, t2, s1, s2, a1, a2, k1, k2, rfl, rfl, rfl, hB, (blk_seti ob _ _).alloc _, strs_alloc (strs_seti S1 ob _ _) _, strs_alloc (strs_seti S2 ob _ _) _, l1, l2, hg, bel_alloc (bel_set (bel_set hN (Nat.le_refl _) _) (Nat.le_refl _) _) _, hN.size, Nat.le_refl _⟩
theorem two_e {x y : Nat} (hxy : x ≠ y) (hx : wB.heap.size ≤ x) (hy : wB.heap.size ≤ y) (hN : Below wB.heap.size wB w3) (S1 : Strs w3 a1 s1) (S2 : Strs w3 a2 s2) (l1 : s1.length ≤ 2) (l2 : s2.length ≤ 2) (hg : O.getD ((0, []), (0, [])) = ((t1, s1), (t2, s2))) (ob : Blk w3 x #[.int .i64 0, .slice none 0 0] 30) (oc : Blk w3 y #[.int .i64 0, .slice none 0 0] 30) :
    Two wB O (.pointer (some ⟨x, 0, none⟩)) (.pointer (some ⟨y, 0, none⟩)) (.bool O.isSome) ((((w3.setCell ⟨x, 0, none⟩ (.int .i64 t1)).setCell ⟨x, 1, none⟩ (.slice a1 s1.length k1)).setCell ⟨y, 0, none⟩ (.int .i64 t2)).setCell ⟨y, 1, none⟩ (.slice a2 s2.length k2)) := by
  have oc' := blk_setother (Ne.symm hxy) oc (.int .i64 t1) (.slice a1 s1.length k1)
  exact ⟨_, _, t1, t2, s1, s2, a1, a2, k1, k2, rfl, rfl, rfl, blk_setother hxy (blk_seti ob _ _) _ _, blk_seti oc' _ _, strs_seti (strs_seti S1 ob _ _) oc' _ _, strs_seti (strs_seti S2 ob _ _) oc' _ _, l1, l2, hg,
    bel_set (bel_set (bel_set (bel_set hN hx _) hx _) hy _) hy _, hx, hy⟩
end

set_option maxRecDepth 20000 in
set_option maxHeartbeats 12800000 in
theorem walk (wd : Int) (a : Option Addr) (n cap : Nat) (ss : List ByteArray) (i how d : Int) (s : ByteArray) (w : World) (hw : -9223372036854775808 ≤ wd ∧ wd ≤ 9223372036854775807) (hi : -9223372036854775808 ≤ i ∧ i ≤ 9223372036854775807)
    (hh : -9223372036854775808 ≤ how ∧ how ≤ 9223372036854775807) (hd : -9223372036854775808 ≤ d ∧ d ≤ 9223372036854775807) (hsm : s.size ≤ 140737488351232)
    (hl : ss.length = n) (hn : n ≤ 140737488351232) (hcap : n ≤ cap) (hm : cap ≤ maxLen) (hsz : ∀ s ∈ ss, s.size ≤ 140737488351232) (hs : Strs w a ss) :
    Calls Try.prog 5 #[.int .i64 wd, .slice a n cap, .int .i64 i, .string s, .int .i64 how, .int .i64 d] w fun e w' => e = .returned (.bool true) ∧ Below w.heap.size w w' := by
  have hsu := sum_le ss hn hsz hl
  by_cases hbig : 65536 < sumP ss + s.size
  · have hbig' : (65536 : Int) < (sumP ss : Int) + (s.size : Int) := by omega
    go_enter Try.func5, Try.ntmps5
    go_wp2_with fail
    refine (sum_any a n cap ss _ hn hsz hl hs).mono ?_
    rintro e w1 ⟨rfl, rfl⟩
    go_wp2
    go_ret
    exact ⟨rfl, Below.refl _ _⟩
  · have hge := sumF_ge ss ss.length
    have hbig' : ¬ (65536 : Int) < (sumP ss : Int) + (s.size : Int) := by omega
    have hn2 : n ≤ 65536 := by unfold sumP at hbig; omega
    have hsx : s.size ≤ maxLen := by unfold maxLen; omega
    have HL := show Hid (_ = _) from hl
    clear hl hge hbig
    by_cases hin : 0 ≤ i ∧ i < n
    · obtain ⟨k, rfl⟩ := Int.eq_ofNat_of_zero_le hin.1
      have hk : k < n := by omega
      obtain ⟨b, off, rfl⟩ := hs.some_of (by rw [HL.out]; omega)
      have hck : ∃ sk, ss[k]? = some sk := ⟨ss[k]'(by rw [HL.out]; exact hk), List.getElem?_eq_getElem (by rw [HL.out]; exact hk)⟩
      obtain ⟨sk, hsk⟩ := hck
      have hskz : sk.size ≤ maxLen := hs.1 sk (List.mem_of_getElem? hsk)
      have Hpath := show Hid (_ = _) from holds_path wd ss n k sk HL.out (by omega) hsk
      have hslen := sides_len wd ss n k HL.out hk
      have hsbd : ∀ d ∈ sidesP wd ss k, 0 ≤ d ∧ d ≤ 18446744073709551615 := sides_bd wd _ ss k
      obtain ⟨hbl, hck⟩ : b < w.heap.size ∧ w.cell? ⟨b, off + k, none⟩ = some (.string sk) := by
        rcases hs.2 with h0 | ⟨b', off', he, hlt, hc⟩
        · subst h0; simp at hsk
        · simp at he; obtain ⟨rfl, rfl⟩ := he
          have hkl := (List.getElem?_eq_some_iff.1 hsk).1
          refine ⟨hlt, ?_⟩
          rw [hc k hkl]
          rw [List.getElem?_eq_getElem hkl] at hsk
          rw [Option.some.inj hsk]
      clear hsk
      have hk1 : (k : Int) < (n : Int) := by omega
      have hk0 : (0 : Int) ≤ (k : Int) := by omega
      have hkk1 : decide ((k : Int) < 0) = false := by simp
      have hkk2 : decide ((n : Int) ≤ (k : Int)) = false := by simp; omega
      go_enter Try.func5, Try.ntmps5
      go_wp2_with fail
      refine (sum_any _ n cap ss _ hn hsz HL.out hs).mono ?_
      rintro e w1 ⟨rfl, rfl⟩
      go_wp2_with fail
      refine (root_any wd _ n cap ss _ hw (by omega) HL.out hcap hm hs).mono ?_
      rintro e w1 ⟨rfl, b1⟩
      go_wp2_with fail
      refine (path_some wd b off n cap k ss _ hw (by omega) HL.out hcap hm (hs.below b1) hk).mono ?_
      rintro e w2 ⟨v6, rfl, r6, b2'⟩
      have b2 := b1.trans (b2'.mono b1.size)
      obtain ⟨a6, c6, hv6⟩ := r6.form
      subst hv6
      rw [List.length_map] at *
      have bA : Below w.heap.size w (w2.alloc (.cells #[.int .i64 n, .int .i64 k, .slice a6 (sidesP wd ss k).length c6] 34)) := b2.alloc b2.size _
      have r6' := r6.below ((Below.refl _ _).alloc (Nat.le_refl _) (.cells #[.int .i64 n, .int .i64 k, .slice a6 (sidesP wd ss k).length c6] 34))
      have kp := Blk.new w2 #[.int .i64 n, .int .i64 k, .slice a6 (sidesP wd ss k).length c6] 34
      have hb2 : b < w2.heap.size := Nat.lt_of_lt_of_le hbl b2.size
      go_wp2_with fail
      refine (spoil_any (n : Int) (k : Int) how d (.slice a6 (sidesP wd ss k).length c6) (sidesP wd ss k) _ r6' hsbd (by omega) (by omega) (by omega) hh hd).mono ?_
      rintro e wq ⟨v, rfl, ⟨c2, i2, ds2, sq, rfl, rq, hd2, hc2, hi2⟩, bq⟩
      obtain ⟨qa, qc, hqv⟩ := rq.form
      subst hqv
      have bbq := (bA.trans (bq.mono bA.size)).alloc (Nat.le_trans bA.size bq.size) (.cells #[.int .i64 c2, .int .i64 i2, .slice qa (ds2.map (Value.int .u64)).length qc] 34)
      have kQ := Blk.new wq #[.int .i64 c2, .int .i64 i2, .slice qa (ds2.map (Value.int .u64)).length qc] 34
      have kP := (kp.below bq kp.lt).alloc (.cells #[.int .i64 c2, .int .i64 i2, .slice qa (ds2.map (Value.int .u64)).length qc] 34)
      have rQ := rq.below ((Below.refl _ _).alloc (Nat.le_refl _) (.cells #[.int .i64 c2, .int .i64 i2, .slice qa (ds2.map (Value.int .u64)).length qc] 34))
      have rP := (r6'.below bq).below ((Below.refl _ _).alloc (Nat.le_refl _) (.cells #[.int .i64 c2, .int .i64 i2, .slice qa (ds2.map (Value.int .u64)).length qc] 34))
      rw [List.length_map] at *
      have e0 : (wq.alloc (.cells #[.int .i64 c2, .int .i64 i2, .slice qa ds2.length qc] 34)).cell? ⟨b, off + k, none⟩ = some (.string sk) := by rw [bbq.cell (p := ⟨b, off + k, none⟩) hbl]; exact hck
      have hbB : b < (wq.alloc (.cells #[.int .i64 c2, .int .i64 i2, .slice qa ds2.length qc] 34)).heap.size := Nat.lt_of_lt_of_le hbl bbq.size
      clear rq r6 r6' kp bA b1 b2 b2' bq hck
      generalize hRR : rootP wd ss = R at *
      generalize hDD : sidesP wd ss k = D at *
      generalize hPB : w2.heap.size = P at *
      generalize hQB : wq.heap.size = Q at *
      go_wp2_with fail
      generalize hWB : wq.alloc (.cells #[.int .i64 c2, .int .i64 i2, .slice qa ds2.length qc] 34) = wB at *
      clear hWB hQB hPB hRR hDD hsz hsu HL hs hslen hm hcap hn hsm hbig' hb2 hkk1 hkk2 hin hn2
      clear hh hd
      have z1 := kP.lt
      have z2 := kQ.lt
      have c0 := kP.cell 0
      have c1 := kP.cell 1
      have c2' := kP.cell 2
      have d0 := kQ.cell 0
      have d1 := kQ.cell 1
      have d2 := kQ.cell 2
      simp only [List.getElem?_toArray, List.getElem?_cons_succ, List.getElem?_cons_zero] at c0 c1 c2' d0 d1 d2
      have hE : ∀ w', Below wB.heap.size wB w' → w'.cell? ⟨b, off + k, none⟩ = some (.string sk) := fun w' h => by rw [h.cell (p := ⟨b, off + k, none⟩) hbB]; exact e0
      have hP0 : ∀ w', Below wB.heap.size wB w' → w'.cell? ⟨P, 0, none⟩ = some (.int .i64 n) := fun w' h => by rw [h.cell (p := ⟨P, 0, none⟩) z1]; exact c0
      have hP1 : ∀ w', Below wB.heap.size wB w' → w'.cell? ⟨P, 1, none⟩ = some (.int .i64 k) := fun w' h => by rw [h.cell (p := ⟨P, 1, none⟩) z1]; exact c1
      have hP2 : ∀ w', Below wB.heap.size wB w' → w'.cell? ⟨P, 2, none⟩ = some (.slice a6 D.length c6) := fun w' h => by rw [h.cell (p := ⟨P, 2, none⟩) z1]; exact c2'
      have hQ0 : ∀ w', Below wB.heap.size wB w' → w'.cell? ⟨Q, 0, none⟩ = some (.int .i64 c2) := fun w' h => by rw [h.cell (p := ⟨Q, 0, none⟩) z2]; exact d0
      have hQ1 : ∀ w', Below wB.heap.size wB w' → w'.cell? ⟨Q, 1, none⟩ = some (.int .i64 i2) := fun w' h => by rw [h.cell (p := ⟨Q, 1, none⟩) z2]; exact d1
      have hQ2 : ∀ w', Below wB.heap.size wB w' → w'.cell? ⟨Q, 2, none⟩ = some (.slice qa ds2.length qc) := fun w' h => by rw [h.cell (p := ⟨Q, 2, none⟩) z2]; exact d2
      generalize hOO : clashP wd R sk (n : Int) (k : Int) D s c2 i2 ds2 = O
      have HO := show Hid (_ = _) from hOO
      have HCL : ∀ w', Below wB.heap.size wB w' → Calls Try.prog 19 #[.int .i64 wd, .int .u64 R, .string sk, .agg #[.int .i64 n, .int .i64 k, .slice a6 D.length c6], .string s, .agg #[.int .i64 c2, .int .i64 i2, .slice qa ds2.length qc]] w' fun e w'' => ∃ u, e = .returned u ∧ Told w'' O u ∧ Below w'.heap.size w' w'' :=
        fun w' h => hOO ▸ clash_any wd R (n : Int) (k : Int) c2 i2 sk s _ _ w' D ds2 hw hskz hsx (rP.below h) hsbd (rQ.below h) hd2
      have HLC : ∀ w', Below wB.heap.size wB w' → Calls Try.prog 20 #[.int .i64 wd, .int .u64 R, .string sk, .agg #[.int .i64 n, .int .i64 k, .slice a6 D.length c6], .string s, .agg #[.int .i64 c2, .int .i64 i2, .slice qa ds2.length qc]] w' fun e w'' => ∃ u, e = .returned u ∧ Told w'' O u ∧ Below w'.heap.size w' w'' :=
        fun w' h => hOO ▸ listClash_any wd R (n : Int) (k : Int) c2 i2 sk s _ _ w' D ds2 hw hskz hsx (rP.below h) hsbd (rQ.below h) hd2
      have HHo : ∀ w', Below wB.heap.size wB w' → Calls Try.prog 15 #[.int .i64 wd, .int .u64 R, .string s, .agg #[.int .i64 c2, .int .i64 i2, .slice qa ds2.length qc]] w' fun e w'' => e = .returned (.bool (holdsP wd R s c2 i2 ds2)) ∧ Below w'.heap.size w' w'' :=
        fun w' h => holds_any wd R c2 i2 s _ w' ds2 hw hsx (rQ.below h) hd2
      clear hOO e0 c0 c1 c2' d0 d1 d2 kP kQ rP rQ hsbd hd2 hskz hsx z1 z2
      have bw : Below wB.heap.size wB wB := Below.refl _ _
      go_cut [17, 18, 19] (fun av bv fv wx => Two wB O av bv fv wx)
      case first =>
        go_region_held3 (fun w' => Below wB.heap.size wB w') (repeat (first | exact bw.drew | exact hNext | assumption | refine Below.drew ?_ | exact bw | refine bel_alloc ?_ _ | refine bel_set ?_ ?_ _ | exact Nat.le_refl _ | exact hNext.size | exact Nat.le_succ _ | exact Nat.le_succ_of_le hNext.size))
          (first
          | (go_at_call 19
             refine (HCL _ (by assumption)).mono ?_
             rintro e w3 ⟨u, rfl, ⟨t1, t2, s1, s2, a1, a2, k1, k2, rfl, S1, S2, l1, l2, hg⟩, b3⟩
             have hNext : Below wB.heap.size wB w3 := Below.trans (by assumption) (b3.mono (Below.size (by assumption)))
             (try have ow1 := own_one b3)
             (try have ow2 := own_two b3)
             (try (obtain ⟨ob1, ⟨oc1, oc2⟩, oc3, oc4, oc5⟩ := ow1))
             (try (obtain ⟨⟨ob1, ⟨oc1, oc2⟩, oc3, oc4, oc5⟩, ob2, ⟨od1, od2⟩, od3, od4, od5⟩ := ow2))))
        all_goals (
          go_wp2
          go_meet
          first
          | exact two_a hNext S1 S2 l1 l2 hg
          | exact two_b hNext S1 S2 l1 l2 hg
          | exact two_c hNext S1 S2 l1 l2 hg ob1
          | exact two_d hNext S1 S2 l1 l2 hg ob1
          | exact two_e (by omega) (by omega) (by omega) hNext S1 S2 l1 l2 hg ob1 ob2
          | exact two_e (by omega) (by omega) (by omega) hNext S1 S2 l1 l2 hg ob2 ob1)
      case rest =>
        obtain ⟨A, B, t1, t2, s1, s2, a1, a2, k1, k2, rfl, rfl, rfl, kA, kB, S1, S2, l1, l2, HG, bC, hA, hBl⟩ := hcut
        have HG1 := show Hid (_ = _) from HG
        clear HG HCL
        have gE : ∀ w', Below wc.heap.size wc w' → w'.cell? ⟨b, off + k, none⟩ = some (.string sk) := fun w' h => hE w' (bC.trans (h.mono bC.size))
        have gP0 : ∀ w', Below wc.heap.size wc w' → w'.cell? ⟨P, 0, none⟩ = some (.int .i64 n) := fun w' h => hP0 w' (bC.trans (h.mono bC.size))
        have gP1 : ∀ w', Below wc.heap.size wc w' → w'.cell? ⟨P, 1, none⟩ = some (.int .i64 k) := fun w' h => hP1 w' (bC.trans (h.mono bC.size))
        have gP2 : ∀ w', Below wc.heap.size wc w' → w'.cell? ⟨P, 2, none⟩ = some (.slice a6 D.length c6) := fun w' h => hP2 w' (bC.trans (h.mono bC.size))
        have gQ0 : ∀ w', Below wc.heap.size wc w' → w'.cell? ⟨Q, 0, none⟩ = some (.int .i64 c2) := fun w' h => hQ0 w' (bC.trans (h.mono bC.size))
        have gQ1 : ∀ w', Below wc.heap.size wc w' → w'.cell? ⟨Q, 1, none⟩ = some (.int .i64 i2) := fun w' h => hQ1 w' (bC.trans (h.mono bC.size))
        have gQ2 : ∀ w', Below wc.heap.size wc w' → w'.cell? ⟨Q, 2, none⟩ = some (.slice qa ds2.length qc) := fun w' h => hQ2 w' (bC.trans (h.mono bC.size))
        have GLC : ∀ w', Below wc.heap.size wc w' → Calls Try.prog 20 #[.int .i64 wd, .int .u64 R, .string sk, .agg #[.int .i64 n, .int .i64 k, .slice a6 D.length c6], .string s, .agg #[.int .i64 c2, .int .i64 i2, .slice qa ds2.length qc]] w' fun e w'' => ∃ u, e = .returned u ∧ Told w'' O u ∧ Below w'.heap.size w' w'' := fun w' h => HLC w' (bC.trans (h.mono bC.size))
        have GHo : ∀ w', Below wc.heap.size wc w' → Calls Try.prog 15 #[.int .i64 wd, .int .u64 R, .string s, .agg #[.int .i64 c2, .int .i64 i2, .slice qa ds2.length qc]] w' fun e w'' => e = .returned (.bool (holdsP wd R s c2 i2 ds2)) ∧ Below w'.heap.size w' w'' := fun w' h => HHo w' (bC.trans (h.mono bC.size))
        clear hE hP0 hP1 hP2 hQ0 hQ1 hQ2 HLC HHo bw
        have bF := bbq.trans (bC.mono bbq.size)
        clear hA hBl bC hbB bbq
        obtain ⟨wC, rfl⟩ : ∃ x, x = wc := ⟨wc, rfl⟩
        go_wp2_with fail
        have bw : Below wC.heap.size wC wC := Below.refl _ _
        go_cut [20, 21, 22] (fun av bv fv wx => Two wC O av bv fv wx)
        case first =>
          go_region_held3 (fun w' => Below wC.heap.size wC w') (repeat (first | exact bw.drew | exact hNext | assumption | refine Below.drew ?_ | exact bw | refine bel_alloc ?_ _ | refine bel_set ?_ ?_ _ | exact Nat.le_refl _ | exact hNext.size | exact Nat.le_succ _ | exact Nat.le_succ_of_le hNext.size))
            (first
            | (go_at_call 20
               refine (GLC _ (by assumption)).mono ?_
               rintro e w3 ⟨u, rfl, ⟨t1x, t2x, s1x, s2x, a1x, a2x, k1x, k2x, rfl, S1x, S2x, l1x, l2x, hgx⟩, b3⟩
               have hNext : Below wC.heap.size wC w3 := Below.trans (by assumption) (b3.mono (Below.size (by assumption)))
               (try have ow1 := own_one b3)
               (try have ow2 := own_two b3)
               (try (obtain ⟨ob1, ⟨oc1, oc2⟩, oc3, oc4, oc5⟩ := ow1))
               (try (obtain ⟨⟨ob1, ⟨oc1, oc2⟩, oc3, oc4, oc5⟩, ob2, ⟨od1, od2⟩, od3, od4, od5⟩ := ow2))))
          all_goals (
            go_wp2
            go_meet
            first
            | exact two_a hNext S1x S2x l1x l2x hgx
            | exact two_b hNext S1x S2x l1x l2x hgx
            | exact two_c hNext S1x S2x l1x l2x hgx ob1
            | exact two_d hNext S1x S2x l1x l2x hgx ob1
            | exact two_e (by omega) (by omega) (by omega) hNext S1x S2x l1x l2x hgx ob1 ob2
            | exact two_e (by omega) (by omega) (by omega) hNext S1x S2x l1x l2x hgx ob2 ob1)
        case rest =>
          obtain ⟨X, Y, t1x, t2x, s1x, s2x, a1x, a2x, k1x, k2x, rfl, rfl, rfl, kX, kY, S1x, S2x, l1x, l2x, HGx, bCx, hX, hY⟩ := hcut
          have e12 := HG1.out.symm.trans HGx
          simp only [Prod.mk.injEq] at e12
          obtain ⟨⟨rfl, rfl⟩, rfl, rfl⟩ := e12
          have kA' := kA.below bCx kA.lt
          have kB' := kB.below bCx kB.lt
          have S1' := S1.below bCx
          have S2' := S2.below bCx
          have m0 := gQ0 _ bCx
          have m1 := gQ1 _ bCx
          have m2 := gQ2 _ bCx
          have bF' := bF.trans (bCx.mono bF.size)
          clear kA kB S1 S2 HGx hX hY GLC gP0 gP1 gP2 bw
          go_wp2_with fail
          refine (GHo _ bCx).mono ?_
          rintro e w5 ⟨rfl, b5⟩
          have bCy := bCx.trans (b5.mono bCx.size)
          have kA5 := kA'.below b5 kA'.lt
          have kB5 := kB'.below b5 kB'.lt
          have kX5 := kX.below b5 kX.lt
          have kY5 := kY.below b5 kY.lt
          have U1 := S1'.below b5
          have U2 := S2'.below b5
          have V1 := S1x.below b5
          have V2 := S2x.below b5
          have bF5 := bF'.trans (b5.mono bF'.size)
          have mE := gE _ bCy
          clear m0 m1 m2
          have m0 := gQ0 _ bCy
          have m1 := gQ1 _ bCy
          have m2 := gQ2 _ bCy
          clear kA' kB' kX kY S1' S2' S1x S2x bCx b5 bF' bF bCy GHo gE gQ0 gQ1 gQ2
          have q0 := kA5.cell 0
          have q1 := kA5.cell 1
          have q2 := kB5.cell 0
          have q3 := kB5.cell 1
          have q4 := kX5.cell 0
          have q5 := kX5.cell 1
          have q6 := kY5.cell 0
          have q7 := kY5.cell 1
          simp only [List.getElem?_toArray, List.getElem?_cons_succ, List.getElem?_cons_zero] at q0 q1 q2 q3 q4 q5 q6 q7
          have hb5 : b < w5.heap.size := World.block_lt_of_cell? w5 _ mE
          by_cases h1 : holdsP wd R s c2 i2 ds2 = true
          · by_cases h2 : s = sk
            · rw [h1]
              subst h2
              have hN : clashP wd R s (n : Int) (k : Int) D s c2 i2 ds2 = none := clashP_none _ _ _ _ _ _ _ _ _ _ (.inl rfl)
              clear h1
              have e0 := HG1.out
              rw [show O = none from HO.out.symm.trans hN] at e0 ⊢
              simp only [Option.getD_none, Prod.mk.injEq] at e0
              obtain ⟨⟨rfl, rfl⟩, rfl, rfl⟩ := e0
              have HZ1 : Hid (([] : List ByteArray).length ≤ 4611686018427387904) := by show _ ≤ _; simp
              have HZ2 := HZ1
              clear hN HO HG1 Hpath
              go_wp2_with fail
              refine (same_any 0 0 a1 a1x k1 k1x [] [] _ U1 V1 HZ1.out HZ1.out).mono ?_
              rintro e w6 ⟨rfl, b6⟩
              rw [show alikeP (0, []) (0, []) = true by simp [alikeP]]
              have kA6 := kA5.below b6 kA5.lt
              have kB6 := kB5.below b6 kB5.lt
              have kX6 := kX5.below b6 kX5.lt
              have kY6 := kY5.below b6 kY5.lt
              have U1a := U1.below b6
              have U2a := U2.below b6
              have V2a := V2.below b6
              have bF6 := bF5.trans (b6.mono bF5.size)
              clear q0 q1 q2 q3 q4 q5 q6 q7 m0 m1 m2 mE hb5 U1 U2 V1 V2 kA5 kB5 kX5 kY5 b6 bF5
              have q0 := kA6.cell 0
              have q1 := kA6.cell 1
              have q2 := kB6.cell 0
              have q3 := kB6.cell 1
              have q6 := kY6.cell 0
              have q7 := kY6.cell 1
              simp only [List.getElem?_toArray, List.getElem?_cons_succ, List.getElem?_cons_zero] at q0 q1 q2 q3 q6 q7
              go_wp2_with fail
              refine (same_any 0 0 a2 a2x k2 k2x [] [] _ U2a V2a HZ2.out HZ2.out).mono ?_
              rintro e w7 ⟨rfl, b7⟩
              rw [show alikeP (0, []) (0, []) = true by simp [alikeP]]
              have kA7 := kA6.below b7 kA6.lt
              have kB7 := kB6.below b7 kB6.lt
              have U1b := U1a.below b7
              have U2b := U2a.below b7
              have bF7 := bF6.trans (b7.mono bF6.size)
              clear q0 q1 q2 q3 q6 q7 U1a U2a V2a kA6 kB6 kX6 kY6 b7 bF6
              have q0 := kA7.cell 0
              have q1 := kA7.cell 1
              have q2 := kB7.cell 0
              have q3 := kB7.cell 1
              simp only [List.getElem?_toArray, List.getElem?_cons_succ, List.getElem?_cons_zero] at q0 q1 q2 q3
              go_wp2
              go_ret
              exact ⟨rfl, bF7⟩
            · by_cases h3 : i2 = (k : Int)
              · skip
                obtain ⟨x, y, hN, hxy, hof⟩ := clashP_found wd R sk (n : Int) (k : Int) D s c2 i2 ds2 (fun e => h2 e.symm) h3.symm Hpath.out h1
                have t1' : (!s.toList == sk.toList) = true := by simpa using fun e => h2 (bytes_eq e)
                have t2' : (s.toList == sk.toList) = false := by simpa using fun e => h2 (bytes_eq e)
                rw [h1]
                subst h3
                obtain ⟨x1, x2⟩ := x
                obtain ⟨y1, y2⟩ := y
                have e0 := HG1.out
                rw [show O = some ((x1, x2), (y1, y2)) from HO.out.symm.trans hN] at e0 ⊢
                simp only [Option.getD_some, Prod.mk.injEq] at e0
                obtain ⟨⟨rfl, rfl⟩, rfl, rfl⟩ := e0
                have HZ1 : Hid (x2.length ≤ 4611686018427387904) := by show _ ≤ _; omega
                have HZ2 : Hid (y2.length ≤ 4611686018427387904) := by show _ ≤ _; omega
                have HZ3 : Hid (x2.length ≤ maxLen) := by show _ ≤ _; unfold maxLen; omega
                have HZ4 : Hid (y2.length ≤ maxLen) := by show _ ≤ _; unfold maxLen; omega
                have Hxy := show Hid (_ ≠ _) from hxy
                have Hof := show Hid (_ = _) from hof
                clear hN HO HG1 Hpath hxy hof h1 h2 l1 l2 l1x l2x
                go_wp2_with fail
                refine (same_any x1 x1 a1 a1x k1 k1x x2 x2 _ U1 V1 HZ1.out HZ1.out).mono ?_
                rintro e w6 ⟨rfl, b6⟩
                rw [show alikeP (x1, x2) (x1, x2) = true by simp [alikeP]]
                have kA6 := kA5.below b6 kA5.lt
                have kB6 := kB5.below b6 kB5.lt
                have kX6 := kX5.below b6 kX5.lt
                have kY6 := kY5.below b6 kY5.lt
                have U1a := U1.below b6
                have U2a := U2.below b6
                have V2a := V2.below b6
                have bF6 := bF5.trans (b6.mono bF5.size)
                clear q0 q1 q2 q3 q4 q5 q6 q7 m0 m1 m2 mE hb5 U1 U2 V1 V2 kA5 kB5 kX5 kY5 b6 bF5
                have q0 := kA6.cell 0
                have q1 := kA6.cell 1
                have q2 := kB6.cell 0
                have q3 := kB6.cell 1
                have q6 := kY6.cell 0
                have q7 := kY6.cell 1
                simp only [List.getElem?_toArray, List.getElem?_cons_succ, List.getElem?_cons_zero] at q0 q1 q2 q3 q6 q7
                go_wp2_with fail
                refine (same_any y1 y1 a2 a2x k2 k2x y2 y2 _ U2a V2a HZ2.out HZ2.out).mono ?_
                rintro e w7 ⟨rfl, b7⟩
                rw [show alikeP (y1, y2) (y1, y2) = true by simp [alikeP]]
                have kA7 := kA6.below b7 kA6.lt
                have kB7 := kB6.below b7 kB6.lt
                have U1b := U1a.below b7
                have U2b := U2a.below b7
                have bF7 := bF6.trans (b7.mono bF6.size)
                clear q0 q1 q2 q3 q6 q7 U1a U2a V2a kA6 kB6 kX6 kY6 b7 bF6
                have q0 := kA7.cell 0
                have q1 := kA7.cell 1
                have q2 := kB7.cell 0
                have q3 := kB7.cell 1
                simp only [List.getElem?_toArray, List.getElem?_cons_succ, List.getElem?_cons_zero] at q0 q1 q2 q3
                go_wp2_with fail
                refine (ofImage_any wd x1 a1 x2.length k1 x2 _ hw rfl HZ3.out U1b).mono ?_
                rintro e w8 ⟨rfl, b8⟩
                have kA8 := kA7.below b8 kA7.lt
                have kB8 := kB7.below b8 kB7.lt
                have U1c := U1b.below b8
                have U2c := U2b.below b8
                have bF8 := bF7.trans (b8.mono bF7.size)
                clear q0 q1 q2 q3
                have q0 := kA8.cell 0
                have q1 := kA8.cell 1
                have q2 := kB8.cell 0
                have q3 := kB8.cell 1
                simp only [List.getElem?_toArray, List.getElem?_cons_succ, List.getElem?_cons_zero] at q0 q1 q2 q3
                go_wp2_with fail
                refine (ofImage_any wd y1 a2 y2.length k2 y2 _ hw rfl HZ4.out U2c).mono ?_
                rintro e w9 ⟨rfl, b9⟩
                have kA9 := kA8.below b9 kA8.lt
                have kB9 := kB8.below b9 kB8.lt
                have U1d := U1c.below b9
                have U2d := U2c.below b9
                have bF9 := bF8.trans (b9.mono bF8.size)
                clear q0 q1 q2 q3
                have q0 := kA9.cell 0
                have q1 := kA9.cell 1
                have q2 := kB9.cell 0
                have q3 := kB9.cell 1
                simp only [List.getElem?_toArray, List.getElem?_cons_succ, List.getElem?_cons_zero] at q0 q1 q2 q3
                go_wp2_with fail
                refine (same_any x1 y1 a1 a2 k1 k2 x2 y2 _ U1d U2d HZ1.out HZ2.out).mono ?_
                rintro e w10 ⟨rfl, b10⟩
                rw [show alikeP (x1, x2) (y1, y2) = false by simpa [alikeP] using Hxy.out]
                have bF10 := bF9.trans (b10.mono bF9.size)
                have hof : ofP wd x1 x2 = ofP wd y1 y2 := Hof.out
                rw [hof]
                go_wp2
                go_ret
                exact ⟨by simp, bF10⟩
              · have t1' : (!s.toList == sk.toList) = true := by simpa using fun e => h2 (bytes_eq e)
                have t2' : (s.toList == sk.toList) = false := by simpa using fun e => h2 (bytes_eq e)
                have t3' : (i2 == (k : Int)) = false := by simpa using h3
                rw [h1]
                have hN : clashP wd R sk (n : Int) (k : Int) D s c2 i2 ds2 = none := clashP_none _ _ _ _ _ _ _ _ _ _ (.inr (.inl (fun e => h3 e.symm)))
                clear h1 h2 h3
                have e0 := HG1.out
                rw [show O = none from HO.out.symm.trans hN] at e0 ⊢
                simp only [Option.getD_none, Prod.mk.injEq] at e0
                obtain ⟨⟨rfl, rfl⟩, rfl, rfl⟩ := e0
                have HZ1 : Hid (([] : List ByteArray).length ≤ 4611686018427387904) := by show _ ≤ _; simp
                have HZ2 := HZ1
                clear hN HO HG1 Hpath
                go_wp2_with fail
                refine (same_any 0 0 a1 a1x k1 k1x [] [] _ U1 V1 HZ1.out HZ1.out).mono ?_
                rintro e w6 ⟨rfl, b6⟩
                rw [show alikeP (0, []) (0, []) = true by simp [alikeP]]
                have kA6 := kA5.below b6 kA5.lt
                have kB6 := kB5.below b6 kB5.lt
                have kX6 := kX5.below b6 kX5.lt
                have kY6 := kY5.below b6 kY5.lt
                have U1a := U1.below b6
                have U2a := U2.below b6
                have V2a := V2.below b6
                have bF6 := bF5.trans (b6.mono bF5.size)
                clear q0 q1 q2 q3 q4 q5 q6 q7 m0 m1 m2 mE hb5 U1 U2 V1 V2 kA5 kB5 kX5 kY5 b6 bF5
                have q0 := kA6.cell 0
                have q1 := kA6.cell 1
                have q2 := kB6.cell 0
                have q3 := kB6.cell 1
                have q6 := kY6.cell 0
                have q7 := kY6.cell 1
                simp only [List.getElem?_toArray, List.getElem?_cons_succ, List.getElem?_cons_zero] at q0 q1 q2 q3 q6 q7
                go_wp2_with fail
                refine (same_any 0 0 a2 a2x k2 k2x [] [] _ U2a V2a HZ2.out HZ2.out).mono ?_
                rintro e w7 ⟨rfl, b7⟩
                rw [show alikeP (0, []) (0, []) = true by simp [alikeP]]
                have kA7 := kA6.below b7 kA6.lt
                have kB7 := kB6.below b7 kB6.lt
                have U1b := U1a.below b7
                have U2b := U2a.below b7
                have bF7 := bF6.trans (b7.mono bF6.size)
                clear q0 q1 q2 q3 q6 q7 U1a U2a V2a kA6 kB6 kX6 kY6 b7 bF6
                have q0 := kA7.cell 0
                have q1 := kA7.cell 1
                have q2 := kB7.cell 0
                have q3 := kB7.cell 1
                simp only [List.getElem?_toArray, List.getElem?_cons_succ, List.getElem?_cons_zero] at q0 q1 q2 q3
                go_wp2
                go_ret
                exact ⟨rfl, bF7⟩
          · rw [show holdsP wd R s c2 i2 ds2 = false by simpa using h1]
            have hN : clashP wd R sk (n : Int) (k : Int) D s c2 i2 ds2 = none := clashP_none _ _ _ _ _ _ _ _ _ _ (.inr (.inr (.inr (by simpa using h1))))
            clear h1
            have e0 := HG1.out
            rw [show O = none from HO.out.symm.trans hN] at e0 ⊢
            simp only [Option.getD_none, Prod.mk.injEq] at e0
            obtain ⟨⟨rfl, rfl⟩, rfl, rfl⟩ := e0
            have HZ1 : Hid (([] : List ByteArray).length ≤ 4611686018427387904) := by show _ ≤ _; simp
            have HZ2 := HZ1
            clear hN HO HG1 Hpath
            go_wp2_with fail
            refine (same_any 0 0 a1 a1x k1 k1x [] [] _ U1 V1 HZ1.out HZ1.out).mono ?_
            rintro e w6 ⟨rfl, b6⟩
            rw [show alikeP (0, []) (0, []) = true by simp [alikeP]]
            have kA6 := kA5.below b6 kA5.lt
            have kB6 := kB5.below b6 kB5.lt
            have kX6 := kX5.below b6 kX5.lt
            have kY6 := kY5.below b6 kY5.lt
            have U1a := U1.below b6
            have U2a := U2.below b6
            have V2a := V2.below b6
            have bF6 := bF5.trans (b6.mono bF5.size)
            clear q0 q1 q2 q3 q4 q5 q6 q7 m0 m1 m2 mE hb5 U1 U2 V1 V2 kA5 kB5 kX5 kY5 b6 bF5
            have q0 := kA6.cell 0
            have q1 := kA6.cell 1
            have q2 := kB6.cell 0
            have q3 := kB6.cell 1
            have q6 := kY6.cell 0
            have q7 := kY6.cell 1
            simp only [List.getElem?_toArray, List.getElem?_cons_succ, List.getElem?_cons_zero] at q0 q1 q2 q3 q6 q7
            go_wp2_with fail
            refine (same_any 0 0 a2 a2x k2 k2x [] [] _ U2a V2a HZ2.out HZ2.out).mono ?_
            rintro e w7 ⟨rfl, b7⟩
            rw [show alikeP (0, []) (0, []) = true by simp [alikeP]]
            have kA7 := kA6.below b7 kA6.lt
            have kB7 := kB6.below b7 kB6.lt
            have U1b := U1a.below b7
            have U2b := U2a.below b7
            have bF7 := bF6.trans (b7.mono bF6.size)
            clear q0 q1 q2 q3 q6 q7 U1a U2a V2a kA6 kB6 kX6 kY6 b7 bF6
            have q0 := kA7.cell 0
            have q1 := kA7.cell 1
            have q2 := kB7.cell 0
            have q3 := kB7.cell 1
            simp only [List.getElem?_toArray, List.getElem?_cons_succ, List.getElem?_cons_zero] at q0 q1 q2 q3
            go_wp2
            go_ret
            exact ⟨rfl, bF7⟩
    · have hcase : (decide (i < 0) = true) ∨ (decide (i < 0) = false ∧ decide ((n : Int) ≤ i) = true) := by
        by_cases h : i < 0
        · exact .inl (by simpa using h)
        · exact .inr ⟨by simpa using h, by simp; omega⟩
      have hio : i < 0 ∨ (n : Int) ≤ i := by omega
      clear hin
      rcases hcase with h1 | ⟨h1, h2⟩
      all_goals
        go_enter Try.func5, Try.ntmps5
        go_wp2_with fail
        refine (sum_any _ n cap ss _ hn hsz HL.out hs).mono ?_
        rintro e w1 ⟨rfl, rfl⟩
        go_wp2_with fail
        refine (root_any wd _ n cap ss _ hw (by omega) HL.out hcap hm hs).mono ?_
        rintro e w1 ⟨rfl, b1⟩
        go_wp2_with fail
        refine (path_none wd _ n cap i _ hio).mono ?_
        rintro e w2 ⟨rfl, b2'⟩
        have b2 := b1.trans (b2'.mono b1.size)
        have bA := b2.alloc b2.size (.cells #[.int .i64 0, .int .i64 0, .slice none 0 0] 34)
        unfold noPath
        go_wp2
        go_ret
        exact ⟨rfl, bA⟩


set_option maxRecDepth 100000 in
theorem lifted (os : Os) (started : os.Started) (H : Type) (enc : TypeId × Value → H) :
    ReturnsInHanded {} Try.checked os 5 .any (Rows.digestClashSpec.pre6 enc Try.prog Try.f5 Rows.digestClashRow.domain false) (Rows.digestClashSpec.post enc Try.prog Try.f5 false true false false) := by
  refine returnsInHanded_of_change_sized (C := Try.checked) own started (by kernel_rfl) Try.func5
    (ChangeSpec.witness6 (enc := enc) (C := Try.checked) false ⟨#[], #[.int .i64 0, .slice none 0 0, .int .i64 0, .string ByteArray.empty, .int .i64 0, .int .i64 0], []⟩ 8 (by kernel_rfl) (by kernel_rfl) (by kernel_rfl) (by kernel_rfl)) ?_
  intro W base args ds gs before hval0 hW hcnd hsz0 _
  have hval : ∀ (j : Nat) t v, Try.f5.params[j]? = some t → args[j]? = some v → Value.okWide Try.prog W .any base t v := hval0
  have hsz : (DataW.weightsEach Try.prog (Try.f5.params.toList ++ Rows.digestClashSpec.plain.varTypes Try.prog) (ds ++ gs)).all (· ≤ reachBytes) = true := hsz0
  have hW' := hW
  obtain ⟨p, q, hA0, hV, rfl, hfz, hnd⟩ := hW
  have hA : DataW.TrodAll enc Try.prog W 0 (fun _ => true) true Try.f5.params.toList args.toList ds p := hA0
  rw [Try.params5] at hA hval hsz
  obtain ⟨v0, vs0, d0, ds0, p0, q0, hargs, rfl, rfl, h0, r0⟩ := trodAll_cons hA
  obtain ⟨v1, vs1, d1, ds1, p1, q1, rfl, rfl, rfl, h1, r1⟩ := trodAll_cons r0
  obtain ⟨v2, vs2, d2, ds2, p2, q2, rfl, rfl, rfl, h2, r2⟩ := trodAll_cons r1
  obtain ⟨v3, vs3, d3, ds3, p3, q3, rfl, rfl, rfl, h3, r3⟩ := trodAll_cons r2
  obtain ⟨v4, vs4, d4, ds4, p4, q4, rfl, rfl, rfl, h4, r4⟩ := trodAll_cons r3
  obtain ⟨v5, vs5, d5, ds5, p5, q5, rfl, rfl, rfl, h5, r5⟩ := trodAll_cons r4
  obtain ⟨rfl, rfl, rfl⟩ := trodAll_nil r5
  obtain rfl : args = #[v0, v1, v2, v3, v4, v5] := by cases args; simp_all
  obtain ⟨rfl, rfl⟩ := trodVars_none hV
  obtain ⟨a0, rfl, rfl, rfl, w0⟩ := open_int Try.underlying3 (hval 0 3 v0 rfl rfl) h0
  obtain ⟨a2, rfl, rfl, rfl, w2⟩ := open_int Try.underlying3 (hval 2 3 v2 rfl rfl) h2
  obtain ⟨s3, rfl, rfl, rfl, w3⟩ := open_string Try.underlying9 (hval 3 9 v3 rfl rfl) h3
  obtain ⟨a4, rfl, rfl, rfl, w4⟩ := open_int Try.underlying3 (hval 4 3 v4 rfl rfl) h4
  obtain ⟨a5, rfl, rfl, rfl, w5⟩ := open_int Try.underlying3 (hval 5 3 v5 rfl rfl) h5
  obtain ⟨ad, len, cap, rfl⟩ := okWide_slice Try.underlying22 (hval 1 22 v1 rfl rfl)
  have k1 := h1
  have lt1 : ∀ x ∈ p1, x.block < W.heap.size := by obtain ⟨m, hm⟩ := k1; exact DataW.trod_lt m _ _ _ hm
  have hs3 : s3.size ≤ 140737488351232 := by
    have h := sized_string hsz (j := 3) (t := 9) rfl rfl
    simpa [reachBytes] using h
  obtain ⟨ss, hl, hn, hcap, hm, hss, hS⟩ : ∃ ss : List ByteArray, ss.length = len ∧ len ≤ 140737488351232 ∧ len ≤ cap ∧ cap ≤ maxLen ∧ (∀ s ∈ ss, s.size ≤ 140737488351232) ∧ Strs W ad ss := by
    obtain ⟨fuel, hf⟩ := h1
    rcases open_strings Try.underlying22 Try.underlying9 Try.cellsS hf with ⟨hcs, _⟩ | ⟨x, l, c, ss, hcs, _, hlc, hmc, hzl, hx, hcell, hws⟩
    · simp [Value.cells] at hcs
      obtain ⟨rfl, rfl, rfl⟩ := hcs
      exact ⟨[], rfl, by omega, by omega, by unfold maxLen; omega, by simp, by simp, .inl rfl⟩
    · simp [Value.cells] at hcs
      obtain ⟨rfl, rfl, rfl⟩ := hcs
      simp only [Prod.mk.injEq] at hx
      obtain ⟨hd2, hp2⟩ := hx
      subst hd2
      simp at hzl
      have hw2 := sized_slice hsz (j := 1) (t := 22) (e := 9) rfl rfl Try.underlying22
      rw [Try.bytesS] at hw2
      simp only [strs, List.length_map, List.length_take, List.length_drop, reachBytes] at hw2
      refine ⟨ss.take len, by simp; omega, by omega, hlc, hmc, fun s hs => ?_, fun s hs => hws s (List.mem_of_mem_take hs), ?_⟩
      · have hmem : s.size ∈ (DataW.slice (strs (ss.take len)) (strs (ss.drop len)) : DataW H).weights Try.prog 22 := by
          simp only [DataW.weights, Try.underlying22]
          exact List.mem_cons_of_mem _ (List.mem_append_left _ (mem_weights_strs _ _ _ s hs))
        have hall := DataW.weights_mem_each (ts := [3, 22, 3, 9, 3, 3] ++ Rows.digestClashSpec.plain.varTypes Try.prog) (ds := [.lit (.int .i64 a0), .slice (strs (ss.take len)) (strs (ss.drop len)), .lit (.int .i64 a2), .lit (.string s3.data.toList), .lit (.int .i64 a4), .lit (.int .i64 a5)] ++ []) (j := 1) rfl rfl _ hmem
        exact of_decide_eq_true (List.all_eq_true.1 hsz _ hall)
      · by_cases h0 : len = 0
        · left; simp [h0]
        · right
          obtain ⟨b, off, spot⟩ := x
          have hc := hcell 0 (by omega)
          have hspot : spot = none := by simpa [Addr.add] using World.cell?_spot hc
          subst hspot
          have hlt := World.block_lt_of_cell? W _ hc
          refine ⟨b, off, rfl, by simpa [Addr.add] using hlt, fun i hi => ?_⟩
          have hi' : i < ss.length := by simp at hi; omega
          have hci := hcell i hi'
          rw [show (⟨b, off, none⟩ : Addr).add i = ⟨b, off + i, none⟩ by unfold Addr.add; split <;> simp_all] at hci
          rw [hci]
          simp [List.getD, hi']
  clear hA0 hval0
  refine (walk a0 ad len cap ss a2 a4 a5 s3 W (bounds_i64 w0) (bounds_i64 w2) (bounds_i64 w4) (bounds_i64 w5) hs3 hl hn hcap hm hss hS).mono fun e W' ⟨he, bel⟩ => ?_
  subst he
  exact ⟨_, rfl, _, _, _, [], _, [], hW', trodAll_mk1 (shut_bool Try.underlying4 _), (trodAll_cons_mk (shut_int Try.underlying3 w0) (trodAll_cons_mk (Below.trod laidOut (by kernel_rfl) (of_decide_eq_true (by kernel_rfl)) k1 bel lt1) (trodAll_cons_mk (shut_int Try.underlying3 w2) (trodAll_cons_mk (shut_string Try.underlying9 w3) (trodAll_cons_mk (shut_int Try.underlying3 w4) (trodAll_cons_mk (shut_int Try.underlying3 w5) trodAll_mk0)))))), rfl, bel.frame _, fun h => by cases h⟩

theorem over : Rows.digestClashRow.holds Try.pinned (OpenSpec.ofChange Rows.digestClashSpec) :=
  OpenClaim.holds_of_wide 5 Try.f5 rfl rfl rfl rfl rfl rfl rfl ⟨rfl, rfl, rfl, rfl, rfl⟩ rfl rfl rfl rfl rfl (by kernel_rfl) Try.func5 (by kernel_rfl)
    (of_decide_eq_true (by kernel_rfl)) (by unfold Func.isWrapper; first | (rw [if_pos (by decide +kernel)]; kernel_rfl) | (rw [if_neg (by decide +kernel)]; exact ⟨rfl, rfl⟩))
    (fun os started H enc _ => lifted os started H enc)

end Go.Proofs.Ytabimdlooddcoaa.digestClash
namespace Go.Proofs.Ytabimdlooddcoaa

/-- The statement. -/
theorem digestClash_holds : Rows.DigestClashSaid := digestClash.over
end Go.Proofs.Ytabimdlooddcoaa
