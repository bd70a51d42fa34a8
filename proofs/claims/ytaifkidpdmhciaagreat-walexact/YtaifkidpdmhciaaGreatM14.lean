/- A log in memory; what arms it, what makes it die. -/
import Derived.Test.YtaifkidpdmhciaaGreatM13
import Derived.RegionTactic
import Derived.BigRegion
import Derived.ChangeAlike
import Derived.Test.YtaifkidpdmhciaaGreatM06
import Derived.BigQuiet

namespace Go.Proofs.YtaifkidpdmhciaaGreat
open Go.RowKit
set_option linter.unusedVariables false
set_option linter.unusedSimpArgs false

/-- A log: its bytes, how many are safe, is it down, what is armed. -/
def LogAt (w : World) (lb : Nat) (B : List UInt8) (sf : Int) (dn : Bool) (lf kp : Int) : Prop :=
  ∃ v, Blk w lb #[v, .int .i64 sf, .bool dn, .int .i64 lf, .int .i64 kp] 65 ∧ w.ownsRow lb 5 1 v B.length (bcells B)
theorem LogAt.lt {w : World} {lb : Nat} {B : List UInt8} {sf : Int} {dn : Bool} {lf kp : Int} (h : LogAt w lb B sf dn lf kp) : lb < w.heap.size := by
  obtain ⟨v, h1, h2⟩ := h
  exact h1.lt
theorem LogAt.below {w w' : World} {lb : Nat} {B : List UInt8} {sf : Int} {dn : Bool} {lf kp : Int} (h : LogAt w lb B sf dn lf kp) (hb : Below w.heap.size w w') : LogAt w' lb B sf dn lf kp := by
  obtain ⟨v, h1, h2⟩ := h
  exact ⟨v, h1.below hb h1.lt, owns_below h2 hb⟩
/-- A row of bytes, cut. -/
theorem owns_take {w : World} {base : Nat} {a : Option Addr} {n c : Nat} {B : List UInt8} (h : w.ownsRow base 5 1 (.slice a n c) n (bcells B)) (hn : B.length = n) (k : Nat) (hk : k ≤ n) : w.ownsRow base 5 1 (.slice a k c) k (bcells (B.take k)) := by
  obtain ⟨h1, h2⟩ := h
  refine ⟨by rw [bcells_length, List.length_take]; omega, ?_⟩
  rcases h2 with ⟨e, h0⟩ | ⟨g, cap, cur, e, e2, e3, e4, e5, e6, e7⟩
  · obtain rfl : k = 0 := by omega
    left
    simp only [Value.slice.injEq] at e
    obtain ⟨rfl, _, rfl⟩ := e
    exact ⟨rfl, rfl⟩
  · right
    simp only [Value.slice.injEq, true_and] at e
    obtain ⟨rfl, rfl⟩ := e
    refine ⟨g, c, cur, rfl, e2, e3, by omega, e5, e6, ?_⟩
    have : bcells (B.take k) = (bcells B).take k := by simp [bcells, List.map_take]
    rw [this, ← e7, List.take_take]
    congr 1
    omega
theorem owns_cap {w : World} {base : Nat} {e : TypeId} {a : Option Addr} {n c : Nat} {xs : List Value} (h : w.ownsRow base e 1 (.slice a n c) n xs) : n ≤ c := by
  rcases h.2 with ⟨e, h0⟩ | ⟨g, cap, cur, e, e2, e3, e4, e5, e6, e7⟩
  · omega
  · simp only [Value.slice.injEq, true_and] at e
    obtain ⟨rfl, rfl⟩ := e
    omega
theorem bytes_len {w : World} {base : Nat} {a : Option Addr} {n c : Nat} {B : List UInt8} (h : w.ownsRow base 5 1 (.slice a n c) n (bcells B)) : B.length = n := by
  have := h.1
  rw [bcells_length] at this
  omega

set_option maxHeartbeats 800000 in
theorem arm_any (lb : Nat) (B : List UInt8) (sf : Int) (dn : Bool) (lf kp n k : Int) (w : World) (H : LogAt w lb B sf dn lf kp) :
    Calls Tryz.prog 8 #[.pointer (some ⟨lb, 0, none⟩), .int .i64 n, .int .i64 k] w fun e w' => e = .returned (.tuple #[]) ∧ LogAt w' lb B sf dn n k ∧ Kp lb lb w w' := by
  obtain ⟨v, hk, ho⟩ := H
  have c3 := (hk.cell 3).trans rfl
  have c4 := (hk.cell 4).trans rfl
  have f3 := hk.frozen 3
  have f4 := hk.frozen 4
  have z := hk.lt
  have k3 := hk.set 3 (.int .i64 n)
  have k4 := k3.set 4 (.int .i64 k)
  have o3 := owns_set ho hk (by decide) 3 (.int .i64 n)
  have o4 := owns_set o3 k3 (by decide) 4 (.int .i64 k)
  have K := (Kp.set (base := lb) (b := lb) (w := w) (Nat.le_refl _) 3 (.int .i64 n)).trans (Kp.set (Nat.le_refl _) 4 (.int .i64 k))
  go_enter Tryz.func8, Tryz.ntmps8
  go_wp2
  go_end0
  exact ⟨rfl, ⟨v, k4, o4⟩, K⟩

/-- So many bytes are left when it dies. -/
def dieN (sf L : Nat) (keep : Int) : Nat := if keep < 0 then sf else if (L : Int) - (sf : Int) < keep then L else sf + keep.toNat
theorem dieN_bd (sf L : Nat) (keep : Int) (h : sf ≤ L) : sf ≤ dieN sf L keep ∧ dieN sf L keep ≤ L := by
  unfold dieN
  split
  · omega
  · split <;> omega
theorem dieN_all (sf L : Nat) (h : sf ≤ L) : dieN sf L L = L := by
  unfold dieN
  split
  · omega
  · split <;> omega

set_option maxHeartbeats 1600000 in
theorem die_any (lb : Nat) (B : List UInt8) (sf : Nat) (dn : Bool) (lf kp keep : Int) (w : World) (H : LogAt w lb B sf false lf kp) (hs : sf ≤ B.length) (hB : B.length ≤ 1000000) (hk : -9223372036854775808 ≤ keep ∧ keep ≤ 9223372036854775807) :
    Calls Tryz.prog 10 #[.pointer (some ⟨lb, 0, none⟩), .int .i64 keep] w fun e w' => e = .returned (.tuple #[]) ∧ LogAt w' lb (B.take (dieN sf B.length keep)) (dieN sf B.length keep) true 0 0 ∧ Kp lb lb w w' := by
  obtain ⟨v, hk0, ho⟩ := H
  obtain ⟨a, c, rfl⟩ := owns_form ho
  have c0 := (hk0.cell 0).trans rfl
  have c1 := (hk0.cell 1).trans rfl
  have c2 := (hk0.cell 2).trans rfl
  have f1 := hk0.frozen 1
  have z := hk0.lt
  have ws1 : IntKind.i64.wrap ((B.length : Int) - (sf : Int)) = (B.length : Int) - (sf : Int) := wrapI _ (by omega) (by omega)
  go_enter Tryz.func10, Tryz.ntmps10
  go_wp2_with fail
  go_region
  obtain ⟨n, he, hn1, hn2, hn3⟩ : ∃ n : Nat, ((sf : Int) + if (B.length : Int) - (sf : Int) < (if keep < 0 then 0 else keep) then (B.length : Int) - (sf : Int) else (if keep < 0 then 0 else keep)) = (n : Int) ∧ sf ≤ n ∧ n ≤ B.length ∧ dieN sf B.length keep = n := by
    unfold dieN
    by_cases h1 : keep < 0
    · rw [if_pos h1]
      split
      · omega
      · exact ⟨sf, by omega, Nat.le_refl _, hs, rfl⟩
    · rw [if_neg h1]
      split
      · rename_i h2; exact ⟨B.length, by omega, hs, Nat.le_refl _, rfl⟩
      · rename_i h2; exact ⟨sf + keep.toNat, by omega, by omega, by omega, rfl⟩
  simp only [he]
  have HN := show Hid (_ ∧ _) from ⟨hn1, hn3⟩
  clear hn1 hn3 he
  generalize (if (B.length : Int) - (sf : Int) < (if keep < 0 then 0 else keep) then (B.length : Int) - (sf : Int) else (if keep < 0 then 0 else keep)) = q1 at *
  generalize (if keep < 0 then 0 else keep) = q2 at *
  have k1 : Blk (w.setCell ⟨lb, 1, none⟩ (.int .i64 (n : Int))).drew lb #[.slice a B.length c, .int .i64 (n : Int), .bool false, .int .i64 lf, .int .i64 kp] 65 := (hk0.set 1 (.int .i64 (n : Int))).drew
  have o1 := owns_below (owns_set ho hk0 (by decide) 1 (.int .i64 (n : Int))) (Below.drew (Below.refl _ _))
  have K1 : Kp lb lb w (w.setCell ⟨lb, 1, none⟩ (.int .i64 (n : Int))).drew := (Kp.set (Nat.le_refl _) 1 _).trans (Kp.of_below (Below.drew (Below.refl _ _)) (Nat.le_of_lt (by rw [World.size_setCell]; exact z)))
  generalize (w.setCell ⟨lb, 1, none⟩ (.int .i64 (n : Int))).drew = w1 at *
  have hcap : B.length ≤ c := owns_cap o1
  clear c0 c1 c2 f1 z hk0 ho ws1
  have c0 := (k1.cell 0).trans rfl
  have c1 := (k1.cell 1).trans rfl
  have f0 := k1.frozen 0
  have z := k1.lt
  have hnc : (0 : Int) ≤ (n : Int) ∧ (n : Int) ≤ (c : Int) := by omega
  go_wp2_with fail
  go_region
  have k2 : Blk (w1.setCell ⟨lb, 0, none⟩ (.slice a n c)).drew lb #[.slice a n c, .int .i64 (n : Int), .bool false, .int .i64 lf, .int .i64 kp] 65 := (k1.set 0 (.slice a n c)).drew
  have o2 := owns_below (owns_set (owns_take o1 rfl n hn2) k1 (by decide) 0 (.slice a n c)) (Below.drew (Below.refl _ _))
  have K2 : Kp lb lb w (w1.setCell ⟨lb, 0, none⟩ (.slice a n c)).drew := K1.trans ((Kp.set (Nat.le_refl _) 0 _).trans (Kp.of_below (Below.drew (Below.refl _ _)) (Nat.le_of_lt (by rw [World.size_setCell]; exact z))))
  generalize (w1.setCell ⟨lb, 0, none⟩ (.slice a n c)).drew = w2 at *
  clear c0 c1 f0 z k1 o1 K1
  have c2 := (k2.cell 2).trans rfl
  have f2 := k2.frozen 2
  have z := k2.lt
  have k3 := k2.set 2 (.bool true)
  have o3 := owns_set o2 k2 (by decide) 2 (.bool true)
  have K3 := K2.trans (Kp.set (Nat.le_refl _) 2 (.bool true))
  clear o2 K2
  go_wp2_with fail
  generalize w2.setCell ⟨lb, 2, none⟩ (.bool true) = w3 at *
  have hlen : (B.take n).length = n := by rw [List.length_take]; omega
  refine (arm_any lb (B.take n) n true lf kp 0 0 w3 ⟨.slice a n c, k3, by rw [hlen]; exact o3⟩).mono ?_
  rintro e w4 ⟨rfl, L4, K4⟩
  have K5 := K3.trans K4
  go_wp2
  go_end0
  refine ⟨rfl, ?_, K5⟩
  rw [HN.out.2]
  exact L4

set_option maxHeartbeats 800000 in
theorem die_down (lb : Nat) (B : List UInt8) (sf lf kp keep : Int) (w : World) (H : LogAt w lb B sf true lf kp) :
    Calls Tryz.prog 10 #[.pointer (some ⟨lb, 0, none⟩), .int .i64 keep] w fun e w' => e = .returned (.tuple #[]) ∧ w = w' := by
  obtain ⟨v, hk0, ho⟩ := H
  have c2 := (hk0.cell 2).trans rfl
  have z := hk0.lt
  go_enter Tryz.func10, Tryz.ntmps10
  go_wp2
  exact bodyPost_ret (v := .tuple #[]) (by simp [results, Tryz.results10]) rfl ⟨rfl, rfl⟩

theorem down_any (lb : Nat) (B : List UInt8) (sf : Int) (dn : Bool) (lf kp : Int) (w : World) (H : LogAt w lb B sf dn lf kp) :
    Calls Tryz.prog 18 #[.pointer (some ⟨lb, 0, none⟩)] w fun e w' => e = .returned (.bool dn) ∧ w = w' := by
  obtain ⟨v, hk0, ho⟩ := H
  have c2 := (hk0.cell 2).trans rfl
  have z := hk0.lt
  go_enter Tryz.func18, Tryz.ntmps18
  go_wp2
  go_ret
  exact ⟨rfl, rfl⟩

/-- What an act leaves: it dies at it, if lf is 1. -/
structure ActX (lb : Nat) (B : List UInt8) (sf : Nat) (lf kp : Int) (w w' : World) : Prop where
  dies : lf = 1 → LogAt w' lb (B.take (dieN sf B.length kp)) (dieN sf B.length kp) true 0 0
  not_ : lf ≠ 1 → LogAt w' lb B sf false (if lf < 1 then lf else lf - 1) kp
  kp_ : Kp lb lb w w'
theorem ActX.pre {lb : Nat} {B : List UInt8} {sf : Nat} {lf kp : Int} {w w1 w' : World} (h : ActX lb B sf lf kp w1 w') (k : Kp lb lb w w1) : ActX lb B sf lf kp w w' := ⟨h.dies, h.not_, k.trans h.kp_⟩
def ActE (lb : Nat) (B : List UInt8) (sf : Nat) (lf kp : Int) (w : World) (e : Ending) (w' : World) : Prop := ∃ d : Bool, e = .returned (.bool d) ∧ (d = true ↔ lf = 1) ∧ ActX lb B sf lf kp w w'

set_option maxHeartbeats 1600000 in
theorem diesNow_any (lb : Nat) (B : List UInt8) (sf : Nat) (lf kp : Int) (w : World) (H : LogAt w lb B sf false lf kp) (hs : sf ≤ B.length) (hB : B.length ≤ 1000000) (hl : -9223372036854775808 ≤ lf ∧ lf ≤ 9223372036854775807) (hk : -9223372036854775808 ≤ kp ∧ kp ≤ 9223372036854775807) :
    Calls Tryz.prog 19 #[.pointer (some ⟨lb, 0, none⟩)] w fun e w' => ActE lb B sf lf kp w e w' := by
  have H0 := H
  obtain ⟨v, hk0, ho⟩ := H
  have c3 := (hk0.cell 3).trans rfl
  have f3 := hk0.frozen 3
  have z := hk0.lt
  by_cases h1 : lf < 1
  · go_enter Tryz.func19, Tryz.ntmps19
    go_wp2
    go_ret
    exact ⟨false, rfl, ⟨(fun h => by cases h), (fun h => by omega)⟩, fun h => by omega, fun _ => by rw [if_pos h1]; exact H0, Kp.refl _ _ _⟩
  have ws : IntKind.i64.wrap (lf - 1) = lf - 1 := wrapI _ (by omega) (by omega)
  have k1 : Blk (w.setCell ⟨lb, 3, none⟩ (.int .i64 (lf - 1))) lb #[v, .int .i64 sf, .bool false, .int .i64 (lf - 1), .int .i64 kp] 65 := hk0.set 3 (.int .i64 (lf - 1))
  have o1 := owns_set ho hk0 (by decide) 3 (.int .i64 (lf - 1))
  have K1 := Kp.set (base := lb) (b := lb) (w := w) (Nat.le_refl _) 3 (.int .i64 (lf - 1))
  have L1 : LogAt (w.setCell ⟨lb, 3, none⟩ (.int .i64 (lf - 1))) lb B sf false (lf - 1) kp := ⟨v, k1, o1⟩
  have d3 := (k1.cell 3).trans rfl
  have d4 := (k1.cell 4).trans rfl
  have z1 := k1.lt
  clear o1 ho H0
  go_enter Tryz.func19, Tryz.ntmps19
  go_upto_region 4 with fail
  generalize w.setCell ⟨lb, 3, none⟩ (.int .i64 (lf - 1)) = w1 at *
  clear c3 f3 hk0
  by_cases h2 : 0 < lf - 1
  · go_wp2
    go_ret
    exact ⟨false, rfl, ⟨(fun h => by cases h), (fun h => by omega)⟩, fun h => by omega, fun _ => by rw [if_neg (by omega)]; exact L1, K1⟩
  · go_wp2_with fail
    refine (die_any lb B sf false (lf - 1) kp kp w1 L1 hs hB hk).mono ?_
    rintro e w2 ⟨rfl, L2, K2⟩
    have K3 := K1.trans K2
    go_wp2
    go_ret
    exact ⟨true, rfl, ⟨fun _ => by omega, fun _ => rfl⟩, fun _ => L2, fun h => by omega, K3⟩

/-- What Sync leaves. -/
def SyncE (lb : Nat) (B : List UInt8) (sf : Nat) (dn : Bool) (lf kp : Int) (w : World) (e : Ending) (w' : World) : Prop :=
  (dn = true ∧ e = .returned (.int .i64 27) ∧ w = w') ∨ (dn = false ∧ lf = 1 ∧ e = .returned (.int .i64 27) ∧ ActX lb B sf lf kp w w') ∨ (dn = false ∧ lf ≠ 1 ∧ e = .returned (.int .i64 0) ∧ ActX lb B B.length lf kp w w')

set_option maxHeartbeats 1600000 in
theorem sync_any (lb : Nat) (B : List UInt8) (sf : Nat) (dn : Bool) (lf kp : Int) (w : World) (H : LogAt w lb B sf dn lf kp) (hs : sf ≤ B.length) (hB : B.length ≤ 1000000) (hl : -9223372036854775808 ≤ lf ∧ lf ≤ 9223372036854775807) (hk : -9223372036854775808 ≤ kp ∧ kp ≤ 9223372036854775807) :
    Calls Tryz.prog 6 #[.pointer (some ⟨lb, 0, none⟩)] w fun e w' => SyncE lb B sf dn lf kp w e w' := by
  have H0 := H
  obtain ⟨v, hk0, ho⟩ := H
  have c2 := (hk0.cell 2).trans rfl
  have z := hk0.lt
  cases dn
  · go_enter Tryz.func6, Tryz.ntmps6
    go_wp2_with fail
    refine (diesNow_any lb B sf lf kp w H0 hs hB hl hk).mono ?_
    rintro e w1 ⟨d, rfl, hd, Ac⟩
    clear c2 z hk0 ho H0
    cases d
    · have hne : lf ≠ 1 := fun q => by have := hd.2 q; cases this
      have HNE := show Hid (lf ≠ 1) from hne
      obtain ⟨v', hk1, ho1⟩ := Ac.not_ hne
      obtain ⟨a, c, rfl⟩ := owns_form ho1
      have c0 := (hk1.cell 0).trans rfl
      have c1 := (hk1.cell 1).trans rfl
      have f1 := hk1.frozen 1
      have z := hk1.lt
      have k2 := hk1.set 1 (.int .i64 (B.length : Int))
      have o2 := owns_set ho1 hk1 (by decide) 1 (.int .i64 (B.length : Int))
      have K2 := Ac.kp_.trans (Kp.set (Nat.le_refl _) 1 (.int .i64 (B.length : Int)))
      clear ho1 hd hne Ac hk1
      generalize hq : (if lf < 1 then lf else lf - 1) = lf2 at *
      have HQ := show Hid (_ = _) from hq
      clear hq
      go_wp2
      go_ret
      exact .inr (.inr ⟨rfl, HNE.out, rfl, fun q => absurd q HNE.out, fun _ => by rw [HQ.out]; exact ⟨_, k2, o2⟩, K2⟩)
    · have h1 := hd.1 rfl
      have H1 := show Hid (lf = 1) from h1
      clear hd h1
      go_wp2
      go_ret
      exact .inr (.inl ⟨rfl, H1.out, rfl, Ac⟩)
  · go_enter Tryz.func6, Tryz.ntmps6
    go_wp2
    go_ret
    exact .inl ⟨rfl, rfl, rfl⟩
end Go.Proofs.YtaifkidpdmhciaaGreat

namespace Go.Proofs.YtaifkidpdmhciaaGreat
open Go.RowKit
set_option linter.unusedVariables false
set_option linter.unusedSimpArgs false

theorem below_drewN {B : Nat} {a w : World} (h : Below B a w) (n : Nat) : Below B a (w.drewN n) := h.trans ⟨rfl, rfl, rfl, Nat.le_refl _, fun _ _ => rfl⟩
/-- What is being read, and how far. -/
def GtAt (w : World) (gb : Nat) (B : List UInt8) (at_ : Nat) : Prop := Blk w gb #[.string ⟨B.toArray⟩, .int .i64 at_, .int .i64 0] 80
theorem GtAt.below {w w' : World} {gb : Nat} {B : List UInt8} {at_ : Nat} (h : GtAt w gb B at_) (hb : Below w.heap.size w w') : GtAt w' gb B at_ := Blk.below h hb (Blk.lt h)
theorem ext_mid (l : List UInt8) (a n : Nat) : (⟨l.toArray⟩ : ByteArray).extract a (a + n) = ⟨((l.drop a).take n).toArray⟩ := by
  apply ByteArray.ext
  rw [ByteArray.data_extract]
  apply Array.ext'
  simp only [Array.toList_extract, List.toList_toArray, List.extract_eq_take_drop]
  rw [Nat.add_sub_cancel_left]
theorem wrapG (n : Int) (h1 : -9223372036854775808 ≤ n) (h2 : n ≤ 9223372036854775807) : IntKind.i64.wrap n = n := by
  simp [IntKind.wrap, IntKind.min, IntKind.max, IntKind.signed, IntKind.bits]
  omega

set_option maxHeartbeats 1600000 in
theorem take_any (gb : Nat) (B : List UInt8) (at_ n : Nat) (w : World) (k : GtAt w gb B at_) (hn : at_ + n ≤ B.length) (hL : B.length ≤ 1099511627000) :
    Calls Tryz.prog 98 #[.pointer (some ⟨gb, 0, none⟩), .int .i64 n] w fun e w' => e = .returned (.string ⟨((B.drop at_).take n).toArray⟩) ∧ GtAt w' gb B (at_ + n) ∧ But (fun k => k = gb) w w' := by
  have k' : Blk w gb #[.string ⟨B.toArray⟩, .int .i64 at_, .int .i64 0] 80 := k
  have c0 := (k'.cell 0).trans rfl
  have c1 := (k'.cell 1).trans rfl
  have c2 := (k'.cell 2).trans rfl
  have zb := k'.lt
  have sz := str_size' B
  have hex := ext_mid B at_ n
  have w1 := wrapG ((B.length : Int) - (at_ : Int)) (by omega) (by omega)
  have w2 := wrapG ((at_ : Int) + (n : Int)) (by omega) (by omega)
  have hng : ¬ (B.length : Int) - (at_ : Int) < (n : Int) := by omega
  have hb1 : (at_ : Int) ≤ (at_ : Int) + (n : Int) ∧ (at_ : Int) + (n : Int) ≤ (B.length : Int) := by omega
  have ht : ((at_ : Int) + (n : Int)).toNat = at_ + n := by omega
  generalize (B.drop at_).take n = T at *
  go_enter Tryz.func98, Tryz.ntmps98
  go_wp2_with fail
  go_quiet (fail)
  have bq := below_drewN (Below.refl w.heap.size w) nq
  have k1 := k'.below bq zb
  generalize w.drewN nq = wa at *
  clear c0 c1 c2
  have c0 := (k1.cell 0).trans rfl
  have c1 := (k1.cell 1).trans rfl
  have c2 := (k1.cell 2).trans rfl
  have za := k1.lt
  go_upto_region 5 with fail
  go_quiet (fail)
  have bq2 := bq.trans ((below_drewN (Below.refl wa.heap.size wa) nq).mono bq.size)
  have k2 := k'.below bq2 zb
  generalize wa.drewN nq = wb at *
  clear c0 c1 c2 k1 za bq
  have c1 := (k2.cell 1).trans rfl
  have f1 := k2.frozen 1
  have z2 := k2.lt
  have k3 := k2.set 1 (.int .i64 ((at_ : Int) + (n : Int)))
  have B3 : But (fun k => k = gb) w (wb.setCell ⟨gb, 1, none⟩ (.int .i64 ((at_ : Int) + (n : Int)))) := (But.of_below bq2).trans (but_set wb gb 1 _)
  go_wp2
  go_ret
  refine ⟨rfl, ?_, B3⟩
  have e : ((at_ : Int) + (n : Int)) = ((at_ + n : Nat) : Int) := by omega
  rw [e] at k3 ⊢
  exact k3

set_option maxHeartbeats 1600000 in
theorem upTo_any (gb : Nat) (B : List UInt8) (at_ : Nat) (n most : Int) (r : List UInt8) (w : World) (k : GtAt w gb B at_) (h0 : 0 ≤ n) (h1 : n ≤ most) (hm : most ≤ 1099511627775) (hB : B.drop at_ = numB n ++ r) (hL : B.length ≤ 1099511626000) :
    Calls Tryz.prog 73 #[.pointer (some ⟨gb, 0, none⟩), .int .i64 most] w fun e w' => e = .returned (.int .i64 n) ∧ GtAt w' gb B (at_ + (numB n).length) ∧ B.drop (at_ + (numB n).length) = r ∧ But (fun k => k = gb) w w' := by
  have hs5 := szN_le n
  have hbl := be_len n (szN n)
  have hnl : (numB n).length = 1 + szN n := by simp [numB, be_len]; omega
  have hlen : at_ + (1 + szN n + r.length) = B.length := by
    have h := congrArg List.length hB
    rw [List.length_drop, List.length_append, hnl] at h
    have : (numB n).length ≤ B.length - at_ := by rw [h, hnl]; omega
    omega
  have t1 : (B.drop at_).take 1 = [UInt8.ofNat (szN n)] := by rw [hB]; simp [numB]
  have t2 : (B.drop (at_ + 1)).take (szN n) = be n (szN n) := by
    rw [← List.drop_drop, hB]
    simp only [numB, List.cons_append, List.drop_succ_cons, List.drop_zero]
    rw [List.take_append_of_le_length (by omega), List.take_of_length_le (by omega)]
  have Hr : Hid (B.drop (at_ + (numB n).length) = r) := by
    show _ = _
    rw [← List.drop_drop, hB, List.drop_left]
  have hv := val_be (szN n) n h0 (szN_pow n h0 (by omega))
  have hsz : (UInt8.ofNat (szN n)).toNat = szN n := by rw [UInt8.toNat_ofNat']; omega
  have K1 := take_any gb B at_ 1 w k (by omega) (by omega)
  rw [t1] at K1
  have K2 := fun w' (k' : GtAt w' gb B (at_ + 1)) => take_any gb B (at_ + 1) (szN n) w' k' (by omega) (by omega)
  rw [t2] at K2
  have hh : 0 < szN n → ∃ c r', be n (szN n) = c :: r' ∧ c ≠ 0 := fun hp => by
    refine numB_head n ?_ (by omega)
    by_cases hn : n < 1
    · unfold szN at hp; rw [if_pos hn] at hp; omega
    · omega
  rw [hnl] at Hr ⊢
  rw [← Nat.add_assoc] at Hr ⊢
  have HV : Hid ((val (be n (szN n)) : Int) = n) := hv
  clear hv t1 t2 hlen k hB hnl
  have ht5 : ∀ i, i < szN n → (be n (szN n)).length = szN n := fun _ _ => hbl
  generalize szN n = z at *
  generalize be n z = l at *
  have hix : ∀ h : 0 < (⟨#[UInt8.ofNat z]⟩ : ByteArray).size, ((⟨#[UInt8.ofNat z]⟩ : ByteArray)[0]'h).toNat = z := fun h => hsz
  have hwz : wrap64 (z : Int) = (z : Int) := by unfold wrap64; omega
  have hz5 : ¬ (5 : Int) < (z : Int) := by omega
  have szl := str_size' l
  rw [hbl] at szl
  have hg0 : (0 < z → ∃ c r', l = c :: r' ∧ c ≠ 0) := hh
  have HH := show Hid (_) from hg0
  clear hg0 hh ht5
  go_enter Tryz.func73, Tryz.ntmps73
  go_wp2_with fail
  refine K1.mono ?_
  rintro e w1 ⟨rfl, k1, B1⟩
  have kk : Blk w1 gb #[.string ⟨B.toArray⟩, .int .i64 ((at_ + 1 : Nat) : Int), .int .i64 0] 80 := k1
  have c2 : w1.cell? ⟨gb, 2, none⟩ = some (.int .i64 0) := kk.cell 2
  have zb := kk.lt
  go_wp2_with fail
  refine (K2 w1 k1).mono ?_
  rintro e w2 ⟨rfl, k2, B2⟩
  have B3 := B1.trans B2
  have kk2 : Blk w2 gb #[.string ⟨B.toArray⟩, .int .i64 ((at_ + 1 + z : Nat) : Int), .int .i64 0] 80 := k2
  clear K1 K2 k1 B1 B2 c2 zb kk
  have c2 : w2.cell? ⟨gb, 2, none⟩ = some (.int .i64 0) := kk2.cell 2
  have zb := kk2.lt
  go_wp2_with fail
  go_loopw [7, 8] (fun nv iv wv => ∃ (i m : Nat), i ≤ z ∧ iv = .int .i64 i ∧ nv = .int .i64 m ∧ Hid (m = val (l.take i)) ∧ w2 = wv) (fun _ iv _ => z - (intOf iv).toNat)
  case atStart => exact ⟨0, 0, Nat.zero_le _, rfl, rfl, rfl, rfl⟩
  case round =>
    obtain ⟨i, m, hi, rfl, rfl, HN, rfl⟩ := hrel
    by_cases hlt : i < z
    · have hlt' : (i : Int) < (z : Int) := by omega
      have hil : i < l.length := by omega
      have hb : l[i].toNat < 256 := l[i].toNat_lt
      have hmn : m < 72057594037927936 := by rw [HN.out]; exact val_take_lt l i (by omega)
      have hml : m < 4294967296 := by
        rw [HN.out]
        have h1 := val_lt (l.take i)
        have h2 : (l.take i).length ≤ 4 := by rw [List.length_take]; omega
        have h3 : 256 ^ (l.take i).length ≤ 256 ^ 4 := Nat.pow_le_pow_right (by omega) h2
        omega
      have hx : ∀ h : i < (⟨l.toArray⟩ : ByteArray).size, ((⟨l.toArray⟩ : ByteArray)[i]'h).toNat = l[i].toNat := fun h => rfl
      have Hst : Hid (val (l.take (i + 1)) = m * 256 + l[i].toNat) := by show _ = _; rw [val_take l hil, ← HN.out]
      have w1 := wrapG ((m : Int) * 256) (by omega) (by omega)
      have w2' := wrapG ((m : Int) * 256 + (l[i].toNat : Int)) (by omega) (by omega)
      have w3 := wrapG (l[i].toNat : Int) (by omega) (by omega)
      have w4 : wrap64 (l[i].toNat : Int) = (l[i].toNat : Int) := by unfold wrap64; omega
      go_wp2
      refine ⟨⟨i + 1, m * 256 + l[i].toNat, by omega, by go_num, ?_, ?_, trivial⟩, by simp [intOf]; omega⟩
      · refine congrArg (Value.int .i64) ?_
        omega
      · show _ = _; rw [Hst.out]
    · have hge : ¬ (i : Int) < (z : Int) := by omega
      have hmn : (m : Int) = n := by
        have h := HN.out
        rw [List.take_of_length_le (by omega)] at h
        rw [h]; exact HV.out
      have hge2 : ¬ most < n := by omega
      rw [hmn]
      by_cases hz : 0 < z
      · obtain ⟨c, r', hl, hc⟩ := HH.out hz
        subst hl
        have hz' : (0 : Int) < (z : Int) := by omega
        have hcn : (c.toNat : Int) ≠ 0 := fun e => hc (by
          have : c.toNat = 0 := by omega
          exact UInt8.toNat_inj.1 (by simpa using this))
        have hcb : ((c.toNat : Int) == 0) = false := by simpa using hcn
        have hci : ∀ h : 0 < (⟨(c :: r').toArray⟩ : ByteArray).size, (⟨(c :: r').toArray⟩ : ByteArray)[0]'h = c := fun h => rfl
        clear hc hcn HN HV HH hmn
        go_wp2
        go_ret
        exact ⟨rfl, k2, Hr.out, B3⟩
      · have hz0 : ¬ (0 : Int) < (z : Int) := by omega
        clear HN HV HH hmn
        go_wp2
        go_ret
        exact ⟨rfl, k2, Hr.out, B3⟩

theorem num_any (gb : Nat) (B : List UInt8) (at_ : Nat) (n : Int) (r : List UInt8) (w : World) (k : GtAt w gb B at_) (h0 : 0 ≤ n) (h1 : n ≤ 1099511627775) (hB : B.drop at_ = numB n ++ r) (hL : B.length ≤ 1099511626000) :
    Calls Tryz.prog 44 #[.pointer (some ⟨gb, 0, none⟩)] w fun e w' => e = .returned (.int .i64 n) ∧ GtAt w' gb B (at_ + (numB n).length) ∧ B.drop (at_ + (numB n).length) = r ∧ But (fun k => k = gb) w w' := by
  go_enter Tryz.func44, Tryz.ntmps44
  go_wp2_with fail
  refine (upTo_any gb B at_ n 1099511627775 r w k h0 h1 (by omega) hB hL).mono ?_
  rintro e w1 ⟨rfl, k1, h2, B1⟩
  have H2 := show Hid (_ = _) from h2
  clear h2 hB
  go_wp2
  go_ret
  exact ⟨rfl, k1, H2.out, B1⟩

set_option maxHeartbeats 1600000 in
theorem dig_any (gb : Nat) (B : List UInt8) (at_ : Nat) (d : Int) (r : List UInt8) (w : World) (k : GtAt w gb B at_) (h0 : 0 ≤ d) (h1 : d ≤ 18446744073709551615) (hB : B.drop at_ = be d 8 ++ r) (hL : B.length ≤ 1099511626000) :
    Calls Tryz.prog 75 #[.pointer (some ⟨gb, 0, none⟩)] w fun e w' => e = .returned (.int .u64 d) ∧ GtAt w' gb B (at_ + 8) ∧ B.drop (at_ + 8) = r ∧ But (fun k => k = gb) w w' := by
  have hbl := be_len d 8
  have hlen : at_ + (8 + r.length) = B.length := by
    have h := congrArg List.length hB
    rw [List.length_drop, List.length_append, hbl] at h
    omega
  have t1 : (B.drop at_).take 8 = be d 8 := by rw [hB, List.take_append_of_le_length (by omega), List.take_of_length_le (by omega)]
  have Hr : Hid (B.drop (at_ + 8) = r) := by
    show _ = _
    rw [← List.drop_drop, hB, List.drop_append, hbl, List.drop_of_length_le (by omega), List.nil_append]; rfl
  have HV : Hid ((val (be d 8) : Int) = d) := val_be 8 d h0 (by omega)
  have K1 := take_any gb B at_ 8 w k (by omega) (by omega)
  rw [t1] at K1
  have szl := str_size' (be d 8)
  rw [hbl] at szl
  clear t1 hlen hB k
  generalize be d 8 = l at *
  go_enter Tryz.func75, Tryz.ntmps75
  go_wp2_with fail
  refine K1.mono ?_
  rintro e w1 ⟨rfl, k1, B1⟩
  go_wp2_with fail
  go_loopw [4, 5] (fun nv iv wv => ∃ (i m : Nat), i ≤ 8 ∧ iv = .int .i64 i ∧ nv = .int .u64 m ∧ Hid (m = val (l.take i)) ∧ w1 = wv) (fun _ iv _ => 8 - (intOf iv).toNat)
  case atStart => exact ⟨0, 0, Nat.zero_le _, rfl, rfl, rfl, rfl⟩
  case round =>
    obtain ⟨i, m, hi, rfl, rfl, HN, rfl⟩ := hrel
    by_cases hlt : i < 8
    · have hlt' : (i : Int) < 8 := by omega
      have hil : i < l.length := by omega
      have hb : l[i].toNat < 256 := l[i].toNat_lt
      have hml : m < 72057594037927936 := by rw [HN.out]; exact val_take_lt l i (by omega)
      have hx : ∀ h : i < (⟨l.toArray⟩ : ByteArray).size, ((⟨l.toArray⟩ : ByteArray)[i]'h).toNat = l[i].toNat := fun h => rfl
      have Hst : Hid (val (l.take (i + 1)) = m * 256 + l[i].toNat) := by show _ = _; rw [val_take l hil, ← HN.out]
      have w1' := wrap_u ((m : Int) * 256) (by omega) (by omega)
      have w2' := wrap_u ((m : Int) * 256 + (l[i].toNat : Int)) (by omega) (by omega)
      have w3 := wrap_u (l[i].toNat : Int) (by omega) (by omega)
      go_wp2
      refine ⟨⟨i + 1, m * 256 + l[i].toNat, by omega, by go_num, ?_, ?_, trivial⟩, by simp [intOf]; omega⟩
      · refine congrArg (Value.int .u64) ?_
        omega
      · show _ = _; rw [Hst.out]
    · have hge : ¬ (i : Int) < 8 := by omega
      have hmn : (m : Int) = d := by
        have h := HN.out
        rw [List.take_of_length_le (by omega)] at h
        rw [h]; exact HV.out
      rw [hmn]
      clear hmn HN HV
      go_wp2
      go_ret
      exact ⟨rfl, k1, Hr.out, B1⟩

set_option maxHeartbeats 800000 in
theorem gflag_any (gb : Nat) (B : List UInt8) (at_ : Nat) (x : Bool) (r : List UInt8) (w : World) (k : GtAt w gb B at_) (hB : B.drop at_ = flagB x ++ r) (hL : B.length ≤ 1099511626000) :
    Calls Tryz.prog 74 #[.pointer (some ⟨gb, 0, none⟩)] w fun e w' => e = .returned (.bool x) ∧ GtAt w' gb B (at_ + 1) ∧ B.drop (at_ + 1) = r ∧ But (fun k => k = gb) w w' := by
  have hlen : at_ + (1 + r.length) = B.length := by
    have h := congrArg List.length hB
    rw [List.length_drop, List.length_append] at h
    simp only [flagB, List.length_cons, List.length_nil] at h
    omega
  have t1 : (B.drop at_).take 1 = [if x = true then 1 else 0] := by rw [hB]; simp [flagB]
  have Hr : Hid (B.drop (at_ + 1) = r) := by
    show _ = _
    rw [← List.drop_drop, hB]; simp [flagB]
  have K1 := take_any gb B at_ 1 w k (by omega) (by omega)
  rw [t1] at K1
  clear t1 hlen hB k
  cases x
  · have hix : ∀ h : 0 < (⟨#[0]⟩ : ByteArray).size, ((⟨#[0]⟩ : ByteArray)[0]'h).toNat = 0 := fun h => rfl
    simp only [Bool.false_eq_true, if_false] at K1
    go_enter Tryz.func74, Tryz.ntmps74
    go_wp2_with fail
    refine K1.mono ?_
    rintro e w1 ⟨rfl, k1, B1⟩
    have kk : Blk w1 gb #[.string ⟨B.toArray⟩, .int .i64 ((at_ + 1 : Nat) : Int), .int .i64 0] 80 := k1
    have c2 : w1.cell? ⟨gb, 2, none⟩ = some (.int .i64 0) := kk.cell 2
    have zb := kk.lt
    clear kk
    go_wp2
    go_ret
    exact ⟨rfl, k1, Hr.out, B1⟩
  · have hix : ∀ h : 0 < (⟨#[1]⟩ : ByteArray).size, ((⟨#[1]⟩ : ByteArray)[0]'h).toNat = 1 := fun h => rfl
    simp only [if_true] at K1
    go_enter Tryz.func74, Tryz.ntmps74
    go_wp2_with fail
    refine K1.mono ?_
    rintro e w1 ⟨rfl, k1, B1⟩
    have kk : Blk w1 gb #[.string ⟨B.toArray⟩, .int .i64 ((at_ + 1 : Nat) : Int), .int .i64 0] 80 := k1
    have c2 : w1.cell? ⟨gb, 2, none⟩ = some (.int .i64 0) := kk.cell 2
    have zb := kk.lt
    clear kk
    go_wp2
    go_ret
    exact ⟨rfl, k1, Hr.out, B1⟩
end Go.Proofs.YtaifkidpdmhciaaGreat
