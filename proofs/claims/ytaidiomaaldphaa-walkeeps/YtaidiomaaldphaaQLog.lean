/- A log in memory; what arms it, what makes it die. -/
import Derived.Test.YtaidiomaaldphaaQAll
import Derived.RegionTactic
import Derived.BigRegion
import Derived.ChangeAlike
namespace Go.Proofs.Ytaidiomaaldphaa
open Go.RowKit
set_option linter.unusedVariables false
set_option linter.unusedSimpArgs false

/-- A log: its bytes, how many are safe, is it down, what is armed. -/
def LogAt (w : World) (lb : Nat) (B : List UInt8) (sf : Int) (dn : Bool) (lf kp : Int) : Prop :=
  ∃ v, Blk w lb #[v, .int .i64 sf, .bool dn, .int .i64 lf, .int .i64 kp] 60 ∧ w.ownsRow lb 5 1 v B.length (bcells B)
theorem LogAt.lt {w : World} {lb : Nat} {B : List UInt8} {sf : Int} {dn : Bool} {lf kp : Int} (h : LogAt w lb B sf dn lf kp) : lb < w.heap.size := by
  obtain ⟨v, h1, h2⟩ := h
  exact h1.lt
theorem LogAt.below {w w' : World} {lb : Nat} {B : List UInt8} {sf : Int} {dn : Bool} {lf kp : Int} (h : LogAt w lb B sf dn lf kp) (hb : Below w.heap.size w w') : LogAt w' lb B sf dn lf kp := by
  obtain ⟨v, h1, h2⟩ := h
  exact ⟨v, h1.below hb h1.lt, owns_below h2 hb⟩
/-- A row of bytes, cut. -/
theorem owns_take {w : World} {base : Nat} {a : Option Addr} {n c : Nat} {B : List UInt8} (h : w.ownsRow base 5 1 (.slice a n c) n (bcells B)) (hn : B.length = n) (k : Nat) (hk : k ≤ n) : w.ownsRow base 5 1 (.slice a k c) k (bcells (B.take k)) := by
  obtain ⟨h1, h2⟩ := h
  refine ⟨by rw [bcells_length, List.length_take]; omega, ?_⟩
  rcases h2 with ⟨e, h0⟩ | ⟨g, cap, cur, e, e2, e3, e4, e5, e6, e7⟩
  · obtain rfl : k = 0 := by omega
    left
    simp only [Value.slice.injEq] at e
    obtain ⟨rfl, _, rfl⟩ := e
    exact ⟨rfl, rfl⟩
  · right
    simp only [Value.slice.injEq, true_and] at e
    obtain ⟨rfl, rfl⟩ := e
    refine ⟨g, c, cur, rfl, e2, e3, by omega, e5, e6, ?_⟩
    have : bcells (B.take k) = (bcells B).take k := by simp [bcells, List.map_take]
    rw [this, ← e7, List.take_take]
    congr 1
    omega
theorem owns_cap {w : World} {base : Nat} {e : TypeId} {a : Option Addr} {n c : Nat} {xs : List Value} (h : w.ownsRow base e 1 (.slice a n c) n xs) : n ≤ c := by
  rcases h.2 with ⟨e, h0⟩ | ⟨g, cap, cur, e, e2, e3, e4, e5, e6, e7⟩
  · omega
  · simp only [Value.slice.injEq, true_and] at e
    obtain ⟨rfl, rfl⟩ := e
    omega
theorem bytes_len {w : World} {base : Nat} {a : Option Addr} {n c : Nat} {B : List UInt8} (h : w.ownsRow base 5 1 (.slice a n c) n (bcells B)) : B.length = n := by
  have := h.1
  rw [bcells_length] at this
  omega

set_option maxHeartbeats 800000 in
theorem arm_any (lb : Nat) (B : List UInt8) (sf : Int) (dn : Bool) (lf kp n k : Int) (w : World) (H : LogAt w lb B sf dn lf kp) :
    Calls Try.prog 7 #[.pointer (some ⟨lb, 0, none⟩), .int .i64 n, .int .i64 k] w fun e w' => e = .returned (.tuple #[]) ∧ LogAt w' lb B sf dn n k ∧ Kp lb lb w w' := by
  obtain ⟨v, hk, ho⟩ := H
  have c3 := (hk.cell 3).trans rfl
  have c4 := (hk.cell 4).trans rfl
  have f3 := hk.frozen 3
  have f4 := hk.frozen 4
  have z := hk.lt
  have k3 := hk.set 3 (.int .i64 n)
  have k4 := k3.set 4 (.int .i64 k)
  have o3 := owns_set ho hk (by decide) 3 (.int .i64 n)
  have o4 := owns_set o3 k3 (by decide) 4 (.int .i64 k)
  have K := (Kp.set (base := lb) (b := lb) (w := w) (Nat.le_refl _) 3 (.int .i64 n)).trans (Kp.set (Nat.le_refl _) 4 (.int .i64 k))
  go_enter Try.func7, Try.ntmps7
  go_wp2
  go_end0
  exact ⟨rfl, ⟨v, k4, o4⟩, K⟩

set_option maxHeartbeats 1600000 in
theorem die_any (lb : Nat) (B : List UInt8) (sf : Nat) (dn : Bool) (lf kp keep : Int) (w : World) (H : LogAt w lb B sf false lf kp) (hs : sf ≤ B.length) (hB : B.length ≤ 1000000) (hk : -9223372036854775808 ≤ keep ∧ keep ≤ 9223372036854775807) :
    Calls Try.prog 8 #[.pointer (some ⟨lb, 0, none⟩), .int .i64 keep] w fun e w' => e = .returned (.tuple #[]) ∧ (∃ sf' : Nat, sf ≤ sf' ∧ sf' ≤ B.length ∧ (keep = B.length → sf' = B.length) ∧ LogAt w' lb (B.take sf') sf' true 0 0) ∧ Kp lb lb w w' := by
  obtain ⟨v, hk0, ho⟩ := H
  obtain ⟨a, c, rfl⟩ := owns_form ho
  have c0 := (hk0.cell 0).trans rfl
  have c1 := (hk0.cell 1).trans rfl
  have c2 := (hk0.cell 2).trans rfl
  have f1 := hk0.frozen 1
  have z := hk0.lt
  have ws1 : IntKind.i64.wrap ((B.length : Int) - (sf : Int)) = (B.length : Int) - (sf : Int) := wrapI _ (by omega) (by omega)
  go_enter Try.func8, Try.ntmps8
  go_wp2_with fail
  go_region
  obtain ⟨n, he, hn1, hn2, hn3⟩ : ∃ n : Nat, ((sf : Int) + if (B.length : Int) - (sf : Int) < (if keep < 0 then 0 else keep) then (B.length : Int) - (sf : Int) else (if keep < 0 then 0 else keep)) = (n : Int) ∧ sf ≤ n ∧ n ≤ B.length ∧ (keep = B.length → n = B.length) := by
    by_cases h1 : keep < 0
    · rw [if_pos h1]
      split
      · omega
      · exact ⟨sf, by omega, Nat.le_refl _, hs, fun e => by omega⟩
    · rw [if_neg h1]
      split
      · exact ⟨B.length, by omega, hs, Nat.le_refl _, fun _ => rfl⟩
      · exact ⟨sf + keep.toNat, by omega, by omega, by omega, fun e => by omega⟩
  simp only [he]
  have HN := show Hid (_ ∧ _) from ⟨hn1, hn3⟩
  clear hn1 hn3 he
  generalize (if (B.length : Int) - (sf : Int) < (if keep < 0 then 0 else keep) then (B.length : Int) - (sf : Int) else (if keep < 0 then 0 else keep)) = q1 at *
  generalize (if keep < 0 then 0 else keep) = q2 at *
  have k1 : Blk (w.setCell ⟨lb, 1, none⟩ (.int .i64 (n : Int))).drew lb #[.slice a B.length c, .int .i64 (n : Int), .bool false, .int .i64 lf, .int .i64 kp] 60 := (hk0.set 1 (.int .i64 (n : Int))).drew
  have o1 := owns_below (owns_set ho hk0 (by decide) 1 (.int .i64 (n : Int))) (Below.drew (Below.refl _ _))
  have K1 : Kp lb lb w (w.setCell ⟨lb, 1, none⟩ (.int .i64 (n : Int))).drew := (Kp.set (Nat.le_refl _) 1 _).trans (Kp.of_below (Below.drew (Below.refl _ _)) (Nat.le_of_lt (by rw [World.size_setCell]; exact z)))
  generalize (w.setCell ⟨lb, 1, none⟩ (.int .i64 (n : Int))).drew = w1 at *
  have hcap : B.length ≤ c := owns_cap o1
  clear c0 c1 c2 f1 z hk0 ho ws1
  have c0 := (k1.cell 0).trans rfl
  have c1 := (k1.cell 1).trans rfl
  have f0 := k1.frozen 0
  have z := k1.lt
  have hnc : (0 : Int) ≤ (n : Int) ∧ (n : Int) ≤ (c : Int) := by omega
  go_wp2_with fail
  go_region
  have k2 : Blk (w1.setCell ⟨lb, 0, none⟩ (.slice a n c)).drew lb #[.slice a n c, .int .i64 (n : Int), .bool false, .int .i64 lf, .int .i64 kp] 60 := (k1.set 0 (.slice a n c)).drew
  have o2 := owns_below (owns_set (owns_take o1 rfl n hn2) k1 (by decide) 0 (.slice a n c)) (Below.drew (Below.refl _ _))
  have K2 : Kp lb lb w (w1.setCell ⟨lb, 0, none⟩ (.slice a n c)).drew := K1.trans ((Kp.set (Nat.le_refl _) 0 _).trans (Kp.of_below (Below.drew (Below.refl _ _)) (Nat.le_of_lt (by rw [World.size_setCell]; exact z))))
  generalize (w1.setCell ⟨lb, 0, none⟩ (.slice a n c)).drew = w2 at *
  clear c0 c1 f0 z k1 o1 K1
  have c2 := (k2.cell 2).trans rfl
  have f2 := k2.frozen 2
  have z := k2.lt
  have k3 := k2.set 2 (.bool true)
  have o3 := owns_set o2 k2 (by decide) 2 (.bool true)
  have K3 := K2.trans (Kp.set (Nat.le_refl _) 2 (.bool true))
  clear o2 K2
  go_wp2_with fail
  generalize w2.setCell ⟨lb, 2, none⟩ (.bool true) = w3 at *
  have hlen : (B.take n).length = n := by rw [List.length_take]; omega
  refine (arm_any lb (B.take n) n true lf kp 0 0 w3 ⟨.slice a n c, k3, by rw [hlen]; exact o3⟩).mono ?_
  rintro e w4 ⟨rfl, L4, K4⟩
  have K5 := K3.trans K4
  go_wp2
  go_end0
  exact ⟨rfl, ⟨n, HN.out.1, hn2, HN.out.2, L4⟩, K5⟩

set_option maxHeartbeats 800000 in
theorem die_down (lb : Nat) (B : List UInt8) (sf lf kp keep : Int) (w : World) (H : LogAt w lb B sf true lf kp) :
    Calls Try.prog 8 #[.pointer (some ⟨lb, 0, none⟩), .int .i64 keep] w fun e w' => e = .returned (.tuple #[]) ∧ w = w' := by
  obtain ⟨v, hk0, ho⟩ := H
  have c2 := (hk0.cell 2).trans rfl
  have z := hk0.lt
  go_enter Try.func8, Try.ntmps8
  go_wp2
  exact bodyPost_ret (v := .tuple #[]) (by simp [results, Try.results8]) rfl ⟨rfl, rfl⟩

theorem down_any (lb : Nat) (B : List UInt8) (sf : Int) (dn : Bool) (lf kp : Int) (w : World) (H : LogAt w lb B sf dn lf kp) :
    Calls Try.prog 10 #[.pointer (some ⟨lb, 0, none⟩)] w fun e w' => e = .returned (.bool dn) ∧ w = w' := by
  obtain ⟨v, hk0, ho⟩ := H
  have c2 := (hk0.cell 2).trans rfl
  have z := hk0.lt
  go_enter Try.func10, Try.ntmps10
  go_wp2
  go_ret
  exact ⟨rfl, rfl⟩

/-- What an act leaves: whether it dies at it, and how it is then. -/
def Acted (lb : Nat) (B : List UInt8) (sf : Nat) (d : Bool) (w w' : World) : Prop :=
  ((d = false ∧ ∃ lf kp : Int, (-9223372036854775808 ≤ lf ∧ lf ≤ 9223372036854775807) ∧ (-9223372036854775808 ≤ kp ∧ kp ≤ 9223372036854775807) ∧ LogAt w' lb B sf false lf kp) ∨ (d = true ∧ ∃ n : Nat, sf ≤ n ∧ n ≤ B.length ∧ LogAt w' lb (B.take n) n true 0 0)) ∧ Kp lb lb w w'

def ActE (lb : Nat) (B : List UInt8) (sf : Nat) (w : World) (e : Ending) (w' : World) : Prop := ∃ d : Bool, e = .returned (.bool d) ∧ Acted lb B sf d w w'
/-- What Sync leaves. -/
def SyncE (lb : Nat) (B : List UInt8) (sf : Nat) (dn : Bool) (w : World) (e : Ending) (w' : World) : Prop :=
  (e = .returned (.int .i64 27) ∧ ((dn = true ∧ w = w') ∨ (dn = false ∧ Acted lb B sf true w w'))) ∨ (e = .returned (.int .i64 0) ∧ dn = false ∧ Acted lb B B.length false w w')

set_option maxHeartbeats 1600000 in
theorem diesNow_any (lb : Nat) (B : List UInt8) (sf : Nat) (lf kp : Int) (w : World) (H : LogAt w lb B sf false lf kp) (hs : sf ≤ B.length) (hB : B.length ≤ 1000000) (hl : -9223372036854775808 ≤ lf ∧ lf ≤ 9223372036854775807) (hk : -9223372036854775808 ≤ kp ∧ kp ≤ 9223372036854775807) :
    Calls Try.prog 12 #[.pointer (some ⟨lb, 0, none⟩)] w fun e w' => ActE lb B sf w e w' := by
  have H0 := H
  obtain ⟨v, hk0, ho⟩ := H
  have c3 := (hk0.cell 3).trans rfl
  have f3 := hk0.frozen 3
  have z := hk0.lt
  by_cases h1 : lf < 1
  · go_enter Try.func12, Try.ntmps12
    go_wp2
    go_ret
    exact ⟨false, rfl, .inl ⟨rfl, lf, kp, hl, hk, H0⟩, Kp.refl _ _ _⟩
  have ws : IntKind.i64.wrap (lf - 1) = lf - 1 := wrapI _ (by omega) (by omega)
  have k1 : Blk (w.setCell ⟨lb, 3, none⟩ (.int .i64 (lf - 1))) lb #[v, .int .i64 sf, .bool false, .int .i64 (lf - 1), .int .i64 kp] 60 := hk0.set 3 (.int .i64 (lf - 1))
  have o1 := owns_set ho hk0 (by decide) 3 (.int .i64 (lf - 1))
  have K1 := Kp.set (base := lb) (b := lb) (w := w) (Nat.le_refl _) 3 (.int .i64 (lf - 1))
  have L1 : LogAt (w.setCell ⟨lb, 3, none⟩ (.int .i64 (lf - 1))) lb B sf false (lf - 1) kp := ⟨v, k1, o1⟩
  have d3 := (k1.cell 3).trans rfl
  have d4 := (k1.cell 4).trans rfl
  have z1 := k1.lt
  clear o1 ho H0
  go_enter Try.func12, Try.ntmps12
  go_upto_region 4 with fail
  generalize w.setCell ⟨lb, 3, none⟩ (.int .i64 (lf - 1)) = w1 at *
  clear c3 f3 hk0
  by_cases h2 : 0 < lf - 1
  · go_wp2
    go_ret
    exact ⟨false, rfl, .inl ⟨rfl, lf - 1, kp, by omega, hk, L1⟩, K1⟩
  · go_wp2_with fail
    refine (die_any lb B sf false (lf - 1) kp kp w1 L1 hs hB hk).mono ?_
    rintro e w2 ⟨rfl, ⟨n, hn1, hn2, _, L2⟩, K2⟩
    have K3 := K1.trans K2
    go_wp2
    go_ret
    exact ⟨true, rfl, .inr ⟨rfl, n, hn1, hn2, L2⟩, K3⟩

set_option maxHeartbeats 1600000 in
theorem sync_any (lb : Nat) (B : List UInt8) (sf : Nat) (dn : Bool) (lf kp : Int) (w : World) (H : LogAt w lb B sf dn lf kp) (hs : sf ≤ B.length) (hB : B.length ≤ 1000000) (hl : -9223372036854775808 ≤ lf ∧ lf ≤ 9223372036854775807) (hk : -9223372036854775808 ≤ kp ∧ kp ≤ 9223372036854775807) :
    Calls Try.prog 6 #[.pointer (some ⟨lb, 0, none⟩)] w fun e w' => SyncE lb B sf dn w e w' := by
  have H0 := H
  obtain ⟨v, hk0, ho⟩ := H
  have c2 := (hk0.cell 2).trans rfl
  have z := hk0.lt
  cases dn
  · go_enter Try.func6, Try.ntmps6
    go_wp2_with fail
    refine (diesNow_any lb B sf lf kp w H0 hs hB hl hk).mono ?_
    rintro e w1 ⟨d, rfl, Ac⟩
    clear c2 z hk0 ho H0
    cases d
    · obtain ⟨⟨_, lf', kp', hl', hk', L1⟩ | ⟨h, _⟩, K1⟩ := Ac
      · obtain ⟨v', hk1, ho1⟩ := L1
        obtain ⟨a, c, rfl⟩ := owns_form ho1
        have c0 := (hk1.cell 0).trans rfl
        have c1 := (hk1.cell 1).trans rfl
        have f1 := hk1.frozen 1
        have z := hk1.lt
        have k2 := hk1.set 1 (.int .i64 (B.length : Int))
        have o2 := owns_set ho1 hk1 (by decide) 1 (.int .i64 (B.length : Int))
        have K2 := K1.trans (Kp.set (Nat.le_refl _) 1 (.int .i64 (B.length : Int)))
        clear ho1
        go_wp2
        go_ret
        exact .inr ⟨rfl, rfl, .inl ⟨rfl, lf', kp', hl', hk', _, k2, o2⟩, K2⟩
      · cases h
    · go_wp2
      go_ret
      exact .inl ⟨rfl, .inr ⟨rfl, Ac⟩⟩
  · go_enter Try.func6, Try.ntmps6
    go_wp2
    go_ret
    exact .inl ⟨rfl, .inl ⟨rfl, rfl⟩⟩
end Go.Proofs.Ytaidiomaaldphaa
