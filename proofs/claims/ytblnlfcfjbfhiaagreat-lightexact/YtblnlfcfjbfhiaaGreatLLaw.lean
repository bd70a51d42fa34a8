/- LightExact: the law. -/
import Derived.Test.YtblnlfcfjbfhiaaGreatLLawA
namespace Go.Proofs.YtblnlfcfjbfhiaaGreat
open Go.RowKit
set_option linter.unusedVariables false
set_option linter.unusedSimpArgs false

/-- What the first loop sums up. -/
def sumN (v : Vw) (xs : List (Sg × Int)) : Nat := v.l.length + (xs.map fun x => x.1.sl.length + x.1.fr.length + 1).sum
theorem sumN_take (v : Vw) {xs : List (Sg × Int)} {i : Nat} (h : i < xs.length) : sumN v (xs.take (i + 1)) = sumN v (xs.take i) + (xs[i].1.sl.length + xs[i].1.fr.length + 1) := by
  unfold sumN
  rw [List.take_succ_eq_append_getElem h, List.map_append, List.sum_append]
  simp
  omega
theorem sum_mem {xs : List (Sg × Int)} {x : Sg × Int} (h : x ∈ xs) : x.1.sl.length + x.1.fr.length + 1 ≤ (xs.map fun x => x.1.sl.length + x.1.fr.length + 1).sum := by
  induction xs with
  | nil => simp at h
  | cons y r ih =>
    rw [List.map_cons, List.sum_cons]
    rcases List.mem_cons.1 h with e | h
    · subst e; omega
    · have := ih h; omega
theorem sum_len (xs : List (Sg × Int)) : xs.length ≤ (xs.map fun x => x.1.sl.length + x.1.fr.length + 1).sum := by
  induction xs with
  | nil => simp
  | cons y r ih =>
    rw [List.map_cons, List.sum_cons, List.length_cons]
    omega

set_option maxRecDepth 20000 in
set_option maxHeartbeats 12800000 in
theorem light_any (v : Vw) (la : Option Addr) (lc : Nat) (xs : List (Sg × Int)) (w : World) (hv : v.l.length ≤ 4096 → v.Ok w) (hvl : v.l.length ≤ 140737488351232) (hx : ShsAt w la xs) (hxl : xs.length ≤ 140737488351232) (hok : ∀ x ∈ xs, x.1.sl.length ≤ 140737488351232 ∧ x.1.fr.length ≤ 140737488351232 ∧ (x.1.sl.length ≤ 4096 → x.1.fr.length ≤ 4096 → x.1.Ok w) ∧ InN x.2) :
    Calls Tryz.prog 3 #[.agg v.arr, .slice la xs.length lc] w fun e w' => e = .returned (.bool true) ∧ Below w.heap.size w w' := by
  have HVL : Hid (v.Ok w ∧ sumN v xs ≤ 4096 → L2At w w.heap.size v [] (.slice none 0 0) (w.alloc (.cells v.arr 26))) := fun ⟨q, _⟩ => by
    have bA : Below w.heap.size w (w.alloc (.cells v.arr 26)) := (Below.refl _ _).alloc (Nat.le_refl _) _
    exact ⟨Blk.new w _ _, q.below bA, fun hz a ha => q.sl.low hz a ha, World.ownsRow_nil _ _ _ _, fun s hs => (by simp at hs), fun s hs => (by simp at hs), bA, Nat.le_refl _⟩
  have HS0a : Hid (sumN v (xs.take 0) = v.l.length) := by show _ = _; simp [sumN]
  have HSTa : Hid (∀ i (h : i < xs.length), sumN v (xs.take (i + 1)) = sumN v (xs.take i) + (xs[i].1.sl.length + xs[i].1.fr.length + 1)) := fun i h => sumN_take v h
  have HFIN : Hid (sumN v xs ≤ 4096 → v.l.length ≤ 4096 ∧ xs.length ≤ 4096 ∧ ∀ x ∈ xs, x.1.sl.length ≤ 4096 ∧ x.1.fr.length ≤ 4096) := fun h => by
    unfold sumN at h
    have h1 := sum_len xs
    exact ⟨by omega, by omega, fun x hx => by have := sum_mem hx; omega⟩
  have HSM : ∀ i, ∃ n : Nat, sumN v (xs.take i) = n := fun i => ⟨_, rfl⟩
  obtain ⟨f, hf⟩ : ∃ f : Nat → Nat, ∀ i, sumN v (xs.take i) = f i := ⟨_, fun i => rfl⟩
  have hfl : sumN v xs = f xs.length := by rw [← hf, List.take_of_length_le (Nat.le_refl _)]
  have HS0 : Hid (f 0 = v.l.length) := by show _ = _; rw [← hf]; exact HS0a.out
  have HST : Hid (∀ i (h : i < xs.length), f (i + 1) = f i + (xs[i].1.sl.length + xs[i].1.fr.length + 1)) := fun i h => by rw [← hf, ← hf]; exact HSTa.out i h
  rw [hfl] at HVL HFIN
  clear hf hfl HSM HS0a HSTa
  obtain ⟨c, wi, ep, h, st, a, cap, l⟩ := v
  have bA : Below w.heap.size w (w.alloc (.cells #[.int .i64 c, .int .i64 wi, .int .i64 ep, .int .i64 h, .int .u64 st, .slice a l.length cap] 26)) := (Below.refl _ _).alloc (Nat.le_refl _) _
  simp only [Vw.arr] at HVL HS0 hvl ⊢
  go_enter Tryz.func3, Tryz.ntmps3
  go_upto_block 0 with fail
  generalize w.alloc (.cells #[.int .i64 c, .int .i64 wi, .int .i64 ep, .int .i64 h, .int .u64 st, .slice a l.length cap] 26) = wA at *
  go_cut [5] (fun nv wx => ∃ n : Nat, nv = .int .i64 n ∧ (n ≤ 4096 → f xs.length ≤ 4096) ∧ Below wA.heap.size wA wx)
  case first =>
    go_wp2_with fail
    go_loopw [5, 6] (fun nv iv w2 => ∃ i : Nat, i ≤ xs.length ∧ iv = .int .i64 i ∧ nv = .int .i64 (f i : Nat) ∧ f i ≤ 14073748835123200000000000 ∧ Below wA.heap.size wA w2) (fun nv iv _ => xs.length - (intOf iv).toNat)
    case atStart => exact ⟨0, Nat.zero_le _, rfl, by rw [HS0.out], by rw [HS0.out]; omega, Below.refl _ _⟩
    case round =>
      obtain ⟨i, hi, rfl, rfl, hfi, hb⟩ := hrel
      by_cases hlt : i < xs.length
      · have hlt' : (i : Int) < (xs.length : Int) := by omega
        by_cases hle : f i ≤ 4096
        · have hle' : ((f i : Nat) : Int) ≤ 4096 := by omega
          have B2 := bA.trans (hb.mono bA.size)
          obtain ⟨sb, so, e, hsb, hc0⟩ := hx.one hlt
          subst e
          have hoks := hok _ (List.getElem_mem hlt)
          have hst := HST.out i hlt
          generalize xs[i] = x at *
          obtain ⟨⟨hc, hh, hpa, htx, hgu, hst, hre, hbe, hpr, kh, kr, ks, khas, kbl, fa, fcap, fr, ta, tcap, tl⟩, t⟩ := x
          have hsb1 : sb < wr.heap.size := Nat.lt_of_lt_of_le hsb B2.size
          have s14 := hc0 wr B2 14 _ rfl
          have s15 := hc0 wr B2 15 _ rfl
          obtain ⟨o1, o2, o3, o4⟩ := hoks
          have HN : Hid (f (i + 1) = f i + (tl.length + fr.length + 1)) := hst
          simp only at o1 o2
          obtain ⟨fi, Hfi⟩ : ∃ z, Hid (f i = z) := ⟨_, rfl⟩
          rw [Hfi.out] at hle hle' hfi HN ⊢
          have w1 := wrapI ((fi : Int) + (tl.length : Int)) (by omega) (by omega)
          have w2 := wrapI ((fi : Int) + (tl.length : Int) + (fr.length : Int)) (by omega) (by omega)
          have w3 := wrapI ((fi : Int) + (tl.length : Int) + (fr.length : Int) + 1) (by omega) (by omega)
          clear hc0 hst o3 o4 Hfi
          go_upto_region 5 with fail
          go_quiet (fail)
          go_wp2
          exact ⟨⟨i + 1, by omega, by go_num, by rw [HN.out]; first | rfl | (congr 1; omega) | (simp; omega), by rw [HN.out]; omega, below_drewN hb _⟩, by simp [intOf]; omega⟩
        · have hle' : ¬ ((f i : Nat) : Int) ≤ 4096 := by omega
          go_wp2_with fail
          go_meet
          case rel => exact ⟨f i, rfl, fun q => by omega, hb⟩
      · have hge : ¬ (i : Int) < (xs.length : Int) := by omega
        have hie : i = xs.length := by omega
        subst hie
        go_wp2_with fail
        go_meet
        case rel => exact ⟨f xs.length, rfl, fun q => q, hb⟩
  case rest =>
    obtain ⟨n, rfl, hn, hb⟩ := hcut
    generalize wc = wx at *
    have B2 := bA.trans (hb.mono bA.size)
    by_cases hg : 4096 < n
    · have hg' : (4096 : Int) < (n : Int) := by omega
      clear HVL hn HFIN HST HS0
      go_wp2
      go_ret
      exact ⟨rfl, B2⟩
    · have hg' : ¬ (4096 : Int) < (n : Int) := by omega
      have hle := hn (by omega)
      obtain ⟨f1, f2, f3⟩ := HFIN.out hle
      have H := (HVL.out ⟨hv f1, hle⟩).next hb
      have hok2 : ∀ x ∈ xs, x.1.Ok w ∧ InN x.2 := fun x hx => ⟨(hok x hx).2.2.1 (f3 x hx).1 (f3 x hx).2, (hok x hx).2.2.2⟩
      clear HVL hn HFIN HST HS0 hv hok bA B2
      go_upto_if 52 with fail
      go_cut [] (fun wy => wx = wy)
      case first =>
        go_wp2_with fail
        go_meet
        case rel => rfl
      case rest =>
        subst hcut
        refine ‹∀ a w, Code.wp Tryz.prog _ _ a w → _› _ _ ?_
        exact ltA ⟨c, wi, ep, h, st, a, cap, l⟩ la lc xs w wx hx hok2 f2 H _ _ _ _ _ _ _ _ _ _ _ _ _ _ _ _ _ _ _ _ _ _ _ _ _ _ _ _ _ _ _ _ _ _ _ _ _ _ _ _ _ _ _ _ _ _ _ _ _ _ _ _ _ _ _ _ _ _ _ _ _ _ _ _ _ _ _ _ _ _ _ _ _ _ _ _ _ _ _ _ _ _ _ _ _ _ _ _ _ _ _ _ _ _ _ _ _ _ _ _ _ _ _ _ _ _ _ _ _ _ _ _ _ _ _ _ _ _ _ _ _ _ _ _ _ _ _ _ _ _ _ _ _ _ _ _ _ _ _ _ _ _ _ _ _ _ _ _ _ _ _ _ _ _ _ _ _ _ _ _ _ _ _ _ _ _ _ _ _ _ _ _ _ _ _ _ _ _ _ _ _ _ _ _ _ _
end Go.Proofs.YtblnlfcfjbfhiaaGreat
