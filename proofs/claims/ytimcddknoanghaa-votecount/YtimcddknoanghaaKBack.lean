/- slices.Backward of numbers: what its iterator yields. -/
import Derived.RangeFuncBox
import Derived.RangeFuncLeaves
import Derived.RangeFuncNested
import Derived.RangeFuncWrites
import Derived.Shelf.Abstract
import Derived.Shelf.RegionOpen
import Derived.WalkKit
import Derived.OwnWalkIn
import Derived.TacticsInMore
import Derived.LoopNIn
import Derived.LoopIn
import Derived.Test.YtimcddknoanghaaKFor
namespace Go.Proofs.Ytimcddknoanghaa
open Go.RowKit Go.Shelf
attribute [local go_sem] Oper.semAt_some
set_option linter.unusedVariables false
set_option linter.unusedSimpArgs false

/-- A number that may be. -/
abbrev Tn := { t : Int // -9223372036854775808 ≤ t ∧ t ≤ 9223372036854775807 }
instance : Inhabited Tn := ⟨⟨0, by simp⟩⟩
/-- What a round keeps: all below, and the box of the list. -/
def KpB (n0 Bs : Nat) (W W' : World) : Prop := Below n0 W W' ∧ W'.cell? ⟨Bs, 0, none⟩ = W.cell? ⟨Bs, 0, none⟩
theorem KpB.refl (n0 Bs : Nat) (W : World) : KpB n0 Bs W W := ⟨Below.refl _ _, rfl⟩
theorem KpB.trans {n0 Bs : Nat} {A B C : World} (h : KpB n0 Bs A B) (k : KpB n0 Bs B C) : KpB n0 Bs A C := ⟨h.1.trans k.1, k.2.trans h.2⟩
/-- The first k that come. -/
def backs (zs : List Tn) (k : Nat) : List (Nat × Tn) := (List.range k).map fun m => (zs.length - 1 - m, zs[zs.length - 1 - m]?.getD default)
theorem backs_succ (zs : List Tn) (k : Nat) : backs zs (k + 1) = backs zs k ++ [(zs.length - 1 - k, zs[zs.length - 1 - k]?.getD default)] := by simp [backs, List.range_succ]
theorem backs_length (zs : List Tn) (k : Nat) : (backs zs k).length = k := by simp [backs]
theorem backs_all (zs : List Tn) : (backs zs zs.length).map (·.2) = zs.reverse := by
  apply List.ext_getElem
  · simp [backs]
  · intro i h1 h2
    simp only [backs, List.map_map, List.getElem_map, List.getElem_range, Function.comp, List.getElem_reverse]
    have hi : i < zs.length := by simpa using h2
    rw [List.getElem?_eq_getElem (by omega)]
    rfl

set_option maxRecDepth 100000 in
set_option maxHeartbeats 2000000 in
theorem back1_in (n lb Bs n0 b off cap : Nat) (zs : List Tn) (hz : zs.length ≤ 4611686018427387904) (hb : b < n0) (J Jx : List (Nat × Tn) → World → Prop)
    (hY : ∀ m pre x W, J pre W → pre.length < zs.length → YieldAt Fence.wide m Try.prog lb #[.int .i64 (x.1 : Int), .int .i64 x.2.1] W fun e W' =>
      (e = .returned (.bool true) ∧ J (pre ++ [x]) W' ∧ KpB n0 Bs W W') ∨ (e = .returned (.bool false) ∧ Jx (pre ++ [x]) W'))
    (W : World) (hBs : W.cell? ⟨Bs, 0, none⟩ = some (.slice (some ⟨b, off, none⟩) zs.length cap))
    (hc : ∀ i x, zs[i]? = some x → W.cell? ⟨b, off + i, none⟩ = some (.int .i64 x.1)) (h0 : J [] W) :
    CallsIn Fence.wide n Try.prog 55 #[.func (.yield lb) #[] #[], .pointer (some ⟨Bs, 0, none⟩)] W fun e W' => (∃ v, e = .returned v) ∧
      ((∃ ys, ys = backs zs zs.length ∧ J ys W') ∨ (∃ pre, (∃ k, k ≤ zs.length ∧ pre = backs zs k) ∧ Jx pre W')) := by
  have hdd : ∀ k : Nat, (Fence.wide.depth.isSome = true → 1 ≤ k) := fun k h => by cases h
  refine callsIn_of_wp Try.func55 rfl trivial ?_ rfl
  simp only [Try.ntmps55, List.size_toArray, List.length_cons, List.length_nil, Nat.reduceAdd, Nat.reduceSub, Array.replicate_succ, Array.replicate_zero, List.push_toArray, List.append_toArray, List.nil_append, List.cons_append]
  gi_wp2
  gi_loopw [3] (fun iv wr => ∃ (k : Nat) (j : Int), j + 1 + (k : Int) = (zs.length : Int) ∧ iv = .int .i64 j ∧ -1 ≤ j ∧ J (backs zs k) wr ∧ KpB n0 Bs W wr) (fun iv _ => (intOf iv + 1).toNat)
  case atStart => exact ⟨0, _, by omega, rfl, by omega, by simpa [backs] using h0, KpB.refl _ _ _⟩
  case round =>
    obtain ⟨k, j, hj, rfl, hj0, hJs, hnx⟩ := hrel
    by_cases hlt : 0 ≤ j
    · obtain ⟨i, rfl⟩ : ∃ i : Nat, j = i := ⟨j.toNat, by omega⟩
      have hi : i < zs.length := by omega
      have hi' : (i : Int) < (zs.length : Int) := by omega
      have ei : zs.length - 1 - k = i := by omega
      have hget := List.getElem?_eq_getElem hi
      have hx := backs_succ zs k
      rw [ei, hget, Option.getD_some] at hx
      have hkl : k < zs.length := by omega
      have hkk : (k : Int) = (zs.length : Int) - 1 - (i : Int) := by omega
      have h1 := hc i _ hget
      obtain ⟨⟨xp, hxx⟩, ex⟩ : ∃ x, zs[i] = x := ⟨_, rfl⟩
      rw [ex] at hx h1
      have c1 := (hnx.1.cell (p := ⟨b, off + i, none⟩) hb).trans h1
      have c3 := hnx.2.trans hBs
      obtain ⟨fn, tmps, assign, body, hy, hR⟩ := hY (n - 1) _ (i, ⟨xp, hxx⟩) wr hJs (by rw [backs_length]; exact hkl)
      have HX : Hid (_ = _) := hx
      have HJ : Hid ((i : Int) + 1 + (k : Int) = (zs.length : Int)) := hj
      clear hx hget ex h1 hj ei hkk hc
      dsimp only at hy
      have hb1 : (i : Int) ≤ 4611686018427387904 := by omega
      gi_wp2
      (try refine ⟨trivial, ?_⟩)
      (try refine ⟨hdd _, ?_⟩)
      refine hR.mono ?_
      rintro e W3 (⟨rfl, hJ3, hk3⟩ | ⟨rfl, hJx3⟩)
      · gi_wp2
        go_roundw
        case rel => exact ⟨k + 1, (i : Int) - 1, by have := HJ.out; omega, by simp, by omega, by rw [HX.out]; exact hJ3, hnx.trans hk3⟩
        case measure => simp [intOf]
      · gi_wp2
        refine bodyPost_ret (results_none rfl _ _ _) rfl ?_
        exact ⟨⟨_, rfl⟩, .inr ⟨_, ⟨k + 1, by omega, HX.out.symm⟩, hJx3⟩⟩
    · obtain rfl : j = -1 := by omega
      have ek : k = zs.length := by omega
      subst ek
      clear hj
      gi_wp2
      go_end0
      exact ⟨⟨_, rfl⟩, .inl (by first | exact hJs | exact ⟨_, rfl, hJs⟩)⟩

set_option maxRecDepth 100000 in
set_option maxHeartbeats 1000000 in
theorem back1_nil (n lb Bs : Nat) (a : Option Addr) (cap : Nat) (J : List (Nat × Tn) → World → Prop) (W : World) (hBs : W.cell? ⟨Bs, 0, none⟩ = some (.slice a 0 cap)) (h0 : J [] W) :
    CallsIn Fence.wide n Try.prog 55 #[.func (.yield lb) #[] #[], .pointer (some ⟨Bs, 0, none⟩)] W fun e W' => (∃ v, e = .returned v) ∧ J [] W' := by
  refine callsIn_of_wp Try.func55 rfl trivial ?_ rfl
  simp only [Try.ntmps55, List.size_toArray, List.length_cons, List.length_nil, Nat.reduceAdd, Nat.reduceSub, Array.replicate_succ, Array.replicate_zero, List.push_toArray, List.append_toArray, List.nil_append, List.cons_append]
  gi_wp2
  gi_loopw [3] (fun iv wr => iv = .int .i64 (-1) ∧ J [] wr) (fun _ _ => 0)
  case atStart => exact ⟨rfl, h0⟩
  case round =>
    obtain ⟨rfl, hJs⟩ := hrel
    gi_wp2
    go_end0
    exact ⟨⟨_, rfl⟩, hJs⟩

set_option maxHeartbeats 1000000 in
theorem back_in (n : Nat) (a : Option Addr) (len cap : Nat) (w : World) :
    CallsIn Fence.wide n Try.prog 37 #[.slice a len cap] w fun e w' => e = .returned (.func (.func 55) #[] #[.pointer (some ⟨w.heap.size, 0, none⟩)]) ∧ w' = w.alloc (.cells #[.slice a len cap] 24) := by
  refine callsIn_of_wp Try.func37 rfl trivial ?_ rfl
  simp only [Try.ntmps37, List.size_toArray, List.length_cons, List.length_nil, Nat.reduceAdd, Nat.reduceSub, Array.replicate_succ, Array.replicate_zero, List.push_toArray, List.append_toArray, List.nil_append, List.cons_append]
  gi_wp2
  go_ret
  exact ⟨rfl, rfl⟩

theorem RoundIn.anyD {m m' : Nat} {P : Program} {l : Nat} {f : FuncId} {tmps : Array Value} {assign body : Code} {w : World} {R : Ending → World → Prop}
    (h : RoundIn Fence.wide m P l f tmps assign body w R) : RoundIn Fence.wide m' P l f tmps assign body w R := ⟨h.1, fun c cs _ => h.2 c cs (room_wide _)⟩
theorem YieldAt.anyD {m : Nat} (m' : Nat) {P : Program} {l : Nat} {args : Array Value} {W : World} {R : Ending → World → Prop} (h : YieldAt Fence.wide m P l args W R) : YieldAt Fence.wide m' P l args W R := by
  obtain ⟨fn, tmps, assign, body, hy, hR⟩ := h
  exact ⟨fn, tmps, assign, body, hy, RoundIn.anyD hR⟩

theorem back_stops (n Bs n0 cap : Nat) (la : Option Addr) (zs : List Tn) (hz : zs.length ≤ 4611686018427387904) (w : World) (hB0 : Bs < w.heap.size)
    (hBs : w.cell? ⟨Bs, 0, none⟩ = some (.slice la zs.length cap)) (hT : IntsAt w la (zs.map (·.1))) (hb : zs ≠ [] → ∀ b off, la = some ⟨b, off, none⟩ → b < n0) :
    SeqStopsK Fence.wide n Try.prog 55 #[.pointer (some ⟨Bs, 0, none⟩)] (fun x : Nat × Tn => #[Value.int .i64 (x.1 : Int), .int .i64 x.2.1]) (KpB n0 Bs) (fun ys => ys = backs zs zs.length)
      (fun pre => ∃ k, k ≤ zs.length ∧ pre = backs zs k) zs.length w := fun l J Jx W hW _ _ hY h0 => by
  have hc' := (hW.cell (p := ⟨Bs, 0, none⟩) hB0).trans hBs
  by_cases h : zs = []
  · subst h
    exact (back1_nil n l Bs la cap J W hc' h0).mono fun e W' ⟨he, hj⟩ => ⟨he, .inl ⟨[], rfl, hj⟩⟩
  · rcases hT with hT | ⟨b, off, rfl, hl, hc⟩
    · exact absurd (List.map_eq_nil_iff.1 hT) h
    · exact back1_in n l Bs n0 b off cap zs hz (hb h b off rfl) J Jx (fun m pre x W1 hj hl => YieldAt.anyD m (hY pre x W1 hj hl)) W hc' (fun i x hx => by
        have hh := hc i x.1 (by rw [List.getElem?_map, hx]; rfl)
        exact (hW.cell (p := ⟨b, off + i, none⟩) hl).trans hh) h0
end Go.Proofs.Ytimcddknoanghaa
