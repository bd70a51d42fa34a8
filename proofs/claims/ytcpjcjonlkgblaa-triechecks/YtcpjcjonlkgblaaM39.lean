/- Proofs in memory. -/
import Derived.Test.YtcpjcjonlkgblaaM10
import Derived.Test.YtcpjcjonlkgblaaTRPut
import Derived.Test.YtcpjcjonlkgblaaXTop
import Derived.RangeFuncBox
import Derived.RangeFuncLeaves
import Derived.RangeFuncNested
import Derived.RangeFuncWrites
import Derived.Shelf.Abstract
import Derived.Shelf.RegionOpen
import Derived.WalkKit
import Derived.OwnWalkIn
import Derived.TacticsInMore
import Derived.LoopNIn
import Derived.LoopIn

namespace Go.Proofs.Ytcpjcjonlkgblaa
open Go.RowKit
set_option linter.unusedVariables false
set_option linter.unusedSimpArgs false

def okTurn (x : Int × Int) : Prop := (-9223372036854775808 ≤ x.1 ∧ x.1 ≤ 9223372036854775807) ∧ 0 ≤ x.2 ∧ x.2 ≤ 18446744073709551615
/-- Turns in memory. -/
def TurnsAt (w : World) (la : Option Addr) (l : List (Int × Int)) : Prop :=
  l = [] ∨ ∃ b off, la = some ⟨b, off, none⟩ ∧ b < w.heap.size ∧ ∀ i x, l[i]? = some x → w.cell? ⟨b, off + i * 2, none⟩ = some (.int .i64 x.1) ∧ w.cell? ⟨b, off + i * 2 + 1, none⟩ = some (.int .u64 x.2)
theorem TurnsAt.below {w w' : World} {la : Option Addr} {l : List (Int × Int)} (h : TurnsAt w la l) (hb : Below w.heap.size w w') : TurnsAt w' la l := by
  rcases h with h | ⟨b, off, e, hl, hc⟩
  · exact .inl h
  · refine .inr ⟨b, off, e, Nat.lt_of_lt_of_le hl hb.size, fun i x hx => ?_⟩
    obtain ⟨h1, h2⟩ := hc i x hx
    exact ⟨by rw [hb.cell (p := ⟨b, off + i * 2, none⟩) hl]; exact h1, by rw [hb.cell (p := ⟨b, off + i * 2 + 1, none⟩) hl]; exact h2⟩
def flatT (l : List (Int × Int)) : List Value := l.flatMap fun x => [.int .i64 x.1, .int .u64 x.2]
theorem flatT_len (l : List (Int × Int)) : (flatT l).length = l.length * 2 := by
  induction l with
  | nil => rfl
  | cons x l ih => simp only [flatT, List.flatMap_cons, List.length_append, List.length_cons, List.length_nil] at ih ⊢; omega
theorem flatT_snoc (l : List (Int × Int)) (x : Int × Int) : flatT (l ++ [x]) = flatT l ++ [.int .i64 x.1, .int .u64 x.2] := by simp [flatT]
theorem flatT_get : ∀ (l : List (Int × Int)) (i : Nat) (x : Int × Int), l[i]? = some x → (flatT l)[i * 2]? = some (.int .i64 x.1) ∧ (flatT l)[i * 2 + 1]? = some (.int .u64 x.2)
  | [], i, x, h => by simp at h
  | y :: l, 0, x, h => by
    simp at h
    subst h
    simp [flatT]
  | y :: l, i + 1, x, h => by
    have := flatT_get l i x (by simpa using h)
    have e : flatT (y :: l) = [.int .i64 y.1, .int .u64 y.2] ++ flatT l := rfl
    rw [e, show (i + 1) * 2 = 2 + i * 2 by omega, List.getElem?_append_right (by simp), List.getElem?_append_right (by simp; omega)]
    simp only [List.length_cons, List.length_nil]
    rw [show 2 + i * 2 - (0 + 1 + 1) = i * 2 by omega, show 2 + i * 2 + 1 - (0 + 1 + 1) = i * 2 + 1 by omega]
    exact this
theorem TurnsAt.of_owns {w : World} {base : Nat} {sv : Value} {l : List (Int × Int)} (h : w.ownsRow base 69 2 sv l.length (flatT l)) : ∃ la cap, sv = .slice la l.length cap ∧ l.length ≤ cap ∧ cap ≤ maxLen ∧ TurnsAt w la l := by
  obtain ⟨hn, h | ⟨g, cap, cur, rfl, hb, hg, hc, hm, hs, ht⟩⟩ := h
  · obtain ⟨rfl, h0⟩ := h
    exact ⟨none, 0, by rw [h0], by omega, Nat.zero_le _, .inl (List.eq_nil_of_length_eq_zero h0)⟩
  · refine ⟨_, cap, rfl, hc, hm, .inr ⟨g, 0, rfl, (Array.getElem?_eq_some_iff.1 hg).1, fun i x hx => ?_⟩⟩
    have hi : i < l.length := (List.getElem?_eq_some_iff.1 hx).1
    obtain ⟨h1, h2⟩ := flatT_get l i x hx
    have kB : Blk w g cur 69 := hg
    have get : ∀ j u, (flatT l)[j]? = some u → cur[j]? = some u := fun j u hj => by
      rw [← ht, List.getElem?_take] at hj
      split at hj
      · simpa using hj
      · cases hj
    exact ⟨by rw [kB.cell]; simpa using get _ _ h1, by rw [kB.cell]; simpa using get _ _ h2⟩

/-- A proof in memory. -/
structure PfIn (w : World) (la : Option Addr) (cap : Nat) (p : Pf) : Prop where
  cap1 : p.tu.length ≤ cap
  cap2 : cap ≤ maxLen
  turns : TurnsAt w la p.tu
  each : ∀ t ∈ p.tu, okTurn t
  key : p.key.length ≤ maxLen
  val : p.val.length ≤ maxLen
theorem PfIn.below {w w' : World} {la : Option Addr} {cap : Nat} {p : Pf} (h : PfIn w la cap p) (hb : Below w.heap.size w w') : PfIn w' la cap p := ⟨h.cap1, h.cap2, h.turns.below hb, h.each, h.key, h.val⟩
def pfV (la : Option Addr) (cap : Nat) (p : Pf) : Value := .agg #[.slice la p.tu.length cap, .bool p.leaf, .string (str p.key), .string (str p.val)]

/-- The same as the wire's texts have it. -/
def Pf.thing (la : Option Addr) (cap : Nat) (p : Pf) : W.Proof := ⟨⟨la, cap, p.tu.map fun x => ⟨x.1, x.2⟩⟩, p.leaf, p.key, p.val⟩
theorem rows_of (base : Nat) (w : World) (rb : Nat) (hb : rb < base) : ∀ (l : List (Int × Int)) (ro : Nat), (∀ t ∈ l, okTurn t) → (∀ i x, l[i]? = some x → w.cell? ⟨rb, ro + i * 2, none⟩ = some (.int .i64 x.1) ∧ w.cell? ⟨rb, ro + i * 2 + 1, none⟩ = some (.int .u64 x.2)) →
    W.RowsAt base w rb ro ((l.map fun x => (⟨x.1, x.2⟩ : W.Turn)).map W.Turn.flds)
  | [], _, _, _ => trivial
  | x :: l, ro, hx, hc => by
    have h0 := hc 0 x rfl
    refine ⟨⟨by simpa [W.Fld.val] using h0.1, (hx x (by simp)).1, by simpa [W.Fld.val] using h0.2, (hx x (by simp)).2, trivial⟩, ?_⟩
    have := rows_of base w rb hb l (ro + 2) (fun t ht => hx t (by simp [ht])) fun i y hy => by
      have := hc (i + 1) y (by simpa using hy)
      rw [show ro + (i + 1) * 2 = ro + 2 + i * 2 by omega] at this
      exact this
    exact this
theorem PfIn.goods {w : World} {la : Option Addr} {cap : Nat} {p : Pf} (h : PfIn w la cap p) : W.goods w.heap.size w (p.thing la cap).flds := by
  intro f hf
  simp only [W.Proof.flds, Pf.thing, List.mem_cons, List.not_mem_nil, or_false] at hf
  rcases hf with rfl | rfl | rfl | rfl
  · refine ⟨by simpa using h.cap1, h.cap2, ?_⟩
    rcases h.turns with e | ⟨b, off, e, hl, hc⟩
    · left; simp [e]
    · exact .inr ⟨b, off, e, hl, hl, rows_of _ w b hl p.tu off h.each hc⟩
  · trivial
  · trivial
  · trivial
end Go.Proofs.Ytcpjcjonlkgblaa

namespace Go.Proofs.Ytcpjcjonlkgblaa
open Go.RowKit Go.Shelf
attribute [local go_sem] Oper.semAt_some
set_option linter.unusedVariables false
set_option linter.unusedSimpArgs false

/-- A turn that may be. -/
abbrev Tn := { t : Int × Int // (0 ≤ t.1 ∧ t.1 < 288) ∧ 0 ≤ t.2 ∧ t.2 ≤ 18446744073709551615 }
instance : Inhabited Tn := ⟨⟨(0, 0), by simp⟩⟩
/-- What a round keeps: all below, and the box of the list. -/
def KpB (n0 Bs : Nat) (W W' : World) : Prop := Below n0 W W' ∧ W'.cell? ⟨Bs, 0, none⟩ = W.cell? ⟨Bs, 0, none⟩
theorem KpB.refl (n0 Bs : Nat) (W : World) : KpB n0 Bs W W := ⟨Below.refl _ _, rfl⟩
theorem KpB.trans {n0 Bs : Nat} {A B C : World} (h : KpB n0 Bs A B) (k : KpB n0 Bs B C) : KpB n0 Bs A C := ⟨h.1.trans k.1, k.2.trans h.2⟩
/-- The first k that come. -/
def backs (zs : List Tn) (k : Nat) : List (Nat × Tn) := (List.range k).map fun m => (zs.length - 1 - m, zs[zs.length - 1 - m]?.getD default)
theorem backs_succ (zs : List Tn) (k : Nat) : backs zs (k + 1) = backs zs k ++ [(zs.length - 1 - k, zs[zs.length - 1 - k]?.getD default)] := by simp [backs, List.range_succ]
theorem backs_length (zs : List Tn) (k : Nat) : (backs zs k).length = k := by simp [backs]
theorem backs_all (zs : List Tn) : (backs zs zs.length).map (·.2) = zs.reverse := by
  apply List.ext_getElem
  · simp [backs]
  · intro i h1 h2
    simp only [backs, List.map_map, List.getElem_map, List.getElem_range, Function.comp, List.getElem_reverse]
    have hi : i < zs.length := by simpa using h2
    rw [List.getElem?_eq_getElem (by omega)]
    rfl

set_option maxRecDepth 100000 in
set_option maxHeartbeats 2000000 in
theorem back1_in (n lb Bs n0 b off cap : Nat) (zs : List Tn) (hz : zs.length ≤ 4611686018427387904) (hb : b < n0) (J Jx : List (Nat × Tn) → World → Prop)
    (hY : ∀ m pre x W, J pre W → pre.length < zs.length → YieldAt Fence.wide m Try.prog lb #[.int .i64 (x.1 : Int), .agg #[.int .i64 x.2.1.1, .int .u64 x.2.1.2]] W fun e W' =>
      (e = .returned (.bool true) ∧ J (pre ++ [x]) W' ∧ KpB n0 Bs W W') ∨ (e = .returned (.bool false) ∧ Jx (pre ++ [x]) W'))
    (W : World) (hBs : W.cell? ⟨Bs, 0, none⟩ = some (.slice (some ⟨b, off, none⟩) zs.length cap))
    (hc : ∀ i x, zs[i]? = some x → W.cell? ⟨b, off + i * 2, none⟩ = some (.int .i64 x.1.1) ∧ W.cell? ⟨b, off + i * 2 + 1, none⟩ = some (.int .u64 x.1.2)) (h0 : J [] W) :
    CallsIn Fence.wide n Try.prog 69 #[.func (.yield lb) #[] #[], .pointer (some ⟨Bs, 0, none⟩)] W fun e W' => (∃ v, e = .returned v) ∧
      ((∃ ys, ys = backs zs zs.length ∧ J ys W') ∨ (∃ pre, (∃ k, k ≤ zs.length ∧ pre = backs zs k) ∧ Jx pre W')) := by
  have hdd : ∀ k : Nat, (Fence.wide.depth.isSome = true → 1 ≤ k) := fun k h => by cases h
  refine callsIn_of_wp Try.func69 rfl trivial ?_ rfl
  simp only [Try.ntmps69, List.size_toArray, List.length_cons, List.length_nil, Nat.reduceAdd, Nat.reduceSub, Array.replicate_succ, Array.replicate_zero, List.push_toArray, List.append_toArray, List.nil_append, List.cons_append]
  gi_wp2
  gi_loopw [3] (fun iv wr => ∃ (k : Nat) (j : Int), j + 1 + (k : Int) = (zs.length : Int) ∧ iv = .int .i64 j ∧ -1 ≤ j ∧ J (backs zs k) wr ∧ KpB n0 Bs W wr) (fun iv _ => (intOf iv + 1).toNat)
  case atStart => exact ⟨0, _, by omega, rfl, by omega, by simpa [backs] using h0, KpB.refl _ _ _⟩
  case round =>
    obtain ⟨k, j, hj, rfl, hj0, hJs, hnx⟩ := hrel
    by_cases hlt : 0 ≤ j
    · obtain ⟨i, rfl⟩ : ∃ i : Nat, j = i := ⟨j.toNat, by omega⟩
      have hi : i < zs.length := by omega
      have hi' : (i : Int) < (zs.length : Int) := by omega
      have ei : zs.length - 1 - k = i := by omega
      have hget := List.getElem?_eq_getElem hi
      have hx := backs_succ zs k
      rw [ei, hget, Option.getD_some] at hx
      have hkl : k < zs.length := by omega
      have hkk : (k : Int) = (zs.length : Int) - 1 - (i : Int) := by omega
      obtain ⟨h1, h2⟩ := hc i _ hget
      obtain ⟨⟨⟨xp, xd⟩, hxx⟩, ex⟩ : ∃ x, zs[i] = x := ⟨_, rfl⟩
      rw [ex] at hx h1 h2
      have c1 := (hnx.1.cell (p := ⟨b, off + i * 2, none⟩) hb).trans h1
      have c2 := (hnx.1.cell (p := ⟨b, off + i * 2 + 1, none⟩) hb).trans h2
      have c3 := hnx.2.trans hBs
      obtain ⟨fn, tmps, assign, body, hy, hR⟩ := hY (n - 1) _ (i, ⟨(xp, xd), hxx⟩) wr hJs (by rw [backs_length]; exact hkl)
      have HX : Hid (_ = _) := hx
      have HJ : Hid ((i : Int) + 1 + (k : Int) = (zs.length : Int)) := hj
      clear hx hget ex h1 h2 hj ei hkk hc
      dsimp only at hy
      have hb1 : (i : Int) ≤ 4611686018427387904 := by omega
      gi_wp2
      (try refine ⟨trivial, ?_⟩)
      (try refine ⟨hdd _, ?_⟩)
      refine hR.mono ?_
      rintro e W3 (⟨rfl, hJ3, hk3⟩ | ⟨rfl, hJx3⟩)
      · gi_wp2
        go_roundw
        case rel => exact ⟨k + 1, (i : Int) - 1, by have := HJ.out; omega, by simp, by omega, by rw [HX.out]; exact hJ3, hnx.trans hk3⟩
        case measure => simp [intOf]
      · gi_wp2
        refine bodyPost_ret (results_none rfl _ _ _) rfl ?_
        exact ⟨⟨_, rfl⟩, .inr ⟨_, ⟨k + 1, by omega, HX.out.symm⟩, hJx3⟩⟩
    · obtain rfl : j = -1 := by omega
      have ek : k = zs.length := by omega
      subst ek
      clear hj
      gi_wp2
      go_end0
      exact ⟨⟨_, rfl⟩, .inl (by first | exact hJs | exact ⟨_, rfl, hJs⟩)⟩

set_option maxRecDepth 100000 in
set_option maxHeartbeats 1000000 in
theorem back1_nil (n lb Bs : Nat) (a : Option Addr) (cap : Nat) (J : List (Nat × Tn) → World → Prop) (W : World) (hBs : W.cell? ⟨Bs, 0, none⟩ = some (.slice a 0 cap)) (h0 : J [] W) :
    CallsIn Fence.wide n Try.prog 69 #[.func (.yield lb) #[] #[], .pointer (some ⟨Bs, 0, none⟩)] W fun e W' => (∃ v, e = .returned v) ∧ J [] W' := by
  refine callsIn_of_wp Try.func69 rfl trivial ?_ rfl
  simp only [Try.ntmps69, List.size_toArray, List.length_cons, List.length_nil, Nat.reduceAdd, Nat.reduceSub, Array.replicate_succ, Array.replicate_zero, List.push_toArray, List.append_toArray, List.nil_append, List.cons_append]
  gi_wp2
  gi_loopw [3] (fun iv wr => iv = .int .i64 (-1) ∧ J [] wr) (fun _ _ => 0)
  case atStart => exact ⟨rfl, h0⟩
  case round =>
    obtain ⟨rfl, hJs⟩ := hrel
    gi_wp2
    go_end0
    exact ⟨⟨_, rfl⟩, hJs⟩

set_option maxHeartbeats 1000000 in
theorem back_in (n : Nat) (a : Option Addr) (len cap : Nat) (w : World) :
    CallsIn Fence.wide n Try.prog 57 #[.slice a len cap] w fun e w' => e = .returned (.func (.func 69) #[] #[.pointer (some ⟨w.heap.size, 0, none⟩)]) ∧ w' = w.alloc (.cells #[.slice a len cap] 23) := by
  refine callsIn_of_wp Try.func57 rfl trivial ?_ rfl
  simp only [Try.ntmps57, List.size_toArray, List.length_cons, List.length_nil, Nat.reduceAdd, Nat.reduceSub, Array.replicate_succ, Array.replicate_zero, List.push_toArray, List.append_toArray, List.nil_append, List.cons_append]
  gi_wp2
  go_ret
  exact ⟨rfl, rfl⟩

theorem RoundIn.anyD {m m' : Nat} {P : Program} {l : Nat} {f : FuncId} {tmps : Array Value} {assign body : Code} {w : World} {R : Ending → World → Prop}
    (h : RoundIn Fence.wide m P l f tmps assign body w R) : RoundIn Fence.wide m' P l f tmps assign body w R := ⟨h.1, fun c cs _ => h.2 c cs (room_wide _)⟩
theorem YieldAt.anyD {m : Nat} (m' : Nat) {P : Program} {l : Nat} {args : Array Value} {W : World} {R : Ending → World → Prop} (h : YieldAt Fence.wide m P l args W R) : YieldAt Fence.wide m' P l args W R := by
  obtain ⟨fn, tmps, assign, body, hy, hR⟩ := h
  exact ⟨fn, tmps, assign, body, hy, RoundIn.anyD hR⟩

theorem back_stops (n Bs n0 cap : Nat) (la : Option Addr) (zs : List Tn) (hz : zs.length ≤ 4611686018427387904) (w : World) (hB0 : Bs < w.heap.size)
    (hBs : w.cell? ⟨Bs, 0, none⟩ = some (.slice la zs.length cap)) (hT : TurnsAt w la (zs.map (·.1))) (hb : zs ≠ [] → ∀ b off, la = some ⟨b, off, none⟩ → b < n0) :
    SeqStopsK Fence.wide n Try.prog 69 #[.pointer (some ⟨Bs, 0, none⟩)] (fun x : Nat × Tn => #[Value.int .i64 (x.1 : Int), .agg #[.int .i64 x.2.1.1, .int .u64 x.2.1.2]]) (KpB n0 Bs) (fun ys => ys = backs zs zs.length)
      (fun pre => ∃ k, k ≤ zs.length ∧ pre = backs zs k) zs.length w := fun l J Jx W hW _ _ hY h0 => by
  have hc' := (hW.cell (p := ⟨Bs, 0, none⟩) hB0).trans hBs
  by_cases h : zs = []
  · subst h
    exact (back1_nil n l Bs la cap J W hc' h0).mono fun e W' ⟨he, hj⟩ => ⟨he, .inl ⟨[], rfl, hj⟩⟩
  · rcases hT with hT | ⟨b, off, rfl, hl, hc⟩
    · exact absurd (List.map_eq_nil_iff.1 hT) h
    · exact back1_in n l Bs n0 b off cap zs hz (hb h b off rfl) J Jx (fun m pre x W1 hj hl => YieldAt.anyD m (hY pre x W1 hj hl)) W hc' (fun i x hx => by
        have hh := hc i x.1 (by rw [List.getElem?_map, hx]; rfl)
        exact ⟨(hW.cell (p := ⟨b, off + i * 2, none⟩) hl).trans hh.1, (hW.cell (p := ⟨b, off + i * 2 + 1, none⟩) hl).trans hh.2⟩) h0
end Go.Proofs.Ytcpjcjonlkgblaa

namespace Go.Proofs.Ytcpjcjonlkgblaa
open Go.RowKit
set_option linter.unusedVariables false
set_option linter.unusedSimpArgs false

theorem Strs.at {w : World} {a : Option Addr} {ss : List ByteArray} (h : Strs w a ss) (k : Nat) (hk : k < ss.length) : ∃ b off, a = some ⟨b, off, none⟩ ∧ b < w.heap.size ∧ w.cell? ⟨b, off + k, none⟩ = some (.string ss[k]) := by
  rcases h.2 with h0 | ⟨b, off, rfl, hlt, hc⟩
  · subst h0; simp at hk
  · exact ⟨b, off, rfl, hlt, hc k hk⟩

theorem bytes_eq {x y : ByteArray} (h : x.toList = y.toList) : x = y := by
  have e : x.data.toList = y.data.toList := by rw [← ByteArray.toList_eq, ← ByteArray.toList_eq]; exact h
  exact WideShapes.bytes_inj e

theorem lists_eq (l m : List ByteArray) (h : l.length = m.length) (hh : ∀ j (h1 : j < l.length) (h2 : j < m.length), l[j] = m[j]) : l = m := List.ext_getElem h hh

set_option maxHeartbeats 800000 in
theorem equal_any (a1 a2 : Option Addr) (c1 c2 : Nat) (l m : List ByteArray) (w : World) (h1 : Strs w a1 l) (h2 : Strs w a2 m) (hl : l.length ≤ 4611686018427387904) (hm : m.length ≤ 4611686018427387904) :
    Calls Try.prog 31 #[.slice a1 l.length c1, .slice a2 m.length c2] w fun e w' => e = .returned (.bool (decide (l = m))) ∧ Below w.heap.size w w' := by
  by_cases hlen : l.length = m.length
  · have hlen' : ((l.length : Int) != (m.length : Int)) = false := by simp [hlen]
    have HLen := show Hid (_ = _) from hlen
    have hle1 : l.length ≤ m.length := by omega
    have hle2 : m.length ≤ l.length := by omega
    clear hlen
    go_enter Try.func31, Try.ntmps31
    go_wp2
    go_loopw [5, 13] (fun _ iv wv => ∃ k : Nat, k ≤ l.length ∧ iv = .int .i64 k ∧ Hid (∀ j (q1 : j < l.length) (q2 : j < m.length), j < k → l[j] = m[j]) ∧ Below w.heap.size w wv) (fun _ iv _ => l.length - (intOf iv).toNat)
    case atStart => exact ⟨0, Nat.zero_le _, rfl, fun j _ _ h => by omega, Below.refl _ _⟩
    case round =>
      obtain ⟨k, hk, rfl, HA, hb⟩ := hrel
      by_cases hlt : k < l.length
      · have hlt' : (k : Int) < (l.length : Int) := by omega
        have hlt2 : (k : Int) < (m.length : Int) := by omega
        have hkm : k < m.length := by omega
        obtain ⟨b1, o1, rfl, hl1, e1⟩ := (h1.below hb).at k hlt
        obtain ⟨b2, o2, rfl, hl2, e2⟩ := (h2.below hb).at k hkm
        have HE : Hid (l[k] = m[k] → ∀ j (q1 : j < l.length) (q2 : j < m.length), j < k + 1 → l[j] = m[j]) := fun he j q1 q2 hj => by
          by_cases h : j < k
          · exact HA.out j q1 q2 h
          · obtain rfl : j = k := by omega
            exact he
        have HN : Hid (l[k] ≠ m[k] → decide (l = m) = false) := fun hne => by
          simp only [decide_eq_false_iff_not]
          intro e; subst e; exact hne rfl
        generalize hx : l[k] = x at *
        generalize hy : m[k] = y at *
        clear hx hy
        by_cases hxy : x = y
        · subst hxy
          go_wp2_with fail
          go_quiet (fail)
          have hq := below_drewN hb nq
          go_wp2
          exact ⟨⟨k+1, hlt, by go_num, HE.out trivial, hq⟩, by simp [intOf]; omega⟩
        · have t1 : (!x.toList == y.toList) = true := by
            simp only [Bool.not_eq_true', beq_eq_false_iff_ne, ne_eq]
            exact fun e => hxy (bytes_eq e)
          go_wp2_with fail
          go_quiet (fail)
          have hq := below_drewN hb nq
          go_wp2
          go_ret
          exact ⟨by rw [HN.out hxy]; rfl, hq⟩
      · have hlt' : ¬ (k : Int) < (l.length : Int) := by omega
        have HD : Hid (decide (l = m) = true) := by
          simp only [decide_eq_true_eq]
          exact lists_eq l m HLen.out (fun j q1 q2 => HA.out j q1 q2 (by omega))
        go_wp2
        go_ret
        exact ⟨by rw [HD.out]; rfl, by assumption⟩
  · have hlen' : ((l.length : Int) != (m.length : Int)) = true := by simp; omega
    have HD : Hid (decide (l = m) = false) := by
      simp only [decide_eq_false_iff_not]
      intro e; subst e; exact hlen rfl
    clear hlen
    go_enter Try.func31, Try.ntmps31
    go_wp2
    go_ret
    exact ⟨by rw [HD.out]; rfl, Below.refl _ _⟩

theorem below_two (w : World) (o p : Obj) : Below w.heap.size w ((w.alloc o).alloc p) := ((Below.refl _ _).alloc (Nat.le_refl _) o).alloc (by simp) p

/-- Are two images alike? -/
def alikeP (i j : Int × List ByteArray) : Bool := decide (i = j)

theorem alikeP_eq (t u : Int) (l m : List ByteArray) : alikeP (t, l) (u, m) = (decide (t = u) && decide (l = m)) := by
  unfold alikeP
  by_cases h1 : t = u <;> by_cases h2 : l = m <;> simp [h1, h2]

set_option maxHeartbeats 1600000 in
theorem same_any (t u : Int) (a1 a2 : Option Addr) (c1 c2 : Nat) (l m : List ByteArray) (w : World) (h1 : Strs w a1 l) (h2 : Strs w a2 m) (hl : l.length ≤ 4611686018427387904) (hm : m.length ≤ 4611686018427387904) :
    Calls Try.prog 16 #[.agg #[.int .i64 t, .slice a1 l.length c1], .agg #[.int .i64 u, .slice a2 m.length c2]] w fun e w' => e = .returned (.bool (alikeP (t, l) (u, m))) ∧ Below w.heap.size w w' := by
  rw [alikeP_eq]
  by_cases h : t = u
  · have h' : (t != u) = false := by simp [h]
    have hd : decide (t = u) = true := by simp [h]
    rw [hd, Bool.true_and]
    clear hd h
    have bA := below_two w (.cells #[.int .i64 t, .slice a1 l.length c1] 47) (.cells #[.int .i64 u, .slice a2 m.length c2] 47)
    by_cases hlen : l.length = m.length
    · have hlen' : ((l.length : Int) != (m.length : Int)) = false := by simp [hlen]
      have HLen := show Hid (_ = _) from hlen
      have hle1 : l.length ≤ m.length := by omega
      have hle2 : m.length ≤ l.length := by omega
      clear hlen
      have h1' := h1.below bA
      have h2' := h2.below bA
      have q1 : ((w.alloc (.cells #[.int .i64 t, .slice a1 l.length c1] 47)).alloc (.cells #[.int .i64 u, .slice a2 m.length c2] 47)).cell? ⟨w.heap.size, 1, none⟩ = some (.slice a1 l.length c1) := by simp [go_sem]
      have q2 : ((w.alloc (.cells #[.int .i64 t, .slice a1 l.length c1] 47)).alloc (.cells #[.int .i64 u, .slice a2 m.length c2] 47)).cell? ⟨w.heap.size + 1, 1, none⟩ = some (.slice a2 m.length c2) := by simp [go_sem]
      have qs : w.heap.size + 1 < ((w.alloc (.cells #[.int .i64 t, .slice a1 l.length c1] 47)).alloc (.cells #[.int .i64 u, .slice a2 m.length c2] 47)).heap.size := by simp
      go_enter Try.func16, Try.ntmps16
      go_wp2_with fail
      generalize ((w.alloc (.cells #[.int .i64 t, .slice a1 l.length c1] 47)).alloc (.cells #[.int .i64 u, .slice a2 m.length c2] 47)) = wl at *
      go_loopw [5] (fun iv wv => ∃ k : Nat, k ≤ l.length ∧ iv = .int .i64 k ∧ Hid (∀ j (q1 : j < l.length) (q2 : j < m.length), j < k → l[j] = m[j]) ∧ Below wl.heap.size wl wv) (fun iv _ => l.length - (intOf iv).toNat)
      case atStart => exact ⟨0, Nat.zero_le _, rfl, fun j _ _ h => by omega, Below.refl _ _⟩
      case round =>
        obtain ⟨k, hk, rfl, HA, hb⟩ := hrel
        have p1 : wr.cell? ⟨w.heap.size, 1, none⟩ = some (.slice a1 l.length c1) := by rw [hb.cell (by show w.heap.size < _; omega)]; exact q1
        have p2 : wr.cell? ⟨w.heap.size + 1, 1, none⟩ = some (.slice a2 m.length c2) := by rw [hb.cell (by show w.heap.size + 1 < _; omega)]; exact q2
        by_cases hlt : k < l.length
        · have hlt' : (k : Int) < (l.length : Int) := by omega
          have hlt2 : (k : Int) < (m.length : Int) := by omega
          have hkm : k < m.length := by omega
          obtain ⟨b1, o1, rfl, hl1, e1⟩ := (h1'.below hb).at k hlt
          obtain ⟨b2, o2, rfl, hl2, e2⟩ := (h2'.below hb).at k hkm
          have HE : Hid (l[k] = m[k] → ∀ j (q1 : j < l.length) (q2 : j < m.length), j < k + 1 → l[j] = m[j]) := fun he j q1 q2 hj => by
            by_cases h : j < k
            · exact HA.out j q1 q2 h
            · obtain rfl : j = k := by omega
              exact he
          have HN : Hid (l[k] ≠ m[k] → decide (l = m) = false) := fun hne => by
            simp only [decide_eq_false_iff_not]
            intro e; subst e; exact hne rfl
          generalize hx : l[k] = x at *
          generalize hy : m[k] = y at *
          clear hx hy
          by_cases hxy : x = y
          · subst hxy
            go_wp2_with fail
            go_quiet (fail)
            have hq := below_drewN hb nq
            go_wp2
            exact ⟨⟨k+1, hlt, by go_num, HE.out trivial, hq⟩, by simp [intOf]; omega⟩
          · have t1 : (!x.toList == y.toList) = true := by
              simp only [Bool.not_eq_true', beq_eq_false_iff_ne, ne_eq]
              exact fun e => hxy (bytes_eq e)
            go_wp2_with fail
            go_quiet (fail)
            have hq := below_drewN hb nq
            go_wp2
            go_ret
            exact ⟨by rw [HN.out hxy]; rfl, bA.trans (hq.mono bA.size)⟩
        · have hlt' : ¬ (k : Int) < (l.length : Int) := by omega
          have HD : Hid (decide (l = m) = true) := by
            simp only [decide_eq_true_eq]
            exact lists_eq l m HLen.out (fun j q1 q2 => HA.out j q1 q2 (by omega))
          go_wp2
          go_ret
          exact ⟨by rw [HD.out]; rfl, bA.trans (hb.mono bA.size)⟩
    · have hlen' : ((l.length : Int) != (m.length : Int)) = true := by simp; omega
      have HD : Hid (decide (l = m) = false) := by
        simp only [decide_eq_false_iff_not]
        intro e; subst e; exact hlen rfl
      clear hlen
      go_enter Try.func16, Try.ntmps16
      go_wp2
      go_ret
      exact ⟨by rw [HD.out]; rfl, bA⟩
  · have h' : (t != u) = true := by simp [h]
    have hd : decide (t = u) = false := by simp [h]
    rw [hd, Bool.false_and]
    clear hd h
    go_enter Try.func16, Try.ntmps16
    go_wp2
    go_ret
    exact ⟨rfl, below_two w _ _⟩
end Go.Proofs.Ytcpjcjonlkgblaa
