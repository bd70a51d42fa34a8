/- The answer's log: frames, Arm, Die, acts, Sync. -/
import Derived.Test.YtaifkidpdmhciaaGreatM14
import Derived.Test.YtaifkidpdmhciaaGreatM13
import Derived.Test.YtaifkidpdmhciaaGreatEG2

namespace Go.Proofs.YtaifkidpdmhciaaGreat
open Go.RowKit
set_option linter.unusedVariables false
set_option linter.unusedSimpArgs false

theorem conv4 {P : Program} (src dst e : TypeId) (hs : P.underlying src = some (.slice e)) (he : P.underlying e = some (.int .u8)) (hd : P.underlying dst = some .string)
    (w : World) (a b c d : Int) : (convert src dst (.slice (some ⟨w.heap.size, 0, none⟩) 4 4)).run P (w.alloc (.cells #[.int .u8 a, .int .u8 b, .int .u8 c, .int .u8 d] e)) = .ok (.string (strOfNums [a, b, c, d])) (w.alloc (.cells #[.int .u8 a, .int .u8 b, .int .u8 c, .int .u8 d] e)) :=
  conv_row src dst e hs he hd w [a, b, c, d] 4 rfl

set_option maxHeartbeats 1600000 in
theorem rframe_any (l : List UInt8) (w : World) (hl : l.length < 256) :
    Calls Tryz.prog 22 #[.string ⟨l.toArray⟩] w fun e w' => e = .returned (.string ⟨(frB l).toArray⟩) ∧ Below w.heap.size w w' := by
  have sz := str_size' l
  have hc := conv4 (P := Tryz.prog) 63 9 5 Tryz.underlying63 Tryz.underlying5 Tryz.underlying9
  have hD : 0 ≤ dg l ∧ dg l ≤ 18446744073709551615 := ofP_bd _ _ _
  have q1 : (l.length : Int).tdiv 16777216 = 0 := by rw [Int.tdiv_eq_ediv_of_nonneg (by omega)]; omega
  have q2 : (l.length : Int).tdiv 65536 = 0 := by rw [Int.tdiv_eq_ediv_of_nonneg (by omega)]; omega
  have q3 : (l.length : Int).tdiv 256 = 0 := by rw [Int.tdiv_eq_ediv_of_nonneg (by omega)]; omega
  have q4 : (l.length : Int) % 256 = (l.length : Int) := by omega
  have hs4 : strOfNums [0, 0, 0, (l.length : Int)] = ⟨(be (l.length : Int) 4).toArray⟩ := by
    rw [be4 _ hl]
    simp [strOfNums]
  have h4 : (be (l.length : Int) 4).length = 4 := be_len _ _
  have h8 : (be (dg l) 8).length = 8 := be_len _ _
  have hc1 : (⟨(be (l.length : Int) 4).toArray⟩ : ByteArray) ++ ⟨(be (dg l) 8).toArray⟩ = ⟨(be (l.length : Int) 4 ++ be (dg l) 8).toArray⟩ := str_app _ _
  have h12 : (be (l.length : Int) 4 ++ be (dg l) 8).length = 12 := by rw [List.length_append, h4, h8]
  have hc2 : (⟨(be (l.length : Int) 4 ++ be (dg l) 8).toArray⟩ : ByteArray) ++ ⟨l.toArray⟩ = ⟨(frB l).toArray⟩ := by rw [str_app, frB, List.append_assoc]
  have hlim : ¬ 9223372036854775807 < 12 + l.length := by omega
  go_enter Tryz.func22, Tryz.ntmps22
  go_wp2_with fail
  refine (rof_any 8 0 (some ⟨w.heap.size, 0, none⟩) 1 1 [⟨l.toArray⟩] _ (by omega) rfl (by unfold maxLen; omega) ⟨by intro s hs; simp at hs; subst hs; rw [sz]; unfold maxLen; omega, .inr ⟨w.heap.size, 0, rfl, by simp, fun i h => by
    obtain rfl : i = 0 := by simp at h; omega
    simp⟩⟩).mono ?_
  rintro e w2 ⟨rfl, b2⟩
  have B2 : Below w.heap.size w w2 := ((Below.refl _ _).alloc (Nat.le_refl _) _).trans (b2.mono (by simp))
  clear b2
  go_wp2_with fail
  refine (reight (dg l) w2 hD).mono ?_
  rintro e w3 ⟨rfl, b3⟩
  have B3 := B2.trans (b3.mono B2.size)
  clear B2 b3
  go_wp2
  go_ret
  exact ⟨rfl, B3.alloc B3.size _⟩

/-- The answer's log. -/
def RLogAt (w : World) (rb : Nat) (B : List UInt8) (sf lf kp : Int) (dn : Bool) : Prop := Blk w rb #[.string ⟨B.toArray⟩, .int .i64 sf, .int .i64 lf, .int .i64 kp, .bool dn] 27
theorem RLogAt.lt {w : World} {rb : Nat} {B : List UInt8} {sf lf kp : Int} {dn : Bool} (h : RLogAt w rb B sf lf kp dn) : rb < w.heap.size := Blk.lt h

set_option maxHeartbeats 800000 in
theorem rarm_any (rb : Nat) (B : List UInt8) (sf lf kp : Int) (dn : Bool) (n k : Int) (w : World) (H : RLogAt w rb B sf lf kp dn) :
    Calls Tryz.prog 9 #[.pointer (some ⟨rb, 0, none⟩), .int .i64 n, .int .i64 k] w fun e w' => e = .returned (.tuple #[]) ∧ RLogAt w' rb B sf (if n < 0 then 0 else n) k dn ∧ But (fun k => k = rb) w w' := by
  have hk : Blk w rb #[.string ⟨B.toArray⟩, .int .i64 sf, .int .i64 lf, .int .i64 kp, .bool dn] 27 := H
  have c2 := (hk.cell 2).trans rfl
  have f2 := hk.frozen 2
  have z := hk.lt
  have k1 : Blk (w.setCell ⟨rb, 2, none⟩ (.int .i64 n)) rb #[.string ⟨B.toArray⟩, .int .i64 sf, .int .i64 n, .int .i64 kp, .bool dn] 27 := hk.set 2 (.int .i64 n)
  have B1 := but_set w rb 2 (.int .i64 n)
  go_enter Tryz.func9, Tryz.ntmps9
  go_upto_region 1 with fail
  generalize w.setCell ⟨rb, 2, none⟩ (.int .i64 n) = w1 at *
  clear c2 f2 hk H
  by_cases hn : n < 0
  · have c2 := (k1.cell 2).trans rfl
    have f2 := k1.frozen 2
    have z1 := k1.lt
    have k2 : Blk (w1.setCell ⟨rb, 2, none⟩ (.int .i64 0)) rb #[.string ⟨B.toArray⟩, .int .i64 sf, .int .i64 0, .int .i64 kp, .bool dn] 27 := k1.set 2 (.int .i64 0)
    have B2 := B1.trans (but_set w1 rb 2 (.int .i64 0))
    go_upto_region 3 with fail
    generalize w1.setCell ⟨rb, 2, none⟩ (.int .i64 0) = w2 at *
    clear c2 f2 k1 B1 z1
    have c3 := (k2.cell 3).trans rfl
    have f3 := k2.frozen 3
    have z2 := k2.lt
    have k3 : Blk (w2.setCell ⟨rb, 3, none⟩ (.int .i64 k)) rb #[.string ⟨B.toArray⟩, .int .i64 sf, .int .i64 0, .int .i64 k, .bool dn] 27 := k2.set 3 (.int .i64 k)
    have B3 := B2.trans (but_set w2 rb 3 (.int .i64 k))
    go_wp2
    go_end0
    exact ⟨rfl, k3, B3⟩
  · have c3 := (k1.cell 3).trans rfl
    have f3 := k1.frozen 3
    have z1 := k1.lt
    have k3 : Blk (w1.setCell ⟨rb, 3, none⟩ (.int .i64 k)) rb #[.string ⟨B.toArray⟩, .int .i64 sf, .int .i64 n, .int .i64 k, .bool dn] 27 := k1.set 3 (.int .i64 k)
    have B3 := B1.trans (but_set w1 rb 3 (.int .i64 k))
    go_wp2
    go_end0
    exact ⟨rfl, k3, B3⟩
end Go.Proofs.YtaifkidpdmhciaaGreat

namespace Go.Proofs.YtaifkidpdmhciaaGreat
open Go.RowKit
set_option linter.unusedVariables false
set_option linter.unusedSimpArgs false

set_option maxHeartbeats 3200000 in
theorem rdie_any (rb : Nat) (B : List UInt8) (sf : Nat) (lf kp keep : Int) (w : World) (H : RLogAt w rb B sf lf kp false) (hs : sf ≤ B.length) (hB : B.length ≤ 1000000) (hk1 : -9223372036854775808 ≤ keep ∧ keep ≤ 9223372036854775807) :
    Calls Tryz.prog 11 #[.pointer (some ⟨rb, 0, none⟩), .int .i64 keep] w fun e w' => e = .returned (.tuple #[]) ∧ RLogAt w' rb (B.take (dieN sf B.length keep)) (dieN sf B.length keep) 0 kp true ∧ But (fun k => k = rb) w w' := by
  have hk : Blk w rb #[.string ⟨B.toArray⟩, .int .i64 (sf : Int), .int .i64 lf, .int .i64 kp, .bool false] 27 := H
  have x0 := (hk.cell 0).trans rfl
  have x1 := (hk.cell 1).trans rfl
  have x4 := (hk.cell 4).trans rfl
  have zz := hk.lt
  have sz := str_size' B
  clear H
  by_cases h1 : keep ≤ 0
  · have g1 : ¬ (0 : Int) < keep := by omega
    have g2 : ¬ (B.length : Int) < (sf : Int) := by omega
    have g3 : ¬ (sf : Int) < (sf : Int) := by omega
    go_enter Tryz.func11, Tryz.ntmps11
    have HE : Hid (dieN sf B.length keep = sf) := by
      show _ = _
      unfold dieN
      (repeat' split) <;> omega
    have hex := ext_take B sf
    have hN : (sf : Int) ≤ (B.length : Int) := by omega
    go_upto_region 6 with fail
    have c0 := (hk.cell 0).trans rfl
    have f0 := hk.frozen 0
    have d0 := (hk.cell 0).trans rfl
    have z0 := hk.lt
    have kd0 : Blk (w.setCell ⟨rb, 0, none⟩ (.string ⟨(B.take sf).toArray⟩)) rb #[.string ⟨(B.take sf).toArray⟩, .int .i64 (sf : Int), .int .i64 lf, .int .i64 kp, .bool false] 27 := hk.set 0 (.string ⟨(B.take sf).toArray⟩)
    have Bd0 := but_set w rb 0 (.string ⟨(B.take sf).toArray⟩)
    go_upto_region 7 with fail
    generalize w.setCell ⟨rb, 0, none⟩ (.string ⟨(B.take sf).toArray⟩) = wd0 at *
    clear c0 f0 d0 z0
    have c1 := (kd0.cell 1).trans rfl
    have f1 := kd0.frozen 1
    have d1 := (kd0.cell 0).trans rfl
    have z1 := kd0.lt
    have kd1 : Blk (wd0.setCell ⟨rb, 1, none⟩ (.int .i64 (sf : Int))) rb #[.string ⟨(B.take sf).toArray⟩, .int .i64 (sf : Int), .int .i64 lf, .int .i64 kp, .bool false] 27 := kd0.set 1 (.int .i64 (sf : Int))
    have Bd1 := Bd0.trans (but_set wd0 rb 1 (.int .i64 (sf : Int)))
    go_upto_region 8 with fail
    generalize wd0.setCell ⟨rb, 1, none⟩ (.int .i64 (sf : Int)) = wd1 at *
    clear c1 f1 d1 z1
    have c2 := (kd1.cell 2).trans rfl
    have f2 := kd1.frozen 2
    have d2 := (kd1.cell 0).trans rfl
    have z2 := kd1.lt
    have kd2 : Blk (wd1.setCell ⟨rb, 2, none⟩ (.int .i64 0)) rb #[.string ⟨(B.take sf).toArray⟩, .int .i64 (sf : Int), .int .i64 0, .int .i64 kp, .bool false] 27 := kd1.set 2 (.int .i64 0)
    have Bd2 := Bd1.trans (but_set wd1 rb 2 (.int .i64 0))
    go_upto_region 9 with fail
    generalize wd1.setCell ⟨rb, 2, none⟩ (.int .i64 0) = wd2 at *
    clear c2 f2 d2 z2
    have c3 := (kd2.cell 4).trans rfl
    have f3 := kd2.frozen 4
    have d3 := (kd2.cell 0).trans rfl
    have z3 := kd2.lt
    have kd3 : Blk (wd2.setCell ⟨rb, 4, none⟩ (.bool true)) rb #[.string ⟨(B.take sf).toArray⟩, .int .i64 (sf : Int), .int .i64 0, .int .i64 kp, .bool true] 27 := kd2.set 4 (.bool true)
    have Bd3 := Bd2.trans (but_set wd2 rb 4 (.bool true))
    go_wp2
    go_end0
    exact ⟨rfl, by rw [HE.out]; exact kd3, Bd3⟩
  have g1 : (0 : Int) < keep := by omega
  by_cases h2 : (sf : Int) + keep ≤ 9223372036854775807
  · have ws := wrapI ((sf : Int) + keep) (by omega) (by omega)
    by_cases h3 : (sf : Int) + keep ≤ (B.length : Int)
    · obtain ⟨m, hm⟩ : ∃ m : Nat, (sf : Int) + keep = (m : Int) := ⟨sf + keep.toNat, by omega⟩
      rw [hm] at ws h2 h3
      have g2 : ¬ (B.length : Int) < (m : Int) := by omega
      have g3 : ¬ (m : Int) < (sf : Int) := by omega
      go_enter Tryz.func11, Tryz.ntmps11
      have HE : Hid (dieN sf B.length keep = m) := by
        show _ = _
        unfold dieN
        (repeat' split) <;> omega
      have hex := ext_take B m
      have hN : (m : Int) ≤ (B.length : Int) := by omega
      go_upto_region 6 with fail
      have c0 := (hk.cell 0).trans rfl
      have f0 := hk.frozen 0
      have d0 := (hk.cell 0).trans rfl
      have z0 := hk.lt
      have kd0 : Blk (w.setCell ⟨rb, 0, none⟩ (.string ⟨(B.take m).toArray⟩)) rb #[.string ⟨(B.take m).toArray⟩, .int .i64 (sf : Int), .int .i64 lf, .int .i64 kp, .bool false] 27 := hk.set 0 (.string ⟨(B.take m).toArray⟩)
      have Bd0 := but_set w rb 0 (.string ⟨(B.take m).toArray⟩)
      go_upto_region 7 with fail
      generalize w.setCell ⟨rb, 0, none⟩ (.string ⟨(B.take m).toArray⟩) = wd0 at *
      clear c0 f0 d0 z0
      have c1 := (kd0.cell 1).trans rfl
      have f1 := kd0.frozen 1
      have d1 := (kd0.cell 0).trans rfl
      have z1 := kd0.lt
      have kd1 : Blk (wd0.setCell ⟨rb, 1, none⟩ (.int .i64 (m : Int))) rb #[.string ⟨(B.take m).toArray⟩, .int .i64 (m : Int), .int .i64 lf, .int .i64 kp, .bool false] 27 := kd0.set 1 (.int .i64 (m : Int))
      have Bd1 := Bd0.trans (but_set wd0 rb 1 (.int .i64 (m : Int)))
      go_upto_region 8 with fail
      generalize wd0.setCell ⟨rb, 1, none⟩ (.int .i64 (m : Int)) = wd1 at *
      clear c1 f1 d1 z1
      have c2 := (kd1.cell 2).trans rfl
      have f2 := kd1.frozen 2
      have d2 := (kd1.cell 0).trans rfl
      have z2 := kd1.lt
      have kd2 : Blk (wd1.setCell ⟨rb, 2, none⟩ (.int .i64 0)) rb #[.string ⟨(B.take m).toArray⟩, .int .i64 (m : Int), .int .i64 0, .int .i64 kp, .bool false] 27 := kd1.set 2 (.int .i64 0)
      have Bd2 := Bd1.trans (but_set wd1 rb 2 (.int .i64 0))
      go_upto_region 9 with fail
      generalize wd1.setCell ⟨rb, 2, none⟩ (.int .i64 0) = wd2 at *
      clear c2 f2 d2 z2
      have c3 := (kd2.cell 4).trans rfl
      have f3 := kd2.frozen 4
      have d3 := (kd2.cell 0).trans rfl
      have z3 := kd2.lt
      have kd3 : Blk (wd2.setCell ⟨rb, 4, none⟩ (.bool true)) rb #[.string ⟨(B.take m).toArray⟩, .int .i64 (m : Int), .int .i64 0, .int .i64 kp, .bool true] 27 := kd2.set 4 (.bool true)
      have Bd3 := Bd2.trans (but_set wd2 rb 4 (.bool true))
      go_wp2
      go_end0
      exact ⟨rfl, by rw [HE.out]; exact kd3, Bd3⟩
    · have g2 : (B.length : Int) < (sf : Int) + keep := by omega
      go_enter Tryz.func11, Tryz.ntmps11
      have HE : Hid (dieN sf B.length keep = B.length) := by
        show _ = _
        unfold dieN
        (repeat' split) <;> omega
      have hex : (⟨B.toArray⟩ : ByteArray).extract 0 B.length = ⟨B.toArray⟩ := by rw [ext_take, List.take_length]
      have hN : (B.length : Int) ≤ (B.length : Int) := by omega
      go_upto_region 6 with fail
      have c0 := (hk.cell 0).trans rfl
      have f0 := hk.frozen 0
      have d0 := (hk.cell 0).trans rfl
      have z0 := hk.lt
      have kd0 : Blk (w.setCell ⟨rb, 0, none⟩ (.string ⟨B.toArray⟩)) rb #[.string ⟨B.toArray⟩, .int .i64 (sf : Int), .int .i64 lf, .int .i64 kp, .bool false] 27 := hk.set 0 (.string ⟨B.toArray⟩)
      have Bd0 := but_set w rb 0 (.string ⟨B.toArray⟩)
      go_upto_region 7 with fail
      generalize w.setCell ⟨rb, 0, none⟩ (.string ⟨B.toArray⟩) = wd0 at *
      clear c0 f0 d0 z0
      have c1 := (kd0.cell 1).trans rfl
      have f1 := kd0.frozen 1
      have d1 := (kd0.cell 0).trans rfl
      have z1 := kd0.lt
      have kd1 : Blk (wd0.setCell ⟨rb, 1, none⟩ (.int .i64 (B.length : Int))) rb #[.string ⟨B.toArray⟩, .int .i64 (B.length : Int), .int .i64 lf, .int .i64 kp, .bool false] 27 := kd0.set 1 (.int .i64 (B.length : Int))
      have Bd1 := Bd0.trans (but_set wd0 rb 1 (.int .i64 (B.length : Int)))
      go_upto_region 8 with fail
      generalize wd0.setCell ⟨rb, 1, none⟩ (.int .i64 (B.length : Int)) = wd1 at *
      clear c1 f1 d1 z1
      have c2 := (kd1.cell 2).trans rfl
      have f2 := kd1.frozen 2
      have d2 := (kd1.cell 0).trans rfl
      have z2 := kd1.lt
      have kd2 : Blk (wd1.setCell ⟨rb, 2, none⟩ (.int .i64 0)) rb #[.string ⟨B.toArray⟩, .int .i64 (B.length : Int), .int .i64 0, .int .i64 kp, .bool false] 27 := kd1.set 2 (.int .i64 0)
      have Bd2 := Bd1.trans (but_set wd1 rb 2 (.int .i64 0))
      go_upto_region 9 with fail
      generalize wd1.setCell ⟨rb, 2, none⟩ (.int .i64 0) = wd2 at *
      clear c2 f2 d2 z2
      have c3 := (kd2.cell 4).trans rfl
      have f3 := kd2.frozen 4
      have d3 := (kd2.cell 0).trans rfl
      have z3 := kd2.lt
      have kd3 : Blk (wd2.setCell ⟨rb, 4, none⟩ (.bool true)) rb #[.string ⟨B.toArray⟩, .int .i64 (B.length : Int), .int .i64 0, .int .i64 kp, .bool true] 27 := kd2.set 4 (.bool true)
      have Bd3 := Bd2.trans (but_set wd2 rb 4 (.bool true))
      go_wp2
      go_end0
      exact ⟨rfl, by rw [HE.out, List.take_length]; exact kd3, Bd3⟩
  · obtain ⟨q, hq⟩ : ∃ q : Int, IntKind.i64.wrap ((sf : Int) + keep) = q ∧ q < 0 := ⟨_, rfl, by
      simp [IntKind.wrap, IntKind.min, IntKind.max, IntKind.signed, IntKind.bits]
      omega⟩
    have ws := hq.1
    have g2 : ¬ (B.length : Int) < q := by omega
    have g3 : q < (sf : Int) := by omega
    go_enter Tryz.func11, Tryz.ntmps11
    have HE : Hid (dieN sf B.length keep = B.length) := by
      show _ = _
      unfold dieN
      (repeat' split) <;> omega
    have hex : (⟨B.toArray⟩ : ByteArray).extract 0 B.length = ⟨B.toArray⟩ := by rw [ext_take, List.take_length]
    have hN : (B.length : Int) ≤ (B.length : Int) := by omega
    go_upto_region 6 with fail
    have c0 := (hk.cell 0).trans rfl
    have f0 := hk.frozen 0
    have d0 := (hk.cell 0).trans rfl
    have z0 := hk.lt
    have kd0 : Blk (w.setCell ⟨rb, 0, none⟩ (.string ⟨B.toArray⟩)) rb #[.string ⟨B.toArray⟩, .int .i64 (sf : Int), .int .i64 lf, .int .i64 kp, .bool false] 27 := hk.set 0 (.string ⟨B.toArray⟩)
    have Bd0 := but_set w rb 0 (.string ⟨B.toArray⟩)
    go_upto_region 7 with fail
    generalize w.setCell ⟨rb, 0, none⟩ (.string ⟨B.toArray⟩) = wd0 at *
    clear c0 f0 d0 z0
    have c1 := (kd0.cell 1).trans rfl
    have f1 := kd0.frozen 1
    have d1 := (kd0.cell 0).trans rfl
    have z1 := kd0.lt
    have kd1 : Blk (wd0.setCell ⟨rb, 1, none⟩ (.int .i64 (B.length : Int))) rb #[.string ⟨B.toArray⟩, .int .i64 (B.length : Int), .int .i64 lf, .int .i64 kp, .bool false] 27 := kd0.set 1 (.int .i64 (B.length : Int))
    have Bd1 := Bd0.trans (but_set wd0 rb 1 (.int .i64 (B.length : Int)))
    go_upto_region 8 with fail
    generalize wd0.setCell ⟨rb, 1, none⟩ (.int .i64 (B.length : Int)) = wd1 at *
    clear c1 f1 d1 z1
    have c2 := (kd1.cell 2).trans rfl
    have f2 := kd1.frozen 2
    have d2 := (kd1.cell 0).trans rfl
    have z2 := kd1.lt
    have kd2 : Blk (wd1.setCell ⟨rb, 2, none⟩ (.int .i64 0)) rb #[.string ⟨B.toArray⟩, .int .i64 (B.length : Int), .int .i64 0, .int .i64 kp, .bool false] 27 := kd1.set 2 (.int .i64 0)
    have Bd2 := Bd1.trans (but_set wd1 rb 2 (.int .i64 0))
    go_upto_region 9 with fail
    generalize wd1.setCell ⟨rb, 2, none⟩ (.int .i64 0) = wd2 at *
    clear c2 f2 d2 z2
    have c3 := (kd2.cell 4).trans rfl
    have f3 := kd2.frozen 4
    have d3 := (kd2.cell 0).trans rfl
    have z3 := kd2.lt
    have kd3 : Blk (wd2.setCell ⟨rb, 4, none⟩ (.bool true)) rb #[.string ⟨B.toArray⟩, .int .i64 (B.length : Int), .int .i64 0, .int .i64 kp, .bool true] 27 := kd2.set 4 (.bool true)
    have Bd3 := Bd2.trans (but_set wd2 rb 4 (.bool true))
    go_wp2
    go_end0
    exact ⟨rfl, by rw [HE.out, List.take_length]; exact kd3, Bd3⟩

set_option maxHeartbeats 800000 in
theorem rdie_down (rb : Nat) (B : List UInt8) (sf lf kp keep : Int) (w : World) (H : RLogAt w rb B sf lf kp true) :
    Calls Tryz.prog 11 #[.pointer (some ⟨rb, 0, none⟩), .int .i64 keep] w fun e w' => e = .returned (.tuple #[]) ∧ w = w' := by
  have hk : Blk w rb #[.string ⟨B.toArray⟩, .int .i64 sf, .int .i64 lf, .int .i64 kp, .bool true] 27 := H
  have x4 := (hk.cell 4).trans rfl
  have zz := hk.lt
  go_enter Tryz.func11, Tryz.ntmps11
  go_wp2
  exact bodyPost_ret (v := .tuple #[]) (by simp [results, Tryz.results11]) rfl ⟨rfl, rfl⟩

/-- What an act of the answer leaves. -/
structure RActX (rb : Nat) (B : List UInt8) (sf : Nat) (lf kp : Int) (w w' : World) : Prop where
  dies : lf = 1 → RLogAt w' rb (B.take (dieN sf B.length kp)) (dieN sf B.length kp) 0 kp true
  not_ : lf ≠ 1 → RLogAt w' rb B sf (if lf < 1 then lf else lf - 1) kp false
  but_ : But (fun k => k = rb) w w'
def RActE (rb : Nat) (B : List UInt8) (sf : Nat) (lf kp : Int) (w : World) (e : Ending) (w' : World) : Prop := ∃ d : Bool, e = .returned (.bool d) ∧ (d = false ↔ lf = 1) ∧ RActX rb B sf lf kp w w'

set_option maxHeartbeats 1600000 in
theorem ract_any (rb : Nat) (B : List UInt8) (sf : Nat) (lf kp : Int) (w : World) (H : RLogAt w rb B sf lf kp false) (hs : sf ≤ B.length) (hB : B.length ≤ 1000000) (hl : 0 ≤ lf ∧ lf ≤ 9223372036854775807) (hk1 : -9223372036854775808 ≤ kp ∧ kp ≤ 9223372036854775807) :
    Calls Tryz.prog 20 #[.pointer (some ⟨rb, 0, none⟩)] w fun e w' => RActE rb B sf lf kp w e w' := by
  have hk : Blk w rb #[.string ⟨B.toArray⟩, .int .i64 (sf : Int), .int .i64 lf, .int .i64 kp, .bool false] 27 := H
  have x2 := (hk.cell 2).trans rfl
  have x3 := (hk.cell 3).trans rfl
  have x4 := (hk.cell 4).trans rfl
  have f2 := hk.frozen 2
  have zz := hk.lt
  by_cases h1 : lf = 1
  · have d1 : (lf == 1) = true := by simp [h1]
    have H1 := show Hid (lf = 1) from h1
    clear h1
    go_enter Tryz.func20, Tryz.ntmps20
    go_wp2_with fail
    refine (rdie_any rb B sf lf kp kp w H hs hB hk1).mono ?_
    rintro e w1 ⟨rfl, H2, B2⟩
    have hk2 : Blk w1 rb #[.string ⟨(B.take (dieN sf B.length kp)).toArray⟩, .int .i64 (dieN sf B.length kp : Nat), .int .i64 0, .int .i64 kp, .bool true] 27 := H2
    clear x2 x3 x4 f2 zz hk
    have x2 := (hk2.cell 2).trans rfl
    have x4 := (hk2.cell 4).trans rfl
    have zz := hk2.lt
    clear hk2
    go_wp2
    go_ret
    exact ⟨false, rfl, ⟨fun _ => H1.out, fun _ => rfl⟩, fun _ => H2, fun q => absurd H1.out q, B2⟩
  · have d1 : (lf == 1) = false := by simp [h1]
    have H1 := show Hid (lf ≠ 1) from h1
    clear h1
    by_cases h2 : 0 < lf
    · have ws := wrapI (lf - 1) (by omega) (by omega)
      have k1 : Blk (w.setCell ⟨rb, 2, none⟩ (.int .i64 (lf - 1))) rb #[.string ⟨B.toArray⟩, .int .i64 (sf : Int), .int .i64 (lf - 1), .int .i64 kp, .bool false] 27 := hk.set 2 (.int .i64 (lf - 1))
      have B1 := but_set w rb 2 (.int .i64 (lf - 1))
      have y4 := (k1.cell 4).trans rfl
      have z1 := k1.lt
      have HL : Hid ((if lf < 1 then lf else lf - 1) = lf - 1) := if_neg (by omega)
      go_enter Tryz.func20, Tryz.ntmps20
      go_wp2
      go_ret
      exact ⟨true, rfl, ⟨(fun q => by cases q), fun q => absurd q H1.out⟩, fun q => absurd q H1.out, fun _ => by rw [HL.out]; exact k1, B1⟩
    · have HL : Hid ((if lf < 1 then lf else lf - 1) = lf) := if_pos (by omega)
      go_enter Tryz.func20, Tryz.ntmps20
      go_wp2
      go_ret
      exact ⟨true, rfl, ⟨(fun q => by cases q), fun q => absurd q H1.out⟩, fun q => absurd q H1.out, fun _ => by rw [HL.out]; exact H, But.refl _ _⟩

/-- What the answer's Sync leaves. -/
def RSyncE (rb : Nat) (B : List UInt8) (sf : Nat) (dn : Bool) (lf kp : Int) (w : World) (e : Ending) (w' : World) : Prop :=
  (dn = true ∧ e = .returned (.int .i64 27) ∧ w = w') ∨ (dn = false ∧ lf = 1 ∧ e = .returned (.int .i64 27) ∧ RActX rb B sf lf kp w w') ∨ (dn = false ∧ lf ≠ 1 ∧ e = .returned (.int .i64 0) ∧ RActX rb B B.length lf kp w w')

set_option maxHeartbeats 1600000 in
theorem rsync_any (rb : Nat) (B : List UInt8) (sf : Nat) (dn : Bool) (lf kp : Int) (w : World) (H : RLogAt w rb B sf lf kp dn) (hs : sf ≤ B.length) (hB : B.length ≤ 1000000) (hl : 0 ≤ lf ∧ lf ≤ 9223372036854775807) (hk1 : -9223372036854775808 ≤ kp ∧ kp ≤ 9223372036854775807) :
    Calls Tryz.prog 7 #[.pointer (some ⟨rb, 0, none⟩)] w fun e w' => RSyncE rb B sf dn lf kp w e w' := by
  have hk : Blk w rb #[.string ⟨B.toArray⟩, .int .i64 (sf : Int), .int .i64 lf, .int .i64 kp, .bool dn] 27 := H
  have x4 := (hk.cell 4).trans rfl
  have zz := hk.lt
  have sz := str_size' B
  cases dn
  · go_enter Tryz.func7, Tryz.ntmps7
    go_wp2_with fail
    refine (ract_any rb B sf lf kp w H hs hB hl hk1).mono ?_
    rintro e w1 ⟨d, rfl, hd, Ac⟩
    clear x4 zz hk H
    cases d
    · have HD : Hid (lf = 1) := hd.1 rfl
      clear hd
      go_wp2
      go_ret
      exact .inr (.inl ⟨rfl, HD.out, rfl, Ac⟩)
    · have HD : Hid (lf ≠ 1) := fun q => by have := hd.2 q; cases this
      clear hd
      obtain ⟨lf2, HQ⟩ : ∃ q, Hid ((if lf < 1 then lf else lf - 1) = q) := ⟨_, rfl⟩
      have H1 := Ac.not_ HD.out
      rw [HQ.out] at H1
      have k1 : Blk w1 rb #[.string ⟨B.toArray⟩, .int .i64 (sf : Int), .int .i64 lf2, .int .i64 kp, .bool false] 27 := H1
      have x0 := (k1.cell 0).trans rfl
      have x1 := (k1.cell 1).trans rfl
      have f1 := k1.frozen 1
      have zz := k1.lt
      have k2 : Blk (w1.setCell ⟨rb, 1, none⟩ (.int .i64 (B.length : Int))) rb #[.string ⟨B.toArray⟩, .int .i64 (B.length : Int), .int .i64 lf2, .int .i64 kp, .bool false] 27 := k1.set 1 (.int .i64 (B.length : Int))
      have B2 := Ac.but_.trans (but_set w1 rb 1 (.int .i64 (B.length : Int)))
      clear Ac H1 k1
      go_wp2
      go_ret
      exact .inr (.inr ⟨rfl, HD.out, rfl, fun q => absurd q HD.out, fun _ => by rw [HQ.out]; exact k2, B2⟩)
  · go_enter Tryz.func7, Tryz.ntmps7
    go_wp2
    go_ret
    exact .inl ⟨rfl, rfl, rfl⟩
end Go.Proofs.YtaifkidpdmhciaaGreat
