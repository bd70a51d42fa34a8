/- A pass that writes: texts, digests, and all small parts once more, as lists of parts. -/
import Derived.Test.YtcpjcjonlkgblaaXThings
namespace Go.Proofs.Ytcpjcjonlkgblaa.W
open Go.RowKit
set_option linter.unusedVariables false

theorem flagW (base b : Nat) (a : Addr) (x : Bool) (out : List UInt8) (w : World) (hL : out.length ≤ 1099511627776) (hP : PassAt w base b out) (ha : w.cell? a = some (.bool x)) :
    Calls Try.prog 83 #[.pointer (some ⟨b, 0, none⟩), .pointer (some a)] w fun e w' => Wr base b out (flagL x) e w' ∧ Kp base b w w' :=
  (flag_any base b a x out w hL hP ha).mono fun e w' ⟨h1, h2, h3⟩ => ⟨.inl ⟨rfl, h1, by simpa [flagL, encL, Atom.enc] using h2⟩, h3⟩

theorem digestW (base b : Nat) (a : Addr) (d : Int) (out : List UInt8) (w : World) (hd : 0 ≤ d ∧ d ≤ 18446744073709551615) (hL : out.length ≤ 1099511627776) (hP : PassAt w base b out) (ha : w.cell? a = some (.int .u64 d)) :
    Calls Try.prog 82 #[.pointer (some ⟨b, 0, none⟩), .pointer (some a)] w fun e w' => Wr base b out (digL d) e w' ∧ Kp base b w w' :=
  (digest_any base b a d out w hd hL hP ha).mono fun e w' ⟨h1, h2, h3⟩ => ⟨.inl ⟨rfl, h1, by simpa [digL, encL, Atom.enc] using h2⟩, h3⟩



theorem boundedW (base b : Nat) (a : Addr) (n most : Int) (out : List UInt8) (w : World) (hm : most ≤ 1099511627775) (hL : out.length ≤ 1099511627776) (hP : PassAt w base b out) (ha : w.cell? a = some (.int .i64 n)) :
    Calls Try.prog 81 #[.pointer (some ⟨b, 0, none⟩), .pointer (some a), .int .i64 most] w fun e w' => Wr base b out [Atom.num most n] e w' ∧ Kp base b w w' :=
  (bounded_any base b a n most out w hm hL hP ha).mono fun e w' ⟨h1, h2⟩ => ⟨h1.wr (pNum_at _ _ _), h2⟩



set_option maxHeartbeats 1600000 in
theorem textW (base b : Nat) (a : Addr) (s : List UInt8) (most : Int) (out : List UInt8) (w : World) (hm : most ≤ 1099511627775) (hs9 : s.length ≤ 1099511627775) (hL : out.length + s.length ≤ 1099511627000) (hP : PassAt w base b out) (hs : Safe w b a.block) (ha : w.cell? a = some (.string ⟨s.toArray⟩)) :
    Calls Try.prog 84 #[.pointer (some ⟨b, 0, none⟩), .pointer (some a), .int .i64 most] w fun e w' => Wr base b out (textL most s) e w' ∧ Kp base b w w' := by
  obtain ⟨i0, hinf, hz0, hz1, hz2⟩ := info_parts infoByte
  obtain ⟨c0, _, hlt, hb⟩ := hP.cells
  have hB0 : base ≤ w.heap.size := Nat.le_trans hb (Nat.le_of_lt hlt)
  have hal := hs.2.1
  have bA : Below w.heap.size w (w.alloc (.cells #[.int .i64 (s.length : Int)] 3)) := (Below.refl _ _).alloc (Nat.le_refl _) _
  have kA : Kp base b w (w.alloc (.cells #[.int .i64 (s.length : Int)] 3)) := Kp.of_below bA hB0
  have kN := Blk.new w #[.int .i64 (s.length : Int)] 3
  have n0 := kN.cell 0
  simp only [List.getElem?_toArray, List.getElem?_cons_zero] at n0
  have hsz : (⟨s.toArray⟩ : ByteArray).size = s.length := by simp [ByteArray.size]
  have hL1 : out.length ≤ 1099511627776 := by omega
  go_enter Try.func84, Try.ntmps84
  go_wp2_with fail
  refine (boundedW base b ⟨w.heap.size, 0, none⟩ (s.length : Int) most out _ hm hL1 (hP.below bA) n0).mono ?_
  rintro e w1 ⟨⟨ho1, rfl, P1⟩ | ⟨ho1, rfl⟩, k1⟩
  rotate_left
  · have H1 := show Hid (_ = _) from ho1
    clear ho1
    go_wp2
    exact ⟨rfl, .inr ⟨by have h := H1.out; simp only [okL, Bool.and_true] at h; simp [textL, okL, h], rfl⟩, kA.trans k1⟩
  have H1 := show Hid (_ = _) from ho1
  clear ho1
  have K1 := kA.trans k1
  have a1 : w1.cell? a = some (.string ⟨s.toArray⟩) := by rw [Safe.cell hs K1]; exact ha
  obtain ⟨r0, _, _, _⟩ := P1.cells
  have l1 : (out ++ encL [Atom.num most (s.length : Int)]).length ≤ out.length + 6 := by
    have := encL_len [Atom.num most (s.length : Int)]
    simp only [wtL, Atom.wt] at this
    rw [List.length_append]; omega
  obtain ⟨o1, Ho1⟩ : ∃ o, Hid (o = out ++ encL [Atom.num most (s.length : Int)]) := ⟨_, rfl⟩
  rw [← Ho1.out] at P1 l1
  obtain ⟨v, kP, hown, _⟩ := P1
  obtain ⟨av, cv, rfl⟩ := owns_form hown
  have c1 := kP.cell 1
  have f1 := kP.frozen 1
  have lt1 := kP.lt
  have hB1 : base ≤ w1.heap.size := Nat.le_trans hb (Nat.le_of_lt lt1)
  simp only [List.getElem?_toArray, List.getElem?_cons_succ, List.getElem?_cons_zero] at c1
  have hal1 : a.block < w1.heap.size := Nat.lt_of_lt_of_le hal K1.size
  clear c0 n0 bA kA kN ha
  go_wp2_with fail
  go_region_law
    (refine step_append_str _ (by rfl) _ _ _ _ (by rfl) b 5 i0 Try.underlying112 Try.underlying9 hinf hz0 hz1 hz2 (.slice av o1.length cv) o1.length (bcells o1) (by rfl) (owns_below hown (Below.refl _ _).drew) ⟨s.toArray⟩ (by rfl) (by rw [hsz]; unfold maxLen; omega) (by rw [hsz]; omega) (Nat.le_of_lt lt1) ?_
     intro a5 c5 w5 hown5 hgrow5
     have hown5' : w5.ownsRow b 5 1 (.slice a5 (o1.length + (⟨s.toArray⟩ : ByteArray).size) c5) (o1.length + s.length) (bcells o1 ++ bcells s) := by
       rw [← bcells_str]; exact hown5
     obtain ⟨kP5, hP6, hK6⟩ := pass_stored (more := s) (kP.below (Below.refl _ _).drew lt1) (owns_below hown (Below.refl _ _).drew) hb hgrow5 hown5'
     have c51 := kP5.cell 1
     have f51 := kP5.frozen 1
     have lt5 := kP5.lt
     simp only [List.getElem?_toArray, List.getElem?_cons_succ, List.getElem?_cons_zero] at c51)
  all_goals
    rw [hsz] at hP6 hK6
    go_end0
    have eo : okL (textL most s) = true := by
      have h := H1.out
      simp only [okL, Bool.and_true] at h
      show ((Atom.num most (s.length : Int)).ok && ((Atom.raw s).ok && true)) = true
      rw [h]; rfl
    have ee : out ++ encL (textL most s) = o1 ++ s := by rw [Ho1.out]; simp [textL, encL, Atom.enc, List.append_assoc]
    rw [← ee] at hP6
    exact ⟨.inl ⟨eo, rfl, hP6⟩, (K1.trans (Kp.of_below (Below.refl _ _).drew hB1)).trans hK6⟩
end Go.Proofs.Ytcpjcjonlkgblaa.W
