/- A pass over records. -/
import Derived.Test.YtaifkidpdmhciaaGreatXWalk5
namespace Go.Proofs.YtaifkidpdmhciaaGreat
open Go.RowKit
set_option linter.unusedVariables false
set_option linter.unusedSimpArgs false

set_option maxHeartbeats 1600000 in
theorem precord_anyX (base b xb : Nat) (x : Record) (out : List UInt8) (w : World) (hL : out.length + wtL x.atoms ≤ 1099511000000) (hP : PassAt w base b out) (hs : Safe w b xb) (hV : CellsAt base w xb 0 x.flds) :
    Calls Tryz.prog 35 #[.pointer (some ⟨b, 0, none⟩), .pointer (some ⟨xb, 0, none⟩)] w fun e w' => Wr base b out x.atoms e w' ∧ Kp base b w w' := by
  obtain ⟨c0, c2, hlt, hb⟩ := hP.cells
  have hB0 : base ≤ w.heap.size := Nat.le_trans hb (Nat.le_of_lt hlt)
  have hxl := hs.2.1
  have s0 := hs
  have V0 := hV
  have q0 := hV.get0 rfl
  have HW : Hid (out.length + (wtL (intA x.k) + wtL x.tail) ≤ 1099511000000) := by
    have h := hL
    simp only [Record.atoms, wtL_append] at h
    exact h
  clear hL
  go_enter Tryz.func35, Tryz.ntmps35
  go_wp2_with fail
  refine (numberW base b ⟨xb, 0, none⟩ x.k out _ (by have := HW.out; omega) hP q0).mono ?_
  rintro e w1 ⟨⟨ho1, rfl, P1⟩ | ⟨ho1, rfl⟩, k1⟩
  rotate_left
  · have H1 := show Hid (_ = _) from ho1
    clear ho1
    go_wp2
    exact ⟨rfl, .inr ⟨by simp only [Record.atoms, okL_append]; rw [H1.out]; simp, rfl⟩, k1⟩
  have H1 := show Hid (_ = _) from ho1
  clear ho1
  obtain ⟨o1, Ho1⟩ : ∃ o, Hid (o = out ++ encL (intA x.k)) := ⟨_, rfl⟩
  rw [← Ho1.out] at P1
  have L1 : Hid (o1.length ≤ out.length + wtL (intA x.k)) := by
    show _ ≤ _
    have := encL_len (intA x.k)
    rw [Ho1.out, List.length_append]; omega
  have s1 := s0.kp k1
  have V1 := V0.kp s0 k1
  have VV : Hid (CellsAt base w1 xb 0 x.flds) := V1
  have q1 := V1.get0 rfl
  have hx1 := s1.2.1
  have PP : Hid (PassAt w1 base b o1) := P1
  obtain ⟨d0, d2, hlt1, _⟩ := P1.cells
  clear V0 V1 hV q0 c0 c2 P1
  obtain ⟨k, Hk⟩ : ∃ k, Hid (x.k = k) := ⟨_, rfl⟩
  have q1' : w1.cell? ⟨xb, 0, none⟩ = some (.int .i64 k) := by rw [q1, ← Hk.out]; rfl
  clear q1
  by_cases e1 : k = 1
  · subst e1
    have HT : Hid (x.tail = x.vo.atoms) := by show _ = _; simp [Record.tail, Hk.out]
    go_wp2_with fail
    refine (pvote_anyX base b xb 1 x.vo o1 _ (by have := HW.out; have := L1.out; rw [HT.out] at *; omega) PP.out s1 (VV.out.app.2.app.1)).mono ?_
    rintro e w2 ⟨⟨ho2, rfl, P2⟩ | ⟨ho2, rfl⟩, k2⟩
    rotate_left
    · have H2 := show Hid (_ = _) from ho2
      clear ho2
      go_wp2
      exact ⟨rfl, .inr ⟨by simp only [Record.atoms, okL_append]; rw [HT.out, H2.out]; simp, rfl⟩, k1.trans k2⟩
    have H2 := show Hid (_ = _) from ho2
    clear ho2
    go_wp2
    go_end0
    exact ⟨.inl ⟨by simp only [Record.atoms, okL_append]; rw [HT.out, H1.out, H2.out]; rfl, rfl, by rw [Record.atoms, HT.out, encL_append, ← List.append_assoc, ← Ho1.out]; exact P2⟩, k1.trans k2⟩
  by_cases e2 : k = 2
  · subst e2
    have HT : Hid (x.tail = x.mo.atoms) := by show _ = _; simp [Record.tail, Hk.out]
    go_wp2_with fail
    refine (pmotion_anyX base b xb 7 x.mo o1 _ (by have := HW.out; have := L1.out; rw [HT.out] at *; omega) PP.out s1 (VV.out.app.2.app.2.app.1)).mono ?_
    rintro e w2 ⟨⟨ho2, rfl, P2⟩ | ⟨ho2, rfl⟩, k2⟩
    rotate_left
    · have H2 := show Hid (_ = _) from ho2
      clear ho2
      go_wp2
      exact ⟨rfl, .inr ⟨by simp only [Record.atoms, okL_append]; rw [HT.out, H2.out]; simp, rfl⟩, k1.trans k2⟩
    have H2 := show Hid (_ = _) from ho2
    clear ho2
    go_wp2
    go_end0
    exact ⟨.inl ⟨by simp only [Record.atoms, okL_append]; rw [HT.out, H1.out, H2.out]; rfl, rfl, by rw [Record.atoms, HT.out, encL_append, ← List.append_assoc, ← Ho1.out]; exact P2⟩, k1.trans k2⟩
  by_cases e3 : k = 3
  · subst e3
    have HT : Hid (x.tail = x.kn.atoms) := by show _ = _; simp [Record.tail, Hk.out]
    go_wp2_with fail
    refine (pknown_anyX base b xb 21 x.kn o1 _ (by have := HW.out; have := L1.out; rw [HT.out] at *; omega) PP.out s1 (VV.out.app.2.app.2.app.2)).mono ?_
    rintro e w2 ⟨⟨ho2, rfl, P2⟩ | ⟨ho2, rfl⟩, k2⟩
    rotate_left
    · have H2 := show Hid (_ = _) from ho2
      clear ho2
      go_wp2
      exact ⟨rfl, .inr ⟨by simp only [Record.atoms, okL_append]; rw [HT.out, H2.out]; simp, rfl⟩, k1.trans k2⟩
    have H2 := show Hid (_ = _) from ho2
    clear ho2
    go_wp2
    go_end0
    exact ⟨.inl ⟨by simp only [Record.atoms, okL_append]; rw [HT.out, H1.out, H2.out]; rfl, rfl, by rw [Record.atoms, HT.out, encL_append, ← List.append_assoc, ← Ho1.out]; exact P2⟩, k1.trans k2⟩
  by_cases e4 : k = 4
  · subst e4
    have HT : Hid (x.tail = x.kn.atoms) := by show _ = _; simp [Record.tail, Hk.out]
    go_wp2_with fail
    refine (pknown_anyX base b xb 21 x.kn o1 _ (by have := HW.out; have := L1.out; rw [HT.out] at *; omega) PP.out s1 (VV.out.app.2.app.2.app.2)).mono ?_
    rintro e w2 ⟨⟨ho2, rfl, P2⟩ | ⟨ho2, rfl⟩, k2⟩
    rotate_left
    · have H2 := show Hid (_ = _) from ho2
      clear ho2
      go_wp2
      exact ⟨rfl, .inr ⟨by simp only [Record.atoms, okL_append]; rw [HT.out, H2.out]; simp, rfl⟩, k1.trans k2⟩
    have H2 := show Hid (_ = _) from ho2
    clear ho2
    go_wp2
    go_end0
    exact ⟨.inl ⟨by simp only [Record.atoms, okL_append]; rw [HT.out, H1.out, H2.out]; rfl, rfl, by rw [Record.atoms, HT.out, encL_append, ← List.append_assoc, ← Ho1.out]; exact P2⟩, k1.trans k2⟩
  have HT : Hid (x.tail = []) := by show _ = _; simp [Record.tail, Hk.out, e1, e2, e3, e4]
  have f1 : (k == 1) = false := by simp [e1]
  have f2 : (k == 2) = false := by simp [e2]
  have f3 : (k == 3) = false := by simp [e3]
  have f4 : (k == 4) = false := by simp [e4]
  go_wp2
  go_end0
  exact ⟨.inl ⟨by simp only [Record.atoms, okL_append]; rw [HT.out, H1.out]; rfl, rfl, by rw [Record.atoms, HT.out, List.append_nil, ← Ho1.out]; exact PP.out⟩, k1⟩
end Go.Proofs.YtaifkidpdmhciaaGreat
