/- A pass over proofs and sights. -/
import Derived.Test.YtaifkidpdmhciaaGreatXWalk
import Derived.Test.YtaifkidpdmhciaaGreatM24
namespace Go.Proofs.YtaifkidpdmhciaaGreat
open Go.RowKit
set_option linter.unusedVariables false

set_option maxHeartbeats 3200000 in
theorem pproof1_anyX (base b xb off : Nat) (x : Turn) (out : List UInt8) (w : World) (hL : out.length + wtL x.atoms ≤ 1099511000000) (hP : PassAt w base b out) (hs : Safe w b xb) (hV : CellsAt base w xb off x.flds) :
    Calls Tryz.prog 149 #[.pointer (some ⟨b, 0, none⟩), .pointer (some ⟨xb, off, none⟩)] w fun e w' => Wr base b out x.atoms e w' ∧ Kp base b w w' := by
  obtain ⟨c0, c2, hlt, hb⟩ := hP.cells
  have hB0 : base ≤ w.heap.size := Nat.le_trans hb (Nat.le_of_lt hlt)
  have hxl := hs.2.1
  have K0 := Kp.refl base b w
  have s0 := hs
  have V0 := hV
  have P0 := hP
  have HW : Hid (out.length + (wtL ([Atom.num 287 x.p]) + wtL (digL x.d)) ≤ 1099511000000) := by
    have h := hL
    simp only [Turn.atoms, wtL_append] at h
    exact h
  clear hL
  go_enter Tryz.func149, Tryz.ntmps149
  go_wp2_with fail
  refine (boundedW base b ⟨xb, off, none⟩ x.p 287 out _ (by omega) (by have := HW.out; omega) P0 (V0.get0 rfl)).mono ?_
  rintro e w1 ⟨⟨ho1, rfl, P1⟩ | ⟨ho1, rfl⟩, k1⟩
  rotate_left
  · have H1 := show Hid (_ = _) from ho1
    clear ho1
    go_wp2
    exact ⟨rfl, .inr ⟨by simp only [Turn.atoms, okL_append]; rw [H1.out]; simp, rfl⟩, K0.trans k1⟩
  have H1 := show Hid (_ = _) from ho1
  clear ho1
  obtain ⟨o1, Ho1⟩ : ∃ o, Hid (o = out ++ encL ([Atom.num 287 x.p])) := ⟨_, rfl⟩
  rw [← Ho1.out] at P1
  have L1 : Hid (o1.length ≤ out.length + wtL ([Atom.num 287 x.p])) := by
    show _ ≤ _
    have := encL_len ([Atom.num 287 x.p])
    rw [Ho1.out, List.length_append]; omega
  have K1 := K0.trans k1
  have s1 := s0.kp k1
  have V1 := V0.kp s0 k1
  clear k1
  go_wp2_with fail
  refine (digestW base b ⟨xb, off + 1, none⟩ x.d o1 _ (V1.goods.get 1 rfl) (by have := HW.out; have := L1.out; omega) P1 (V1.get 1 rfl)).mono ?_
  rintro e w2 ⟨⟨ho2, rfl, P2⟩ | ⟨ho2, rfl⟩, k2⟩
  rotate_left
  · have H2 := show Hid (_ = _) from ho2
    clear ho2
    go_wp2
    exact ⟨rfl, .inr ⟨by simp only [Turn.atoms, okL_append]; rw [H2.out]; simp, rfl⟩, K1.trans k2⟩
  have H2 := show Hid (_ = _) from ho2
  clear ho2
  obtain ⟨o2, Ho2⟩ : ∃ o, Hid (o = o1 ++ encL (digL x.d)) := ⟨_, rfl⟩
  rw [← Ho2.out] at P2
  have L2 : Hid (o2.length ≤ o1.length + wtL (digL x.d)) := by
    show _ ≤ _
    have := encL_len (digL x.d)
    rw [Ho2.out, List.length_append]; omega
  have K2 := K1.trans k2
  have s2 := s1.kp k2
  have V2 := V1.kp s1 k2
  clear k2
  go_wp2
  go_end0
  have eo : okL x.atoms = true := by simp only [Turn.atoms, okL_append, H1.out, H2.out, Bool.and_self]
  have ee : out ++ encL x.atoms = o2 := by
    simp only [Turn.atoms, encL_append, ← List.append_assoc]
    rw [Ho2.out, Ho1.out]
  rw [← ee] at P2
  exact ⟨.inl ⟨eo, rfl, P2⟩, K2⟩

set_option maxHeartbeats 1600000 in
theorem lTurn_anyX (base b xb xo : Nat) (l : Lst Turn) (most : Int) (out : List UInt8) (w : World) (hm : 0 ≤ most ∧ most ≤ 1000) (hL : out.length + wtL (listL most Turn.atoms l.xs) ≤ 1099511000000) (hP : PassAt w base b out) (hs : Safe w b xb) (hx : w.cell? ⟨xb, xo, none⟩ = some (.slice l.la l.xs.length l.lc)) (hh : l.Held Turn.flds 2 base w) :
    Calls Tryz.prog 148 #[.pointer (some ⟨b, 0, none⟩), .pointer (some ⟨xb, xo, none⟩), .int .i64 most, .func (.func 149) #[] #[]] w fun e w' => Wr base b out (listL most Turn.atoms l.xs) e w' ∧ Kp base b w w' := by
  obtain ⟨la, lc, xs⟩ := l
  obtain ⟨c0, c2, hlt, hb⟩ := hP.cells
  have hB0 : base ≤ w.heap.size := Nat.le_trans hb (Nat.le_of_lt hlt)
  obtain ⟨hc, hcm, _⟩ := id hh
  simp only at hL hx hc hcm ⊢
  unfold maxLen at hcm
  have HL : Hid (out.length + (6 + wtL (eachL Turn.atoms xs)) ≤ 1099511000000) := hL
  have hlo : out.length ≤ 1099511000000 := by have := HL.out; omega
  have bA : Below w.heap.size w (w.alloc (.cells #[.int .i64 (xs.length : Int)] 3)) := (Below.refl _ _).alloc (Nat.le_refl _) _
  have kA : Kp base b w (w.alloc (.cells #[.int .i64 (xs.length : Int)] 3)) := Kp.of_below bA hB0
  have kN := Blk.new w #[.int .i64 (xs.length : Int)] 3
  have n0 := kN.cell 0
  simp only [List.getElem?_toArray, List.getElem?_cons_zero] at n0
  have hxl := hs.2.1
  clear hL
  go_enter Tryz.func148, Tryz.ntmps148
  go_wp2_with fail
  refine (boundedW base b ⟨w.heap.size, 0, none⟩ (xs.length : Int) most out _ (by omega) (by omega) (hP.below bA) n0).mono ?_
  rintro e w1 ⟨⟨ho1, rfl, P1⟩ | ⟨ho1, rfl⟩, k1⟩
  rotate_left
  · have H1 := show Hid (_ = _) from ho1
    clear ho1
    go_wp2
    exact ⟨rfl, .inr ⟨by have h := H1.out; simp only [okL, Bool.and_true] at h; simp [listL, okL, h], rfl⟩, kA.trans k1⟩
  have hle : (xs.length : Int) ≤ most := by
    simp only [okL, Atom.ok, Bool.and_true, Bool.and_eq_true, decide_eq_true_eq] at ho1
    exact ho1.2
  have H1 := show Hid (_ = _) from ho1
  clear ho1
  obtain ⟨o1, Ho1⟩ : ∃ o, Hid (o = out ++ encL [Atom.num most (xs.length : Int)]) := ⟨_, rfl⟩
  rw [← Ho1.out] at P1
  have L1 : Hid (o1.length ≤ out.length + 6) := by
    show _ ≤ _
    have := encL_len [Atom.num most (xs.length : Int)]
    simp only [wtL, Atom.wt] at this
    rw [Ho1.out, List.length_append]; omega
  have K1 := kA.trans k1
  have s1 := hs.kp K1
  have x1 : w1.cell? ⟨xb, xo, none⟩ = some (.slice la xs.length lc) := by rw [Safe.cell (a := ⟨xb, xo, none⟩) hs K1]; exact hx
  have h1 := hh.below K1.below
  have kN1 := kN.kp k1 (by omega)
  have n1 := kN1.cell 0
  simp only [List.getElem?_toArray, List.getElem?_cons_zero] at n1
  have hz1 := kN1.lt
  obtain ⟨r0, _, _, _⟩ := P1.cells
  clear c0 c2 n0 bA kA kN hx hh
  go_wp2_with fail
  go_loopw [9, 26] (fun _ iv wv => ∃ (k : Nat), k ≤ xs.length ∧ iv = .int .i64 k ∧ Hid (okL (eachL Turn.atoms (xs.take k)) = true) ∧ PassAt wv base b (o1 ++ encL (eachL Turn.atoms (xs.take k))) ∧ Kp base b w1 wv) (fun _ iv _ => xs.length - (intOf iv).toNat)
  case atStart => exact ⟨0, Nat.zero_le _, rfl, by show _ = _; simp [eachL, okL], by simpa [eachL, encL] using P1, Kp.refl _ _ _⟩
  case round =>
    obtain ⟨k, hk, rfl, Ho, Pk, Kk⟩ := hrel
    by_cases hk2 : k < xs.length
    · have hk3 : (k : Int) < (xs.length : Int) := by omega
      have xk : wr.cell? ⟨xb, xo, none⟩ = some (.slice la xs.length lc) := by rw [Safe.cell (a := ⟨xb, xo, none⟩) s1 Kk]; exact x1
      have Hst : Hid (_ = _) := eachL_take Turn.atoms xs k (xs[k]'hk2) (List.getElem?_eq_getElem hk2)
      have Hdr : Hid (_ = _) := eachL_drop Turn.atoms xs (k + 1)
      have HLk : Hid ((o1 ++ encL (eachL Turn.atoms (xs.take k))).length + wtL (Turn.atoms (xs[k]'hk2)) ≤ 1099511000000) := by
        show _ ≤ _
        have h1 := eachL_wt Turn.atoms xs k (xs[k]'hk2) (List.getElem?_eq_getElem hk2)
        have h2 := encL_len (eachL Turn.atoms (xs.take k))
        have h3 := L1.out
        have h4 := HL.out
        rw [List.length_append]; omega
      obtain ⟨_, _, h0 | ⟨rb, ro, e0, rl, rz, rc⟩⟩ := h1.below Kk.below
      · simp only at h0; subst h0; simp at hk2
      simp only at e0 rc
      subst e0
      have rs : Safe wr b rb := ⟨by omega, rz, .inl (by omega)⟩
      have rk := rc k (xs[k]'hk2) (List.getElem?_eq_getElem hk2)
      obtain ⟨x, Hx⟩ : ∃ x : Turn, Hid (x = xs[k]'hk2) := ⟨xs[k]'hk2, rfl⟩
      rw [← Hx.out] at rk Hst HLk
      go_wp2_with fail
      refine (pproof1_anyX base b rb (ro + k * 2) x _ _ (by have := HLk.out; omega) Pk rs rk).mono ?_
      rintro e w2 ⟨⟨ho2, rfl, P2⟩ | ⟨ho2, rfl⟩, k2⟩
      · have Ho2 : Hid (okL (eachL Turn.atoms (xs.take (k + 1))) = true) := by show _ = _; rw [Hst.out, okL_append, Ho.out, ho2]; rfl
        rw [List.append_assoc, ← encL_append, ← Hst.out] at P2
        clear ho2 Hst Hdr rc rk
        go_wp2
        exact ⟨⟨k + 1, by omega, by go_num, Ho2, P2, Kk.trans k2⟩, by simp [intOf]; omega⟩
      · have Hn : Hid (okL (listL most Turn.atoms xs) = false) := by
          show (_ && okL (eachL Turn.atoms xs)) = false
          rw [Hdr.out, okL_append, Hst.out, okL_append, ho2]; simp
        clear ho2 Hst Hdr rc rk
        go_wp2
        exact ⟨rfl, .inr ⟨Hn.out, rfl⟩, K1.trans (Kk.trans k2)⟩
    · have hkk : k = xs.length := by omega
      have Hf : Hid (okL (listL most Turn.atoms xs) = true) := by
        have h := Ho.out
        have g := H1.out
        simp only [okL, Bool.and_true] at g
        rw [hkk, List.take_length] at h
        show (_ && okL (eachL Turn.atoms xs)) = true
        rw [h, g]; rfl
      have Pf : PassAt wr base b (out ++ encL (listL most Turn.atoms xs)) := by
        have h := Pk
        rw [hkk, List.take_length, Ho1.out, List.append_assoc, ← encL_append] at h
        exact h
      have hge : ¬ (k : Int) < (xs.length : Int) := by omega
      clear hkk
      go_wp2
      go_end0
      exact ⟨.inl ⟨Hf.out, rfl, Pf⟩, K1.trans Kk⟩

set_option maxHeartbeats 3200000 in
theorem pproof_anyX (base b xb off : Nat) (x : Proof) (out : List UInt8) (w : World) (hL : out.length + wtL x.atoms ≤ 1099511000000) (hP : PassAt w base b out) (hs : Safe w b xb) (hV : CellsAt base w xb off x.flds) :
    Calls Tryz.prog 136 #[.pointer (some ⟨b, 0, none⟩), .pointer (some ⟨xb, off, none⟩)] w fun e w' => Wr base b out x.atoms e w' ∧ Kp base b w w' := by
  obtain ⟨c0, c2, hlt, hb⟩ := hP.cells
  have hB0 : base ≤ w.heap.size := Nat.le_trans hb (Nat.le_of_lt hlt)
  have hxl := hs.2.1
  have K0 := Kp.refl base b w
  have s0 := hs
  have V0 := hV
  have P0 := hP
  have HW : Hid (out.length + (wtL (listL 288 Turn.atoms x.tu.xs) + wtL (flagL x.leaf) + wtL (textL 32 x.key) + wtL (textL 4096 x.val)) ≤ 1099511000000) := by
    have h := hL
    simp only [Proof.atoms, wtL_append] at h
    exact h
  clear hL
  go_enter Tryz.func136, Tryz.ntmps136
  go_wp2_with fail
  refine (lTurn_anyX base b xb off x.tu 288 out _ (by omega) (by have := HW.out; omega) P0 s0 (by rw [V0.get0 rfl, Lst.val]) (Lst.held Turn.len (V0.goods.get 0 rfl))).mono ?_
  rintro e w1 ⟨⟨ho1, rfl, P1⟩ | ⟨ho1, rfl⟩, k1⟩
  rotate_left
  · have H1 := show Hid (_ = _) from ho1
    clear ho1
    go_wp2
    exact ⟨rfl, .inr ⟨by simp only [Proof.atoms, okL_append]; rw [H1.out]; simp, rfl⟩, K0.trans k1⟩
  have H1 := show Hid (_ = _) from ho1
  clear ho1
  obtain ⟨o1, Ho1⟩ : ∃ o, Hid (o = out ++ encL (listL 288 Turn.atoms x.tu.xs)) := ⟨_, rfl⟩
  rw [← Ho1.out] at P1
  have L1 : Hid (o1.length ≤ out.length + wtL (listL 288 Turn.atoms x.tu.xs)) := by
    show _ ≤ _
    have := encL_len (listL 288 Turn.atoms x.tu.xs)
    rw [Ho1.out, List.length_append]; omega
  have K1 := K0.trans k1
  have s1 := s0.kp k1
  have V1 := V0.kp s0 k1
  clear k1
  go_wp2_with fail
  refine (flagW base b ⟨xb, off + 1, none⟩ x.leaf o1 _ (by have := HW.out; have := L1.out; omega) P1 (V1.get 1 rfl)).mono ?_
  rintro e w2 ⟨⟨ho2, rfl, P2⟩ | ⟨ho2, rfl⟩, k2⟩
  rotate_left
  · have H2 := show Hid (_ = _) from ho2
    clear ho2
    go_wp2
    exact ⟨rfl, .inr ⟨by simp only [Proof.atoms, okL_append]; rw [H2.out]; simp, rfl⟩, K1.trans k2⟩
  have H2 := show Hid (_ = _) from ho2
  clear ho2
  obtain ⟨o2, Ho2⟩ : ∃ o, Hid (o = o1 ++ encL (flagL x.leaf)) := ⟨_, rfl⟩
  rw [← Ho2.out] at P2
  have L2 : Hid (o2.length ≤ o1.length + wtL (flagL x.leaf)) := by
    show _ ≤ _
    have := encL_len (flagL x.leaf)
    rw [Ho2.out, List.length_append]; omega
  have K2 := K1.trans k2
  have s2 := s1.kp k2
  have V2 := V1.kp s1 k2
  clear k2
  go_wp2_with fail
  refine (textW base b ⟨xb, off + 2, none⟩ x.key 32 o2 _ (by omega) (by have h1 := HW.out; simp only [textL, wtL, Atom.wt] at h1; have h2 := L1.out; have h3 := L2.out; omega) (by have h1 := HW.out; simp only [textL, wtL, Atom.wt] at h1; have h2 := L1.out; have h3 := L2.out; omega) P2 s2 (V2.get 2 rfl)).mono ?_
  rintro e w3 ⟨⟨ho3, rfl, P3⟩ | ⟨ho3, rfl⟩, k3⟩
  rotate_left
  · have H3 := show Hid (_ = _) from ho3
    clear ho3
    go_wp2
    exact ⟨rfl, .inr ⟨by simp only [Proof.atoms, okL_append]; rw [H3.out]; simp, rfl⟩, K2.trans k3⟩
  have H3 := show Hid (_ = _) from ho3
  clear ho3
  obtain ⟨o3, Ho3⟩ : ∃ o, Hid (o = o2 ++ encL (textL 32 x.key)) := ⟨_, rfl⟩
  rw [← Ho3.out] at P3
  have L3 : Hid (o3.length ≤ o2.length + wtL (textL 32 x.key)) := by
    show _ ≤ _
    have := encL_len (textL 32 x.key)
    rw [Ho3.out, List.length_append]; omega
  have K3 := K2.trans k3
  have s3 := s2.kp k3
  have V3 := V2.kp s2 k3
  clear k3
  go_wp2_with fail
  refine (textW base b ⟨xb, off + 3, none⟩ x.val 4096 o3 _ (by omega) (by have h1 := HW.out; simp only [textL, wtL, Atom.wt] at h1; have h2 := L1.out; have h3 := L2.out; have h4 := L3.out; simp only [textL, wtL, Atom.wt] at h4; omega) (by have h1 := HW.out; simp only [textL, wtL, Atom.wt] at h1; have h2 := L1.out; have h3 := L2.out; have h4 := L3.out; simp only [textL, wtL, Atom.wt] at h4; omega) P3 s3 (V3.get 3 rfl)).mono ?_
  rintro e w4 ⟨⟨ho4, rfl, P4⟩ | ⟨ho4, rfl⟩, k4⟩
  rotate_left
  · have H4 := show Hid (_ = _) from ho4
    clear ho4
    go_wp2
    exact ⟨rfl, .inr ⟨by simp only [Proof.atoms, okL_append]; rw [H4.out]; simp, rfl⟩, K3.trans k4⟩
  have H4 := show Hid (_ = _) from ho4
  clear ho4
  obtain ⟨o4, Ho4⟩ : ∃ o, Hid (o = o3 ++ encL (textL 4096 x.val)) := ⟨_, rfl⟩
  rw [← Ho4.out] at P4
  have L4 : Hid (o4.length ≤ o3.length + wtL (textL 4096 x.val)) := by
    show _ ≤ _
    have := encL_len (textL 4096 x.val)
    rw [Ho4.out, List.length_append]; omega
  have K4 := K3.trans k4
  have s4 := s3.kp k4
  have V4 := V3.kp s3 k4
  clear k4
  go_wp2
  go_end0
  have eo : okL x.atoms = true := by simp only [Proof.atoms, okL_append, H1.out, H2.out, H3.out, H4.out, Bool.and_self]
  have ee : out ++ encL x.atoms = o4 := by
    simp only [Proof.atoms, encL_append, ← List.append_assoc]
    rw [Ho4.out, Ho3.out, Ho2.out, Ho1.out]
  rw [← ee] at P4
  exact ⟨.inl ⟨eo, rfl, P4⟩, K4⟩

set_option maxHeartbeats 3200000 in
theorem psight_anyX (base b xb off : Nat) (x : Sight) (out : List UInt8) (w : World) (hL : out.length + wtL x.atoms ≤ 1099511000000) (hP : PassAt w base b out) (hs : Safe w b xb) (hV : CellsAt base w xb off x.flds) :
    Calls Tryz.prog 134 #[.pointer (some ⟨b, 0, none⟩), .pointer (some ⟨xb, off, none⟩)] w fun e w' => Wr base b out x.atoms e w' ∧ Kp base b w w' := by
  obtain ⟨c0, c2, hlt, hb⟩ := hP.cells
  have hB0 : base ≤ w.heap.size := Nat.le_trans hb (Nat.le_of_lt hlt)
  have hxl := hs.2.1
  have K0 := Kp.refl base b w
  have s0 := hs
  have V0 := hV
  have P0 := hP
  have HW : Hid (out.length + (wtL (x.hd.atoms) + wtL (x.ce.atoms) + wtL (benchL x.se.xs)) ≤ 1099511000000) := by
    have h := hL
    simp only [Sight.atoms, wtL_append] at h
    exact h
  clear hL
  go_enter Tryz.func134, Tryz.ntmps134
  go_wp2_with fail
  refine (pheader_anyX base b xb off x.hd out _ (by have := HW.out; omega) P0 s0 (V0.app.1)).mono ?_
  rintro e w1 ⟨⟨ho1, rfl, P1⟩ | ⟨ho1, rfl⟩, k1⟩
  rotate_left
  · have H1 := show Hid (_ = _) from ho1
    clear ho1
    go_wp2
    exact ⟨rfl, .inr ⟨by simp only [Sight.atoms, okL_append]; rw [H1.out]; simp, rfl⟩, K0.trans k1⟩
  have H1 := show Hid (_ = _) from ho1
  clear ho1
  obtain ⟨o1, Ho1⟩ : ∃ o, Hid (o = out ++ encL (x.hd.atoms)) := ⟨_, rfl⟩
  rw [← Ho1.out] at P1
  have L1 : Hid (o1.length ≤ out.length + wtL (x.hd.atoms)) := by
    show _ ≤ _
    have := encL_len (x.hd.atoms)
    rw [Ho1.out, List.length_append]; omega
  have K1 := K0.trans k1
  have s1 := s0.kp k1
  have V1 := V0.kp s0 k1
  clear k1
  go_wp2_with fail
  refine (pcert_anyX base b xb (off + 9) x.ce o1 _ (by have := HW.out; have := L1.out; omega) P1 s1 (V1.app.2.app.1)).mono ?_
  rintro e w2 ⟨⟨ho2, rfl, P2⟩ | ⟨ho2, rfl⟩, k2⟩
  rotate_left
  · have H2 := show Hid (_ = _) from ho2
    clear ho2
    go_wp2
    exact ⟨rfl, .inr ⟨by simp only [Sight.atoms, okL_append]; rw [H2.out]; simp, rfl⟩, K1.trans k2⟩
  have H2 := show Hid (_ = _) from ho2
  clear ho2
  obtain ⟨o2, Ho2⟩ : ∃ o, Hid (o = o1 ++ encL (x.ce.atoms)) := ⟨_, rfl⟩
  rw [← Ho2.out] at P2
  have L2 : Hid (o2.length ≤ o1.length + wtL (x.ce.atoms)) := by
    show _ ≤ _
    have := encL_len (x.ce.atoms)
    rw [Ho2.out, List.length_append]; omega
  have K2 := K1.trans k2
  have s2 := s1.kp k2
  have V2 := V1.kp s1 k2
  clear k2
  go_wp2_with fail
  refine (pbench_anyX base b xb (off + 15) x.se o2 _ (by have := HW.out; have := L1.out; have := L2.out; omega) P2 s2 (by rw [V2.get 15 rfl, Lst.val]) (Lst.held pairF_len (V2.goods.get 15 rfl))).mono ?_
  rintro e w3 ⟨⟨ho3, rfl, P3⟩ | ⟨ho3, rfl⟩, k3⟩
  rotate_left
  · have H3 := show Hid (_ = _) from ho3
    clear ho3
    go_wp2
    exact ⟨rfl, .inr ⟨by simp only [Sight.atoms, okL_append]; rw [H3.out]; simp, rfl⟩, K2.trans k3⟩
  have H3 := show Hid (_ = _) from ho3
  clear ho3
  obtain ⟨o3, Ho3⟩ : ∃ o, Hid (o = o2 ++ encL (benchL x.se.xs)) := ⟨_, rfl⟩
  rw [← Ho3.out] at P3
  have L3 : Hid (o3.length ≤ o2.length + wtL (benchL x.se.xs)) := by
    show _ ≤ _
    have := encL_len (benchL x.se.xs)
    rw [Ho3.out, List.length_append]; omega
  have K3 := K2.trans k3
  have s3 := s2.kp k3
  have V3 := V2.kp s2 k3
  clear k3
  go_wp2
  go_end0
  have eo : okL x.atoms = true := by simp only [Sight.atoms, okL_append, H1.out, H2.out, H3.out, Bool.and_self]
  have ee : out ++ encL x.atoms = o3 := by
    simp only [Sight.atoms, encL_append, ← List.append_assoc]
    rw [Ho3.out, Ho2.out, Ho1.out]
  rw [← ee] at P3
  exact ⟨.inl ⟨eo, rfl, P3⟩, K3⟩

end Go.Proofs.YtaifkidpdmhciaaGreat
