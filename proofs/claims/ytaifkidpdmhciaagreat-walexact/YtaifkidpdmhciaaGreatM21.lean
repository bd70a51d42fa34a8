/- A pass that writes: texts, digests, and all small parts once more, as lists of parts. -/
import Derived.Test.YtaifkidpdmhciaaGreatXThings
import Derived.Test.YtaifkidpdmhciaaGreatWPut

namespace Go.Proofs.YtaifkidpdmhciaaGreat
open Go.RowKit
set_option linter.unusedVariables false

theorem flagW (base b : Nat) (a : Addr) (x : Bool) (out : List UInt8) (w : World) (hL : out.length ≤ 1099511627776) (hP : PassAt w base b out) (ha : w.cell? a = some (.bool x)) :
    Calls Tryz.prog 86 #[.pointer (some ⟨b, 0, none⟩), .pointer (some a)] w fun e w' => Wr base b out (flagL x) e w' ∧ Kp base b w w' :=
  (flag_any base b a x out w hL hP ha).mono fun e w' ⟨h1, h2, h3⟩ => ⟨.inl ⟨rfl, h1, by simpa [flagL, encL, Atom.enc] using h2⟩, h3⟩
theorem digestW (base b : Nat) (a : Addr) (d : Int) (out : List UInt8) (w : World) (hd : 0 ≤ d ∧ d ≤ 18446744073709551615) (hL : out.length ≤ 1099511627776) (hP : PassAt w base b out) (ha : w.cell? a = some (.int .u64 d)) :
    Calls Tryz.prog 87 #[.pointer (some ⟨b, 0, none⟩), .pointer (some a)] w fun e w' => Wr base b out (digL d) e w' ∧ Kp base b w w' :=
  (digest_any base b a d out w hd hL hP ha).mono fun e w' ⟨h1, h2, h3⟩ => ⟨.inl ⟨rfl, h1, by simpa [digL, encL, Atom.enc] using h2⟩, h3⟩
theorem numberW (base b : Nat) (a : Addr) (n : Int) (out : List UInt8) (w : World) (hL : out.length ≤ 1099511627776) (hP : PassAt w base b out) (ha : w.cell? a = some (.int .i64 n)) :
    Calls Tryz.prog 57 #[.pointer (some ⟨b, 0, none⟩), .pointer (some a)] w fun e w' => Wr base b out (intA n) e w' ∧ Kp base b w w' :=
  (number_any base b a n out w hL hP ha).mono fun e w' ⟨h1, h2⟩ => ⟨h1.wr (pNum_at _ _ _), h2⟩
theorem boundedW (base b : Nat) (a : Addr) (n most : Int) (out : List UInt8) (w : World) (hm : most ≤ 1099511627775) (hL : out.length ≤ 1099511627776) (hP : PassAt w base b out) (ha : w.cell? a = some (.int .i64 n)) :
    Calls Tryz.prog 84 #[.pointer (some ⟨b, 0, none⟩), .pointer (some a), .int .i64 most] w fun e w' => Wr base b out [Atom.num most n] e w' ∧ Kp base b w w' :=
  (bounded_any base b a n most out w hm hL hP ha).mono fun e w' ⟨h1, h2⟩ => ⟨h1.wr (pNum_at _ _ _), h2⟩
theorem numbersW (base b lb cap : Nat) (ads : List Addr) (ns : List Int) (out : List UInt8) (w : World) (hn : ns.length ≤ 16) (hL : out.length ≤ 1099511627000) (hP : PassAt w base b out) (hA : Ptrs w b lb ads ns) :
    Calls Tryz.prog 85 #[.pointer (some ⟨b, 0, none⟩), .slice (some ⟨lb, 0, none⟩) ns.length cap] w fun e w' => Wr base b out (nums ns) e w' ∧ Kp base b w w' :=
  (numbers_any base b lb cap ads ns out w hn hL hP hA).mono fun e w' ⟨h1, h2⟩ => ⟨h1.wr (pNums_at _ _), h2⟩

set_option maxHeartbeats 1600000 in
theorem textW (base b : Nat) (a : Addr) (s : List UInt8) (most : Int) (out : List UInt8) (w : World) (hm : most ≤ 1099511627775) (hs9 : s.length ≤ 1099511627775) (hL : out.length + s.length ≤ 1099511627000) (hP : PassAt w base b out) (hs : Safe w b a.block) (ha : w.cell? a = some (.string ⟨s.toArray⟩)) :
    Calls Tryz.prog 132 #[.pointer (some ⟨b, 0, none⟩), .pointer (some a), .int .i64 most] w fun e w' => Wr base b out (textL most s) e w' ∧ Kp base b w w' := by
  obtain ⟨i0, hinf, hz0, hz1, hz2⟩ := info_parts infoByte
  obtain ⟨c0, _, hlt, hb⟩ := hP.cells
  have hB0 : base ≤ w.heap.size := Nat.le_trans hb (Nat.le_of_lt hlt)
  have hal := hs.2.1
  have bA : Below w.heap.size w (w.alloc (.cells #[.int .i64 (s.length : Int)] 3)) := (Below.refl _ _).alloc (Nat.le_refl _) _
  have kA : Kp base b w (w.alloc (.cells #[.int .i64 (s.length : Int)] 3)) := Kp.of_below bA hB0
  have kN := Blk.new w #[.int .i64 (s.length : Int)] 3
  have n0 := kN.cell 0
  simp only [List.getElem?_toArray, List.getElem?_cons_zero] at n0
  have hsz : (⟨s.toArray⟩ : ByteArray).size = s.length := by simp [ByteArray.size]
  have hL1 : out.length ≤ 1099511627776 := by omega
  go_enter Tryz.func132, Tryz.ntmps132
  go_wp2_with fail
  refine (boundedW base b ⟨w.heap.size, 0, none⟩ (s.length : Int) most out _ hm hL1 (hP.below bA) n0).mono ?_
  rintro e w1 ⟨⟨ho1, rfl, P1⟩ | ⟨ho1, rfl⟩, k1⟩
  rotate_left
  · have H1 := show Hid (_ = _) from ho1
    clear ho1
    go_wp2
    exact ⟨rfl, .inr ⟨by have h := H1.out; simp only [okL, Bool.and_true] at h; simp [textL, okL, h], rfl⟩, kA.trans k1⟩
  have H1 := show Hid (_ = _) from ho1
  clear ho1
  have K1 := kA.trans k1
  have a1 : w1.cell? a = some (.string ⟨s.toArray⟩) := by rw [Safe.cell hs K1]; exact ha
  obtain ⟨r0, _, _, _⟩ := P1.cells
  have l1 : (out ++ encL [Atom.num most (s.length : Int)]).length ≤ out.length + 6 := by
    have := encL_len [Atom.num most (s.length : Int)]
    simp only [wtL, Atom.wt] at this
    rw [List.length_append]; omega
  obtain ⟨o1, Ho1⟩ : ∃ o, Hid (o = out ++ encL [Atom.num most (s.length : Int)]) := ⟨_, rfl⟩
  rw [← Ho1.out] at P1 l1
  obtain ⟨v, kP, hown, _⟩ := P1
  obtain ⟨av, cv, rfl⟩ := owns_form hown
  have c1 := kP.cell 1
  have f1 := kP.frozen 1
  have lt1 := kP.lt
  have hB1 : base ≤ w1.heap.size := Nat.le_trans hb (Nat.le_of_lt lt1)
  simp only [List.getElem?_toArray, List.getElem?_cons_succ, List.getElem?_cons_zero] at c1
  have hal1 : a.block < w1.heap.size := Nat.lt_of_lt_of_le hal K1.size
  clear c0 n0 bA kA kN ha
  go_wp2_with fail
  go_region_law
    (refine step_append_str _ (by rfl) _ _ _ _ (by rfl) b 5 i0 Tryz.underlying63 Tryz.underlying9 hinf hz0 hz1 hz2 (.slice av o1.length cv) o1.length (bcells o1) (by rfl) (owns_below hown (Below.refl _ _).drew) ⟨s.toArray⟩ (by rfl) (by rw [hsz]; unfold maxLen; omega) (by rw [hsz]; omega) (Nat.le_of_lt lt1) ?_
     intro a5 c5 w5 hown5 hgrow5
     have hown5' : w5.ownsRow b 5 1 (.slice a5 (o1.length + (⟨s.toArray⟩ : ByteArray).size) c5) (o1.length + s.length) (bcells o1 ++ bcells s) := by
       rw [← bcells_str]; exact hown5
     obtain ⟨kP5, hP6, hK6⟩ := pass_stored (more := s) (kP.below (Below.refl _ _).drew lt1) (owns_below hown (Below.refl _ _).drew) hb hgrow5 hown5'
     have c51 := kP5.cell 1
     have f51 := kP5.frozen 1
     have lt5 := kP5.lt
     simp only [List.getElem?_toArray, List.getElem?_cons_succ, List.getElem?_cons_zero] at c51)
  all_goals
    rw [hsz] at hP6 hK6
    go_end0
    have eo : okL (textL most s) = true := by
      have h := H1.out
      simp only [okL, Bool.and_true] at h
      show ((Atom.num most (s.length : Int)).ok && ((Atom.raw s).ok && true)) = true
      rw [h]; rfl
    have ee : out ++ encL (textL most s) = o1 ++ s := by rw [Ho1.out]; simp [textL, encL, Atom.enc, List.append_assoc]
    rw [← ee] at hP6
    exact ⟨.inl ⟨eo, rfl, hP6⟩, (K1.trans (Kp.of_below (Below.refl _ _).drew hB1)).trans hK6⟩
end Go.Proofs.YtaifkidpdmhciaaGreat

namespace Go.Proofs.YtaifkidpdmhciaaGreat
open Go.RowKit
set_option linter.unusedVariables false

def oApp (o : Option (List UInt8)) (l : List UInt8) : Option (List UInt8) := o.map (· ++ l)
theorem pNums_len {o : List UInt8} : ∀ {ns : List Int} {out : List UInt8}, pNums (some out) ns = some o → o.length ≤ out.length + 6 * ns.length
  | [], out, h => by
    simp only [pNums, List.foldl_nil, Option.some.injEq] at h
    subst h; simp
  | n :: r, out, h => by
    have e : pNums (some out) (n :: r) = pNums (pNum 1099511627775 (some out) n) r := rfl
    rw [e] at h
    cases hc : pNum 1099511627775 (some out) n with
    | none => rw [hc, pNums_none] at h; cases h
    | some o1 =>
      rw [hc] at h
      have h1 := pNum_len hc
      have h2 := pNums_len (ns := r) (out := o1) h
      simp only [List.length_cons]; omega

theorem Safe.below {w w' : World} {b k : Nat} (h : Safe w b k) (hb : Below w.heap.size w w') : Safe w' b k :=
  ⟨h.1, Nat.lt_of_lt_of_le h.2.1 hb.size, h.2.2.imp id fun hh cs f => by rw [hb.block k h.2.1]; exact hh cs f⟩
/-- Addresses of numbers that are laid one beside the other. -/
theorem ptrs_mk {w : World} {b : Nat} (ads : List Addr) (ns : List Int) (hl : ads.length = ns.length) (hb : b < w.heap.size)
    (h : ∀ p ∈ ads.zip ns, w.cell? p.1 = some (.int .i64 p.2) ∧ Safe w b p.1.block) : Ptrs (w.alloc (.cells (ads.map fun a => Value.pointer (some a)).toArray 113)) b w.heap.size ads ns := by
  have hbl : Below w.heap.size w (w.alloc (.cells (ads.map fun a => Value.pointer (some a)).toArray 113)) := (Below.refl _ _).alloc (Nat.le_refl _) _
  have kN := Blk.new w (ads.map fun a => Value.pointer (some a)).toArray 113
  refine ⟨hl, kN.safe (by decide) (by omega), fun i a n ha hn => ?_⟩
  have hm : (a, n) ∈ ads.zip ns := List.mem_of_getElem? (i := i) (by rw [List.getElem?_zip_eq_some]; exact ⟨ha, hn⟩)
  obtain ⟨h1, h2⟩ := h _ hm
  refine ⟨?_, ?_, h2.below hbl⟩
  · rw [kN.cell i]; simp [ha]
  · rw [hbl.cell (p := a) h2.2.1]; exact h1

/-- It lies in memory. -/
def VoteAt (w : World) (xb off : Nat) (h : Int) (r : Int) (s : Int) (has : Bool) (bl : Int) (f : Int) : Prop :=
  w.cell? ⟨xb, off, none⟩ = some (.int .i64 h) ∧ w.cell? ⟨xb, off + 1, none⟩ = some (.int .i64 r) ∧ w.cell? ⟨xb, off + 2, none⟩ = some (.int .i64 s) ∧ w.cell? ⟨xb, off + 3, none⟩ = some (.bool has) ∧ w.cell? ⟨xb, off + 4, none⟩ = some (.int .u64 bl) ∧ w.cell? ⟨xb, off + 5, none⟩ = some (.int .i64 f)
theorem VoteAt.kp {w w' : World} {base b xb off : Nat} {h : Int} {r : Int} {s : Int} {has : Bool} {bl : Int} {f : Int} (H : VoteAt w xb off h r s has bl f) (hs : Safe w b xb) (hK : Kp base b w w') : VoteAt w' xb off h r s has bl f := by
  have e : ∀ i, w'.cell? ⟨xb, i, none⟩ = w.cell? ⟨xb, i, none⟩ := fun i => Safe.cell (a := ⟨xb, i, none⟩) hs hK
  unfold VoteAt at *
  rw [e, e, e, e, e, e]; exact H
theorem VoteAt.below {w w' : World} {xb off : Nat} {h : Int} {r : Int} {s : Int} {has : Bool} {bl : Int} {f : Int} (H : VoteAt w xb off h r s has bl f) (hlt : xb < w.heap.size) (hB : Below w.heap.size w w') : VoteAt w' xb off h r s has bl f := by
  have e : ∀ i, w'.cell? ⟨xb, i, none⟩ = w.cell? ⟨xb, i, none⟩ := fun i => hB.cell (p := ⟨xb, i, none⟩) hlt
  unfold VoteAt at *
  rw [e, e, e, e, e, e]; exact H

def voteP (o : Option (List UInt8)) (h : Int) (r : Int) (s : Int) (has : Bool) (bl : Int) (f : Int) : Option (List UInt8) := pNum 1099511627775 (oApp (oApp (pNums o [h, r, s]) (flagB has)) (be bl 8)) f

set_option maxHeartbeats 3200000 in
theorem pvote_any (base b xb off : Nat) (h : Int) (r : Int) (s : Int) (has : Bool) (bl : Int) (f : Int) (out : List UInt8) (w : World) (hbl : 0 ≤ bl ∧ bl ≤ 18446744073709551615) (hL : out.length ≤ 1099511620000) (hP : PassAt w base b out) (hs : Safe w b xb) (hV : VoteAt w xb off h r s has bl f) :
    Calls Tryz.prog 58 #[.pointer (some ⟨b, 0, none⟩), .pointer (some ⟨xb, off, none⟩)] w fun e w' => Wrote base b (voteP (some out) h r s has bl f) e w' ∧ Kp base b w w' := by
  obtain ⟨c0, c2, hlt, hb⟩ := hP.cells
  have hB0 : base ≤ w.heap.size := Nat.le_trans hb (Nat.le_of_lt hlt)
  have hxl := hs.2.1
  have K0 := Kp.refl base b w
  have s0 := hs
  have V0 := hV
  have P0 := hP
  have L0 : out.length ≤ out.length + 0 := by omega
  go_enter Tryz.func58, Tryz.ntmps58
  go_wp2_with fail
  have bA1 : Below w.heap.size w (w.alloc (.cells #[.pointer (some ⟨xb, off, none⟩), .pointer (some ⟨xb, off + 1, none⟩), .pointer (some ⟨xb, off + 2, none⟩)] 113)) := (Below.refl _ _).alloc (Nat.le_refl _) _
  have bD1 := bA1.drew
  have hB1 : base ≤ w.heap.size := Nat.le_trans hB0 K0.size
  have hA1 := (ptrs_mk (w := w) (b := b) [⟨xb, off, none⟩, ⟨xb, off + 1, none⟩, ⟨xb, off + 2, none⟩] [h, r, s] rfl (Nat.lt_of_lt_of_le hlt K0.size) (by
    intro p hp
    simp at hp
    rcases hp with rfl | rfl | rfl
    · exact ⟨V0.1, s0⟩
    · exact ⟨V0.2.1, s0⟩
    · exact ⟨V0.2.2.1, s0⟩)).kp (Kp.of_below (base := base) (b := b) (show Below (w.alloc (.cells #[.pointer (some ⟨xb, off, none⟩), .pointer (some ⟨xb, off + 1, none⟩), .pointer (some ⟨xb, off + 2, none⟩)] 113)).heap.size _ _ from (Below.refl _ _).drew) (Nat.le_trans hB1 bA1.size))
  have PP1 := P0.below bD1
  refine wp_region_any (by kernel_rfl) ?_
  change wpAny _ _ _ _ _ _ _ (World.drew _)
  refine wpAny_take (i := 0) (v := ?_) rfl (by kernel_rfl) (by kernel_rfl) (by kernel_rfl) (fun _ _ _ h => h) (Or.inl ⟨by rfl, ?_⟩) ?_
  rotate_left
  · intro w
    go_simp
    try (with_reducible rfl)
  refine wpAny_take (i := 1) (v := ?_) rfl (by kernel_rfl) (by kernel_rfl) (by kernel_rfl) (fun _ _ _ h => h) (Or.inl ⟨by rfl, ?_⟩) ?_
  rotate_left
  · intro w
    go_simp
    try (with_reducible rfl)
  refine wpAny_take (i := 2) (v := ?_) rfl (by kernel_rfl) (by kernel_rfl) (by kernel_rfl) (fun _ _ _ h => h) (Or.inl ⟨by rfl, ?_⟩) ?_
  rotate_left
  · intro w
    go_simp
    try (with_reducible rfl)
  refine wpAny_take (i := 3) (v := ?_) rfl (by kernel_rfl) (by kernel_rfl) (by kernel_rfl) (fun _ _ _ h => h) (Or.inl ⟨by rfl, ?_⟩) ?_
  rotate_left
  · intro w
    go_simp
    try (with_reducible rfl)
  refine wpAny_take (i := 4) (v := ?_) rfl (by kernel_rfl) (by kernel_rfl) (by kernel_rfl) (fun _ _ _ h => h) (Or.inl ⟨by rfl, ?_⟩) ?_
  rotate_left
  · intro w
    go_simp
    try (with_reducible rfl)
  refine wpAny_take (i := 5) (v := ?_) rfl (by kernel_rfl) (by kernel_rfl) (by kernel_rfl) (fun _ _ _ h => h) (Or.inl ⟨by rfl, ?_⟩) ?_
  rotate_left
  · intro w
    go_simp
    try (with_reducible rfl)
  refine wpAny_take (i := 6) (v := ?_) rfl (by kernel_rfl) (by kernel_rfl) (by kernel_rfl) (fun _ _ _ h => h) (Or.inl ⟨by rfl, ?_⟩) ?_
  rotate_left
  · intro w
    go_simp
    try (with_reducible rfl)
  refine wpAny_take (i := 7) (v := ?_) rfl (by kernel_rfl) (by kernel_rfl) (by kernel_rfl) (fun _ _ _ h => h) (Or.inl ⟨by rfl, ?_⟩) ?_
  rotate_left
  · intro w
    go_simp
    try (with_reducible rfl)
  refine wpAny_take (i := 8) (v := ?_) rfl (by kernel_rfl) (by kernel_rfl) (by kernel_rfl) (fun _ _ _ h => h) (Or.inl ⟨by rfl, ?_⟩) ?_
  rotate_left
  · intro w
    go_simp
    try (with_reducible rfl)
  refine wpAny_take (i := 9) (v := ?_) rfl (by kernel_rfl) (by kernel_rfl) (by kernel_rfl) (fun _ _ _ h => h) (Or.inl ⟨by rfl, ?_⟩) ?_
  rotate_left
  · intro w
    go_simp
    try (with_reducible rfl)
  refine wpAny_ready (rs := [10]) (by kernel_rfl) (by simp) ?_
  refine AllReady.cons rfl (fun K hK => ?_) AllReady.nil
  go_simp
  refine hK _ _ ?_
  clear hK K
  refine wpAny_ready (rs := [11]) (by kernel_rfl) (by simp) ?_
  refine AllReady.cons rfl (fun K hK => ?_) AllReady.nil
  go_simp
  refine (numbers_any base b w.heap.size 3 _ [h, r, s] out _ (by simp) (by omega) PP1 hA1).mono ?_
  rintro e w1 ⟨⟨o1, ho1, rfl, P1⟩ | ⟨ho1, rfl⟩, k1⟩
  rotate_left
  · have H1 := show Hid (_ = _) from ho1
    clear ho1
    exact ⟨rfl, .inr ⟨by unfold voteP; rw [H1.out]; rfl, rfl⟩, K0.trans ((Kp.of_below bD1 hB1).trans k1)⟩
  have H1 := show Hid (_ = _) from ho1
  have L1a := pNums_len ho1
  simp only [List.length_cons, List.length_nil] at L1a
  have L1 : o1.length ≤ out.length + 18 := by omega
  have kk1 := (Kp.of_below bD1 hB1).trans k1
  have K1 := K0.trans kk1
  have s1 := s0.kp kk1
  have V1 := V0.kp s0 kk1
  clear ho1 L1a hA1 PP1 bA1 bD1 hB1
  refine hK _ _ ?_
  clear hK K
  refine wpAny_done (by kernel_rfl) ?_ _
  go_wp2_with fail
  refine (flag_any base b ⟨xb, off + 3, none⟩ has o1 _ (by omega) P1 V1.2.2.2.1).mono ?_
  rintro e w2 ⟨rfl, P2, k2⟩
  have K2 := K1.trans k2
  have s2 := s1.kp k2
  have V2 := V1.kp s1 k2
  have L2 : (o1 ++ flagB has).length ≤ out.length + 19 := by simp [flagB]; omega
  go_wp2_with fail
  refine (digest_any base b ⟨xb, off + 4, none⟩ bl (o1 ++ flagB has) _ hbl (by omega) P2 V2.2.2.2.2.1).mono ?_
  rintro e w3 ⟨rfl, P3, k3⟩
  have K3 := K2.trans k3
  have s3 := s2.kp k3
  have V3 := V2.kp s2 k3
  have L3 : (o1 ++ flagB has ++ be bl 8).length ≤ out.length + 27 := by rw [List.length_append, be_len]; omega
  go_wp2_with fail
  refine (number_any base b ⟨xb, off + 5, none⟩ f (o1 ++ flagB has ++ be bl 8) _ (by omega) P3 V3.2.2.2.2.2).mono ?_
  rintro e w4 ⟨⟨o4, ho4, rfl, P4⟩ | ⟨ho4, rfl⟩, k4⟩
  · have H4 := show Hid (_ = _) from ho4
    clear ho4
    go_wp2
    go_end0
    exact ⟨.inl ⟨o4, by unfold voteP; rw [H1.out]; exact H4.out, rfl, P4⟩, K3.trans k4⟩
  · have H4 := show Hid (_ = _) from ho4
    clear ho4
    go_wp2
    exact ⟨rfl, .inr ⟨by unfold voteP; rw [H1.out]; exact H4.out, rfl⟩, K3.trans k4⟩

/-- It lies in memory. -/
def ParcelAt (w : World) (xb off : Nat) (k : Int) (t : Int) (a : Int) : Prop :=
  w.cell? ⟨xb, off, none⟩ = some (.int .i64 k) ∧ w.cell? ⟨xb, off + 1, none⟩ = some (.int .i64 t) ∧ w.cell? ⟨xb, off + 2, none⟩ = some (.int .i64 a)
theorem ParcelAt.kp {w w' : World} {base b xb off : Nat} {k : Int} {t : Int} {a : Int} (H : ParcelAt w xb off k t a) (hs : Safe w b xb) (hK : Kp base b w w') : ParcelAt w' xb off k t a := by
  have e : ∀ i, w'.cell? ⟨xb, i, none⟩ = w.cell? ⟨xb, i, none⟩ := fun i => Safe.cell (a := ⟨xb, i, none⟩) hs hK
  unfold ParcelAt at *
  rw [e, e, e]; exact H
theorem ParcelAt.below {w w' : World} {xb off : Nat} {k : Int} {t : Int} {a : Int} (H : ParcelAt w xb off k t a) (hlt : xb < w.heap.size) (hB : Below w.heap.size w w') : ParcelAt w' xb off k t a := by
  have e : ∀ i, w'.cell? ⟨xb, i, none⟩ = w.cell? ⟨xb, i, none⟩ := fun i => hB.cell (p := ⟨xb, i, none⟩) hlt
  unfold ParcelAt at *
  rw [e, e, e]; exact H

def parcelP (o : Option (List UInt8)) (k : Int) (t : Int) (a : Int) : Option (List UInt8) := pNums o [k, t, a]



/-- It lies in memory. -/
def AccountAt (w : World) (xb off : Nat) (ba : Int) (fo : Int) (no : Int) (bo : Int) (le : Int) (fr : Int) (ja : Bool) : Prop :=
  w.cell? ⟨xb, off, none⟩ = some (.int .i64 ba) ∧ w.cell? ⟨xb, off + 1, none⟩ = some (.int .i64 fo) ∧ w.cell? ⟨xb, off + 2, none⟩ = some (.int .i64 no) ∧ w.cell? ⟨xb, off + 3, none⟩ = some (.int .i64 bo) ∧ w.cell? ⟨xb, off + 4, none⟩ = some (.int .i64 le) ∧ w.cell? ⟨xb, off + 5, none⟩ = some (.int .i64 fr) ∧ w.cell? ⟨xb, off + 6, none⟩ = some (.bool ja)
theorem AccountAt.kp {w w' : World} {base b xb off : Nat} {ba : Int} {fo : Int} {no : Int} {bo : Int} {le : Int} {fr : Int} {ja : Bool} (H : AccountAt w xb off ba fo no bo le fr ja) (hs : Safe w b xb) (hK : Kp base b w w') : AccountAt w' xb off ba fo no bo le fr ja := by
  have e : ∀ i, w'.cell? ⟨xb, i, none⟩ = w.cell? ⟨xb, i, none⟩ := fun i => Safe.cell (a := ⟨xb, i, none⟩) hs hK
  unfold AccountAt at *
  rw [e, e, e, e, e, e, e]; exact H
theorem AccountAt.below {w w' : World} {xb off : Nat} {ba : Int} {fo : Int} {no : Int} {bo : Int} {le : Int} {fr : Int} {ja : Bool} (H : AccountAt w xb off ba fo no bo le fr ja) (hlt : xb < w.heap.size) (hB : Below w.heap.size w w') : AccountAt w' xb off ba fo no bo le fr ja := by
  have e : ∀ i, w'.cell? ⟨xb, i, none⟩ = w.cell? ⟨xb, i, none⟩ := fun i => hB.cell (p := ⟨xb, i, none⟩) hlt
  unfold AccountAt at *
  rw [e, e, e, e, e, e, e]; exact H

def accountP (o : Option (List UInt8)) (ba : Int) (fo : Int) (no : Int) (bo : Int) (le : Int) (fr : Int) (ja : Bool) : Option (List UInt8) := oApp (pNums o [ba, fo, no, bo, le, fr]) (flagB ja)



end Go.Proofs.YtaifkidpdmhciaaGreat

namespace Go.Proofs.YtaifkidpdmhciaaGreat
open Go.RowKit
set_option linter.unusedVariables false

def PtrsD (w : World) (b lb : Nat) (ads : List Addr) (ns : List Int) : Prop :=
  ads.length = ns.length ∧ Safe w b lb ∧ ∀ i a n, ads[i]? = some a → ns[i]? = some n → w.cell? ⟨lb, i, none⟩ = some (.pointer (some a)) ∧ w.cell? a = some (.int .u64 n) ∧ Safe w b a.block ∧ (0 ≤ n ∧ n ≤ 18446744073709551615)
theorem PtrsD.kp {w w' : World} {base b lb : Nat} {ads : List Addr} {ns : List Int} (h : PtrsD w b lb ads ns) (hK : Kp base b w w') : PtrsD w' b lb ads ns := by
  refine ⟨h.1, h.2.1.kp hK, fun i a n ha hn => ?_⟩
  obtain ⟨h1, h2, h3, h4⟩ := h.2.2 i a n ha hn
  exact ⟨by rw [Safe.cell (a := ⟨lb, i, none⟩) h.2.1 hK]; exact h1, by rw [h3.cell hK]; exact h2, h3.kp hK, h4⟩
theorem ptrsD_mk {w : World} {b : Nat} (ads : List Addr) (ns : List Int) (hl : ads.length = ns.length) (hb : b < w.heap.size)
    (h : ∀ p ∈ ads.zip ns, w.cell? p.1 = some (.int .u64 p.2) ∧ Safe w b p.1.block ∧ (0 ≤ p.2 ∧ p.2 ≤ 18446744073709551615)) : PtrsD (w.alloc (.cells (ads.map fun a => Value.pointer (some a)).toArray 140)) b w.heap.size ads ns := by
  have hbl : Below w.heap.size w (w.alloc (.cells (ads.map fun a => Value.pointer (some a)).toArray 140)) := (Below.refl _ _).alloc (Nat.le_refl _) _
  have kN := Blk.new w (ads.map fun a => Value.pointer (some a)).toArray 140
  refine ⟨hl, kN.safe (by decide) (by omega), fun i a n ha hn => ?_⟩
  have hm : (a, n) ∈ ads.zip ns := List.mem_of_getElem? (i := i) (by rw [List.getElem?_zip_eq_some]; exact ⟨ha, hn⟩)
  obtain ⟨h1, h2, h3⟩ := h _ hm
  refine ⟨?_, ?_, h2.below hbl, h3⟩
  · rw [kN.cell i]; simp [ha]
  · rw [hbl.cell (p := a) h2.2.1]; exact h1
theorem digs_ok (l : List Int) : okL (digs l) = true := by
  induction l with
  | nil => rfl
  | cons n r ih => exact ih
theorem digs_take (l : List Int) (k : Nat) (n : Int) (h : l[k]? = some n) : encL (digs (l.take (k + 1))) = encL (digs (l.take k)) ++ be n 8 := by
  have e : l.take (k + 1) = l.take k ++ [n] := by rw [List.take_add_one, h]; rfl
  rw [e, show digs (l.take k ++ [n]) = digs (l.take k) ++ digs [n] by simp [digs], encL_append]
  simp [digs, encL, Atom.enc]
theorem digs_len (l : List Int) : (encL (digs l)).length = 8 * l.length := by
  induction l with
  | nil => rfl
  | cons n r ih => simp only [digs, List.map_cons, encL, Atom.enc, List.length_append, List.length_cons, be_len] at *; omega

set_option maxHeartbeats 800000 in
theorem digestsW (base b lb cap : Nat) (ads : List Addr) (ns : List Int) (out : List UInt8) (w : World) (hn : ns.length ≤ 16) (hL : out.length ≤ 1099511627000) (hP : PassAt w base b out) (hA : PtrsD w b lb ads ns) :
    Calls Tryz.prog 131 #[.pointer (some ⟨b, 0, none⟩), .slice (some ⟨lb, 0, none⟩) ns.length cap] w fun e w' => Wr base b out (digs ns) e w' ∧ Kp base b w w' := by
  have HA := show Hid (_ = _) from hA.1
  go_enter Tryz.func131, Tryz.ntmps131
  go_wp2
  go_loopw [5, 8] (fun _ iv wv => ∃ (k : Nat), k ≤ ns.length ∧ iv = .int .i64 k ∧ PassAt wv base b (out ++ encL (digs (ns.take k))) ∧ Kp base b w wv) (fun _ iv _ => ns.length - (intOf iv).toNat)
  case atStart => exact ⟨0, Nat.zero_le _, rfl, by simpa [digs, encL] using hP, Kp.refl _ _ _⟩
  case round =>
    obtain ⟨k, hk, rfl, hPk, hKk⟩ := hrel
    by_cases hlt : k < ns.length
    · have hlt' : (k : Int) < (ns.length : Int) := by omega
      have hla : k < ads.length := by rw [HA.out]; exact hlt
      obtain ⟨p1, p2, p3, p4⟩ := (hA.kp hKk).2.2 k ads[k] ns[k] (List.getElem?_eq_getElem hla) (List.getElem?_eq_getElem hlt)
      have Hst : Hid (_ = _) := digs_take ns k ns[k] (List.getElem?_eq_getElem hlt)
      have hl : (out ++ encL (digs (ns.take k))).length ≤ 1099511627776 := by rw [List.length_append, digs_len, List.length_take]; omega
      generalize ads[k] = a at *
      generalize ns[k] = n at *
      go_wp2_with fail
      refine (digest_any base b a n _ _ p4 hl hPk p2).mono ?_
      rintro e w1 ⟨rfl, h1, k1⟩
      rw [List.append_assoc, ← Hst.out] at h1
      clear Hst
      go_wp2
      exact ⟨⟨k + 1, by omega, by go_num, h1, hKk.trans k1⟩, by simp [intOf]; omega⟩
    · have hkk : k = ns.length := by omega
      have hf : PassAt wr base b (out ++ encL (digs ns)) := by
        rw [hkk, List.take_length] at hPk
        exact hPk
      have hge : ¬ (k : Int) < (ns.length : Int) := by omega
      clear hkk
      go_wp2
      go_end0
      exact ⟨.inl ⟨digs_ok ns, rfl, hf⟩, hKk⟩
end Go.Proofs.YtaifkidpdmhciaaGreat
