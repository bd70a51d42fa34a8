/- A pass over two votes. -/
import Derived.Test.YtaifkidpdmhciaaGreatM21

namespace Go.Proofs.YtaifkidpdmhciaaGreat
open Go.RowKit
set_option linter.unusedVariables false

theorem oApp_none (l : List UInt8) : oApp none l = none := rfl
theorem pNum_none (most n : Int) : pNum most none n = none := rfl
theorem oApp_len {o : Option (List UInt8)} {l r : List UInt8} (h : oApp o l = some r) : ∃ x, o = some x ∧ r.length = x.length + l.length := by
  cases o with
  | none => cases h
  | some x => simp only [oApp, Option.map_some, Option.some.injEq] at h; subst h; exact ⟨x, rfl, by simp⟩
theorem pNum_some {most n : Int} {o : Option (List UInt8)} {r : List UInt8} (h : pNum most o n = some r) : ∃ x, o = some x ∧ r.length ≤ x.length + 6 := by
  cases o with
  | none => cases h
  | some x => exact ⟨x, rfl, pNum_len h⟩
theorem voteP_none (h r s : Int) (has : Bool) (bl f : Int) : voteP none h r s has bl f = none := by
  unfold voteP; rw [pNums_none]; rfl
theorem voteP_len {out o : List UInt8} {h r s : Int} {has : Bool} {bl f : Int} (e : voteP (some out) h r s has bl f = some o) : o.length ≤ out.length + 40 := by
  unfold voteP at e
  obtain ⟨x, e1, l1⟩ := pNum_some e
  obtain ⟨y, e2, l2⟩ := oApp_len e1
  obtain ⟨z, e3, l3⟩ := oApp_len e2
  have l4 := pNums_len e3
  have l5 := be_len bl 8
  simp only [List.length_cons, List.length_nil, flagB] at *
  omega

set_option maxHeartbeats 800000 in
theorem pguilt_any (base b xb : Nat) (h r s : Int) (has : Bool) (bl f h2 r2 s2 : Int) (has2 : Bool) (bl2 f2 : Int) (out : List UInt8) (w : World) (hbl : 0 ≤ bl ∧ bl ≤ 18446744073709551615) (hbl2 : 0 ≤ bl2 ∧ bl2 ≤ 18446744073709551615) (hL : out.length ≤ 1099511610000) (hP : PassAt w base b out) (hs : Safe w b xb) (hV : VoteAt w xb 0 h r s has bl f) (hV2 : VoteAt w xb 6 h2 r2 s2 has2 bl2 f2) :
    Calls Tryz.prog 115 #[.pointer (some ⟨b, 0, none⟩), .pointer (some ⟨xb, 0, none⟩)] w fun e w' => Wrote base b (voteP (voteP (some out) h r s has bl f) h2 r2 s2 has2 bl2 f2) e w' ∧ Kp base b w w' := by
  go_enter Tryz.func115, Tryz.ntmps115
  go_wp2_with fail
  refine (pvote_any base b xb 0 h r s has bl f out _ hbl (by omega) hP hs hV).mono ?_
  rintro e w1 ⟨⟨o1, ho1, rfl, P1⟩ | ⟨ho1, rfl⟩, k1⟩
  · have s1 := hs.kp k1
    have V1 := hV2.kp hs k1
    have l1 := voteP_len ho1
    have H1 := show Hid (_ = _) from ho1
    clear ho1
    go_wp2_with fail
    refine (pvote_any base b xb 6 h2 r2 s2 has2 bl2 f2 o1 _ hbl2 (by omega) P1 s1 V1).mono ?_
    rintro e w2 ⟨⟨o2, ho2, rfl, P2⟩ | ⟨ho2, rfl⟩, k2⟩
    · have H2 := show Hid (_ = _) from ho2
      clear ho2
      go_wp2
      go_end0
      exact ⟨.inl ⟨o2, by rw [H1.out]; exact H2.out, rfl, P2⟩, k1.trans k2⟩
    · have H2 := show Hid (_ = _) from ho2
      clear ho2
      go_wp2
      exact ⟨rfl, .inr ⟨by rw [H1.out]; exact H2.out, rfl⟩, k1.trans k2⟩
  · have H1 := show Hid (_ = _) from ho1
    clear ho1
    go_wp2
    exact ⟨rfl, .inr ⟨by rw [H1.out]; exact voteP_none _ _ _ _ _ _, rfl⟩, k1⟩
end Go.Proofs.YtaifkidpdmhciaaGreat

namespace Go.Proofs.YtaifkidpdmhciaaGreat
open Go.RowKit
set_option linter.unusedVariables false

/-- It lies in memory. -/
def SeatAt (w : World) (xb off : Nat) (a : Int) (c : Int) : Prop :=
  w.cell? ⟨xb, off, none⟩ = some (.int .i64 a) ∧ w.cell? ⟨xb, off + 1, none⟩ = some (.int .i64 c)
theorem SeatAt.kp {w w' : World} {base b xb off : Nat} {a : Int} {c : Int} (H : SeatAt w xb off a c) (hs : Safe w b xb) (hK : Kp base b w w') : SeatAt w' xb off a c := by
  have e : ∀ i, w'.cell? ⟨xb, i, none⟩ = w.cell? ⟨xb, i, none⟩ := fun i => Safe.cell (a := ⟨xb, i, none⟩) hs hK
  unfold SeatAt at *
  rw [e, e]; exact H
theorem SeatAt.below {w w' : World} {xb off : Nat} {a : Int} {c : Int} (H : SeatAt w xb off a c) (hlt : xb < w.heap.size) (hB : Below w.heap.size w w') : SeatAt w' xb off a c := by
  have e : ∀ i, w'.cell? ⟨xb, i, none⟩ = w.cell? ⟨xb, i, none⟩ := fun i => hB.cell (p := ⟨xb, i, none⟩) hlt
  unfold SeatAt at *
  rw [e, e]; exact H

def seatP (o : Option (List UInt8)) (a : Int) (c : Int) : Option (List UInt8) := pNums o [a, c]

set_option maxHeartbeats 3200000 in
theorem bench1_any (base b xb off : Nat) (a : Int) (c : Int) (out : List UInt8) (w : World) (hL : out.length ≤ 1099511620000) (hP : PassAt w base b out) (hs : Safe w b xb) (hV : SeatAt w xb off a c) :
    Calls Tryz.prog 155 #[.pointer (some ⟨b, 0, none⟩), .pointer (some ⟨xb, off, none⟩)] w fun e w' => Wrote base b (seatP (some out) a c) e w' ∧ Kp base b w w' := by
  obtain ⟨c0, c2, hlt, hb⟩ := hP.cells
  have hB0 : base ≤ w.heap.size := Nat.le_trans hb (Nat.le_of_lt hlt)
  have hxl := hs.2.1
  have K0 := Kp.refl base b w
  have s0 := hs
  have V0 := hV
  have P0 := hP
  have L0 : out.length ≤ out.length + 0 := by omega
  go_enter Tryz.func155, Tryz.ntmps155
  go_wp2_with fail
  have bA1 : Below w.heap.size w (w.alloc (.cells #[.pointer (some ⟨xb, off, none⟩), .pointer (some ⟨xb, off + 1, none⟩)] 113)) := (Below.refl _ _).alloc (Nat.le_refl _) _
  have bD1 := bA1.drew
  have hB1 : base ≤ w.heap.size := Nat.le_trans hB0 K0.size
  have hA1 := (ptrs_mk (w := w) (b := b) [⟨xb, off, none⟩, ⟨xb, off + 1, none⟩] [a, c] rfl (Nat.lt_of_lt_of_le hlt K0.size) (by
    intro p hp
    simp at hp
    rcases hp with rfl | rfl
    · exact ⟨V0.1, s0⟩
    · exact ⟨V0.2, s0⟩)).kp (Kp.of_below (base := base) (b := b) (show Below (w.alloc (.cells #[.pointer (some ⟨xb, off, none⟩), .pointer (some ⟨xb, off + 1, none⟩)] 113)).heap.size _ _ from (Below.refl _ _).drew) (Nat.le_trans hB1 bA1.size))
  have PP1 := P0.below bD1
  refine wp_region_any (by kernel_rfl) ?_
  change wpAny _ _ _ _ _ _ _ (World.drew _)
  refine wpAny_take (i := 0) (v := ?_) rfl (by kernel_rfl) (by kernel_rfl) (by kernel_rfl) (fun _ _ _ h => h) (Or.inl ⟨by rfl, ?_⟩) ?_
  rotate_left
  · intro w
    go_simp
    try (with_reducible rfl)
  refine wpAny_take (i := 1) (v := ?_) rfl (by kernel_rfl) (by kernel_rfl) (by kernel_rfl) (fun _ _ _ h => h) (Or.inl ⟨by rfl, ?_⟩) ?_
  rotate_left
  · intro w
    go_simp
    try (with_reducible rfl)
  refine wpAny_take (i := 2) (v := ?_) rfl (by kernel_rfl) (by kernel_rfl) (by kernel_rfl) (fun _ _ _ h => h) (Or.inl ⟨by rfl, ?_⟩) ?_
  rotate_left
  · intro w
    go_simp
    try (with_reducible rfl)
  refine wpAny_take (i := 3) (v := ?_) rfl (by kernel_rfl) (by kernel_rfl) (by kernel_rfl) (fun _ _ _ h => h) (Or.inl ⟨by rfl, ?_⟩) ?_
  rotate_left
  · intro w
    go_simp
    try (with_reducible rfl)
  refine wpAny_take (i := 4) (v := ?_) rfl (by kernel_rfl) (by kernel_rfl) (by kernel_rfl) (fun _ _ _ h => h) (Or.inl ⟨by rfl, ?_⟩) ?_
  rotate_left
  · intro w
    go_simp
    try (with_reducible rfl)
  refine wpAny_take (i := 5) (v := ?_) rfl (by kernel_rfl) (by kernel_rfl) (by kernel_rfl) (fun _ _ _ h => h) (Or.inl ⟨by rfl, ?_⟩) ?_
  rotate_left
  · intro w
    go_simp
    try (with_reducible rfl)
  refine wpAny_take (i := 6) (v := ?_) rfl (by kernel_rfl) (by kernel_rfl) (by kernel_rfl) (fun _ _ _ h => h) (Or.inl ⟨by rfl, ?_⟩) ?_
  rotate_left
  · intro w
    go_simp
    try (with_reducible rfl)
  refine wpAny_ready (rs := [7]) (by kernel_rfl) (by simp) ?_
  refine AllReady.cons rfl (fun K hK => ?_) AllReady.nil
  go_simp
  refine hK _ _ ?_
  clear hK K
  refine wpAny_ready (rs := [8]) (by kernel_rfl) (by simp) ?_
  refine AllReady.cons rfl (fun K hK => ?_) AllReady.nil
  go_simp
  refine (numbers_any base b w.heap.size 2 _ [a, c] out _ (by simp) (by omega) PP1 hA1).mono ?_
  rintro e w1 ⟨⟨o1, ho1, rfl, P1⟩ | ⟨ho1, rfl⟩, k1⟩
  rotate_left
  · have H1 := show Hid (_ = _) from ho1
    clear ho1
    exact ⟨rfl, .inr ⟨by unfold seatP; rw [H1.out], rfl⟩, K0.trans ((Kp.of_below bD1 hB1).trans k1)⟩
  have H1 := show Hid (_ = _) from ho1
  have L1a := pNums_len ho1
  simp only [List.length_cons, List.length_nil] at L1a
  have L1 : o1.length ≤ out.length + 12 := by omega
  have kk1 := (Kp.of_below bD1 hB1).trans k1
  have K1 := K0.trans kk1
  have s1 := s0.kp kk1
  have V1 := V0.kp s0 kk1
  clear ho1 L1a hA1 PP1 bA1 bD1 hB1
  refine hK _ _ ?_
  clear hK K
  refine wpAny_done (by kernel_rfl) ?_ _
  go_wp2
  go_end0
  exact ⟨.inl ⟨o1, by unfold seatP; exact H1.out, rfl, P1⟩, K1⟩

/-- A list of them in memory. -/
def Seats (w : World) (b : Nat) (la : Option Addr) (ps : List (Int × Int)) : Prop :=
  ps = [] ∨ ∃ rb ro, la = some ⟨rb, ro, none⟩ ∧ Safe w b rb ∧ ∀ i p, ps[i]? = some p → SeatAt w rb (ro + i * 2) p.1 p.2
theorem Seats.kp {w w' : World} {base b : Nat} {la : Option Addr} {ps : List (Int × Int)} (h : Seats w b la ps) (hK : Kp base b w w') : Seats w' b la ps := by
  rcases h with h | ⟨rb, ro, e, hs, hc⟩
  · exact .inl h
  · exact .inr ⟨rb, ro, e, hs.kp hK, fun i p hp => (hc i p hp).kp hs hK⟩
def seats (o : Option (List UInt8)) (ps : List (Int × Int)) : Option (List UInt8) := ps.foldl (fun o p => seatP o p.1 p.2) o
theorem seatP_none (a c : Int) : seatP none a c = none := pNums_none _
theorem seats_none (ps : List (Int × Int)) : seats none ps = none := by
  induction ps with
  | nil => rfl
  | cons p r ih => exact ih
theorem seatP_len {out o : List UInt8} {a c : Int} (h : seatP (some out) a c = some o) : o.length ≤ out.length + 12 := by
  have := pNums_len h
  simpa using this
theorem seats_take (o : Option (List UInt8)) (ps : List (Int × Int)) (k : Nat) (p : Int × Int) (h : ps[k]? = some p) : seats o (ps.take (k + 1)) = seatP (seats o (ps.take k)) p.1 p.2 := by
  have e : ps.take (k + 1) = ps.take k ++ [p] := by
    rw [List.take_add_one, h]; rfl
  rw [e]
  unfold seats
  rw [List.foldl_append]; rfl
theorem seats_drop (o : Option (List UInt8)) (ps : List (Int × Int)) (k : Nat) : seats o ps = seats (seats o (ps.take k)) (ps.drop k) := by
  unfold seats
  rw [← List.foldl_append, List.take_append_drop]
def seatL (most : Int) (o : Option (List UInt8)) (ps : List (Int × Int)) : Option (List UInt8) := seats (pNum most o (ps.length : Int)) ps

set_option maxHeartbeats 1600000 in
theorem lSeat_any (base b xb xo : Nat) (la : Option Addr) (lc : Nat) (most : Int) (ps : List (Int × Int)) (out : List UInt8) (w : World) (hm : 0 ≤ most ∧ most ≤ 1000) (hn : ps.length ≤ 140737488351232) (hc : ps.length ≤ lc) (hcm : lc ≤ maxLen) (hL : out.length ≤ 1099511600000) (hP : PassAt w base b out) (hs : Safe w b xb) (hx : w.cell? ⟨xb, xo, none⟩ = some (.slice la ps.length lc)) (hps : Seats w b la ps) :
    Calls Tryz.prog 154 #[.pointer (some ⟨b, 0, none⟩), .pointer (some ⟨xb, xo, none⟩), .int .i64 most, .func (.func 155) #[] #[]] w fun e w' => Wrote base b (seatL most (some out) ps) e w' ∧ Kp base b w w' := by
  obtain ⟨c0, c2, hlt, hb⟩ := hP.cells
  have hB0 : base ≤ w.heap.size := Nat.le_trans hb (Nat.le_of_lt hlt)
  have bA : Below w.heap.size w (w.alloc (.cells #[.int .i64 (ps.length : Int)] 3)) := (Below.refl _ _).alloc (Nat.le_refl _) _
  have kA : Kp base b w (w.alloc (.cells #[.int .i64 (ps.length : Int)] 3)) := Kp.of_below bA hB0
  have kN := Blk.new w #[.int .i64 (ps.length : Int)] 3
  have n0 := kN.cell 0
  simp only [List.getElem?_toArray, List.getElem?_cons_zero] at n0
  have hxl := hs.2.1
  go_enter Tryz.func154, Tryz.ntmps154
  go_wp2_with fail
  refine (bounded_any base b ⟨w.heap.size, 0, none⟩ (ps.length : Int) most out _ (by omega) (by omega) (hP.below bA) n0).mono ?_
  rintro e w1 ⟨⟨o1, ho1, rfl, P1⟩ | ⟨ho1, rfl⟩, k1⟩
  rotate_left
  · have H1 := show Hid (_ = _) from ho1
    clear ho1
    go_wp2
    exact ⟨rfl, .inr ⟨by unfold seatL; rw [H1.out]; exact seats_none _, rfl⟩, kA.trans k1⟩
  have hle : (ps.length : Int) ≤ most := by
    simp only [pNum, Option.bind_some] at ho1
    split at ho1
    · rename_i hh; exact hh.2
    · cases ho1
  have l1 := pNum_len ho1
  have H1 := show Hid (_ = _) from ho1
  clear ho1
  have K1 := kA.trans k1
  have s1 := hs.kp K1
  have x1 : w1.cell? ⟨xb, xo, none⟩ = some (.slice la ps.length lc) := by rw [Safe.cell (a := ⟨xb, xo, none⟩) hs K1]; exact hx
  have ps1 := hps.kp K1
  have kN1 := kN.kp k1 (by omega)
  have n1 := kN1.cell 0
  simp only [List.getElem?_toArray, List.getElem?_cons_zero] at n1
  have hz1 := kN1.lt
  obtain ⟨r0, _, _, _⟩ := P1.cells
  clear c0 c2 n0 bA kA kN hx
  go_wp2_with fail
  go_loopw [9, 26] (fun _ iv wv => ∃ (k : Nat) (o : List UInt8), k ≤ ps.length ∧ iv = .int .i64 k ∧ Hid (seats (some o1) (ps.take k) = some o) ∧ o.length ≤ o1.length + 12 * k ∧ PassAt wv base b o ∧ Kp base b w1 wv) (fun _ iv _ => ps.length - (intOf iv).toNat)
  case atStart => exact ⟨0, o1, Nat.zero_le _, rfl, rfl, by omega, P1, Kp.refl _ _ _⟩
  case round =>
    obtain ⟨k, o, hk, rfl, Ho, hol, Pk, Kk⟩ := hrel
    by_cases hk2 : k < ps.length
    · have hk3 : (k : Int) < (ps.length : Int) := by omega
      have xk : wr.cell? ⟨xb, xo, none⟩ = some (.slice la ps.length lc) := by rw [Safe.cell (a := ⟨xb, xo, none⟩) s1 Kk]; exact x1
      have Hst : Hid (_ = _) := seats_take (some o1) ps k ps[k] (List.getElem?_eq_getElem hk2)
      have Hdr := show Hid (_ = _) from seats_drop (some o1) ps (k + 1)
      have psk := ps1.kp Kk
      rcases psk with h0 | ⟨rb, ro, rfl, rs, rc⟩
      · subst h0; simp at hk2
      have rk := rc k ps[k] (List.getElem?_eq_getElem hk2)
      generalize ps[k] = p at *
      obtain ⟨pa, pc⟩ := p
      simp only at rk Hst
      go_wp2_with fail
      refine (bench1_any base b rb (ro + k * 2) pa pc o _ (by omega) Pk rs rk).mono ?_
      rintro e w2 ⟨⟨o2, ho2, rfl, P2⟩ | ⟨ho2, rfl⟩, k2⟩
      · have l2 := seatP_len ho2
        have Ho2 : Hid (seats (some o1) (ps.take (k + 1)) = some o2) := by show _ = _; rw [Hst.out, Ho.out]; exact ho2
        clear ho2 Hst Hdr rc rk ps1
        go_wp2
        exact ⟨⟨k + 1, o2, by omega, by go_num, Ho2, by omega, P2, Kk.trans k2⟩, by simp [intOf]; omega⟩
      · have Hn : Hid (seatL most (some out) ps = none) := by
          show _ = _
          unfold seatL
          rw [H1.out, Hdr.out, Hst.out, Ho.out, ho2]; exact seats_none _
        clear ho2 Hst Hdr rc rk ps1
        go_wp2
        exact ⟨rfl, .inr ⟨Hn.out, rfl⟩, K1.trans (Kk.trans k2)⟩
    · have hkk : k = ps.length := by omega
      have Hf : Hid (seatL most (some out) ps = some o) := by
        have h := Ho.out
        rw [hkk, List.take_length] at h
        show _ = _
        unfold seatL
        rw [H1.out]; exact h
      have hge : ¬ (k : Int) < (ps.length : Int) := by omega
      clear hkk
      go_wp2
      go_end0
      exact ⟨.inl ⟨o, Hf.out, rfl, Pk⟩, K1.trans Kk⟩

/-- It lies in memory. -/
def NoteAt (w : World) (xb off : Nat) (a : Int) (c : Int) : Prop :=
  w.cell? ⟨xb, off, none⟩ = some (.int .i64 a) ∧ w.cell? ⟨xb, off + 1, none⟩ = some (.int .i64 c)
theorem NoteAt.kp {w w' : World} {base b xb off : Nat} {a : Int} {c : Int} (H : NoteAt w xb off a c) (hs : Safe w b xb) (hK : Kp base b w w') : NoteAt w' xb off a c := by
  have e : ∀ i, w'.cell? ⟨xb, i, none⟩ = w.cell? ⟨xb, i, none⟩ := fun i => Safe.cell (a := ⟨xb, i, none⟩) hs hK
  unfold NoteAt at *
  rw [e, e]; exact H
theorem NoteAt.below {w w' : World} {xb off : Nat} {a : Int} {c : Int} (H : NoteAt w xb off a c) (hlt : xb < w.heap.size) (hB : Below w.heap.size w w') : NoteAt w' xb off a c := by
  have e : ∀ i, w'.cell? ⟨xb, i, none⟩ = w.cell? ⟨xb, i, none⟩ := fun i => hB.cell (p := ⟨xb, i, none⟩) hlt
  unfold NoteAt at *
  rw [e, e]; exact H

def noteP (o : Option (List UInt8)) (a : Int) (c : Int) : Option (List UInt8) := pNums o [a, c]



/-- A list of them in memory. -/
def Notes (w : World) (b : Nat) (la : Option Addr) (ps : List (Int × Int)) : Prop :=
  ps = [] ∨ ∃ rb ro, la = some ⟨rb, ro, none⟩ ∧ Safe w b rb ∧ ∀ i p, ps[i]? = some p → NoteAt w rb (ro + i * 2) p.1 p.2
theorem Notes.kp {w w' : World} {base b : Nat} {la : Option Addr} {ps : List (Int × Int)} (h : Notes w b la ps) (hK : Kp base b w w') : Notes w' b la ps := by
  rcases h with h | ⟨rb, ro, e, hs, hc⟩
  · exact .inl h
  · exact .inr ⟨rb, ro, e, hs.kp hK, fun i p hp => (hc i p hp).kp hs hK⟩
def notes (o : Option (List UInt8)) (ps : List (Int × Int)) : Option (List UInt8) := ps.foldl (fun o p => noteP o p.1 p.2) o
theorem noteP_none (a c : Int) : noteP none a c = none := pNums_none _
theorem notes_none (ps : List (Int × Int)) : notes none ps = none := by
  induction ps with
  | nil => rfl
  | cons p r ih => exact ih
theorem noteP_len {out o : List UInt8} {a c : Int} (h : noteP (some out) a c = some o) : o.length ≤ out.length + 12 := by
  have := pNums_len h
  simpa using this
theorem notes_take (o : Option (List UInt8)) (ps : List (Int × Int)) (k : Nat) (p : Int × Int) (h : ps[k]? = some p) : notes o (ps.take (k + 1)) = noteP (notes o (ps.take k)) p.1 p.2 := by
  have e : ps.take (k + 1) = ps.take k ++ [p] := by
    rw [List.take_add_one, h]; rfl
  rw [e]
  unfold notes
  rw [List.foldl_append]; rfl
theorem notes_drop (o : Option (List UInt8)) (ps : List (Int × Int)) (k : Nat) : notes o ps = notes (notes o (ps.take k)) (ps.drop k) := by
  unfold notes
  rw [← List.foldl_append, List.take_append_drop]
def noteL (most : Int) (o : Option (List UInt8)) (ps : List (Int × Int)) : Option (List UInt8) := notes (pNum most o (ps.length : Int)) ps



end Go.Proofs.YtaifkidpdmhciaaGreat
