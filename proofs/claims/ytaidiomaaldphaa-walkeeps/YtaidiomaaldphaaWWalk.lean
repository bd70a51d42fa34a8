/- A pass over votes, pairs of votes, parcels and accounts. -/
import Derived.Test.YtaidiomaaldphaaWPut
namespace Go.Proofs.Ytaidiomaaldphaa
open Go.RowKit
set_option linter.unusedVariables false

def oApp (o : Option (List UInt8)) (l : List UInt8) : Option (List UInt8) := o.map (· ++ l)
theorem pNums_len {o : List UInt8} : ∀ {ns : List Int} {out : List UInt8}, pNums (some out) ns = some o → o.length ≤ out.length + 6 * ns.length
  | [], out, h => by
    simp only [pNums, List.foldl_nil, Option.some.injEq] at h
    subst h; simp
  | n :: r, out, h => by
    have e : pNums (some out) (n :: r) = pNums (pNum 1099511627775 (some out) n) r := rfl
    rw [e] at h
    cases hc : pNum 1099511627775 (some out) n with
    | none => rw [hc, pNums_none] at h; cases h
    | some o1 =>
      rw [hc] at h
      have h1 := pNum_len hc
      have h2 := pNums_len (ns := r) (out := o1) h
      simp only [List.length_cons]; omega

theorem Safe.below {w w' : World} {b k : Nat} (h : Safe w b k) (hb : Below w.heap.size w w') : Safe w' b k :=
  ⟨h.1, Nat.lt_of_lt_of_le h.2.1 hb.size, h.2.2.imp id fun hh cs f => by rw [hb.block k h.2.1]; exact hh cs f⟩
/-- Addresses of numbers that are laid one beside the other. -/
theorem ptrs_mk {w : World} {b : Nat} (ads : List Addr) (ns : List Int) (hl : ads.length = ns.length) (hb : b < w.heap.size)
    (h : ∀ p ∈ ads.zip ns, w.cell? p.1 = some (.int .i64 p.2) ∧ Safe w b p.1.block) : Ptrs (w.alloc (.cells (ads.map fun a => Value.pointer (some a)).toArray 84)) b w.heap.size ads ns := by
  have hbl : Below w.heap.size w (w.alloc (.cells (ads.map fun a => Value.pointer (some a)).toArray 84)) := (Below.refl _ _).alloc (Nat.le_refl _) _
  have kN := Blk.new w (ads.map fun a => Value.pointer (some a)).toArray 84
  refine ⟨hl, kN.safe (by decide) (by omega), fun i a n ha hn => ?_⟩
  have hm : (a, n) ∈ ads.zip ns := List.mem_of_getElem? (i := i) (by rw [List.getElem?_zip_eq_some]; exact ⟨ha, hn⟩)
  obtain ⟨h1, h2⟩ := h _ hm
  refine ⟨?_, ?_, h2.below hbl⟩
  · rw [kN.cell i]; simp [ha]
  · rw [hbl.cell (p := a) h2.2.1]; exact h1

/-- It lies in memory. -/
def VoteAt (w : World) (xb off : Nat) (h : Int) (r : Int) (s : Int) (has : Bool) (bl : Int) (f : Int) : Prop :=
  w.cell? ⟨xb, off, none⟩ = some (.int .i64 h) ∧ w.cell? ⟨xb, off + 1, none⟩ = some (.int .i64 r) ∧ w.cell? ⟨xb, off + 2, none⟩ = some (.int .i64 s) ∧ w.cell? ⟨xb, off + 3, none⟩ = some (.bool has) ∧ w.cell? ⟨xb, off + 4, none⟩ = some (.int .u64 bl) ∧ w.cell? ⟨xb, off + 5, none⟩ = some (.int .i64 f)
theorem VoteAt.kp {w w' : World} {base b xb off : Nat} {h : Int} {r : Int} {s : Int} {has : Bool} {bl : Int} {f : Int} (H : VoteAt w xb off h r s has bl f) (hs : Safe w b xb) (hK : Kp base b w w') : VoteAt w' xb off h r s has bl f := by
  have e : ∀ i, w'.cell? ⟨xb, i, none⟩ = w.cell? ⟨xb, i, none⟩ := fun i => Safe.cell (a := ⟨xb, i, none⟩) hs hK
  unfold VoteAt at *
  rw [e, e, e, e, e, e]; exact H
theorem VoteAt.below {w w' : World} {xb off : Nat} {h : Int} {r : Int} {s : Int} {has : Bool} {bl : Int} {f : Int} (H : VoteAt w xb off h r s has bl f) (hlt : xb < w.heap.size) (hB : Below w.heap.size w w') : VoteAt w' xb off h r s has bl f := by
  have e : ∀ i, w'.cell? ⟨xb, i, none⟩ = w.cell? ⟨xb, i, none⟩ := fun i => hB.cell (p := ⟨xb, i, none⟩) hlt
  unfold VoteAt at *
  rw [e, e, e, e, e, e]; exact H

def voteP (o : Option (List UInt8)) (h : Int) (r : Int) (s : Int) (has : Bool) (bl : Int) (f : Int) : Option (List UInt8) := pNum 1099511627775 (oApp (oApp (pNums o [h, r, s]) (flagB has)) (be bl 8)) f

set_option maxHeartbeats 3200000 in
theorem pvote_any (base b xb off : Nat) (h : Int) (r : Int) (s : Int) (has : Bool) (bl : Int) (f : Int) (out : List UInt8) (w : World) (hbl : 0 ≤ bl ∧ bl ≤ 18446744073709551615) (hL : out.length ≤ 1099511620000) (hP : PassAt w base b out) (hs : Safe w b xb) (hV : VoteAt w xb off h r s has bl f) :
    Calls Try.prog 28 #[.pointer (some ⟨b, 0, none⟩), .pointer (some ⟨xb, off, none⟩)] w fun e w' => Wrote base b (voteP (some out) h r s has bl f) e w' ∧ Kp base b w w' := by
  obtain ⟨c0, c2, hlt, hb⟩ := hP.cells
  have hB0 : base ≤ w.heap.size := Nat.le_trans hb (Nat.le_of_lt hlt)
  have hxl := hs.2.1
  have K0 := Kp.refl base b w
  have s0 := hs
  have V0 := hV
  have P0 := hP
  have L0 : out.length ≤ out.length + 0 := by omega
  go_enter Try.func28, Try.ntmps28
  go_wp2_with fail
  have bA1 : Below w.heap.size w (w.alloc (.cells #[.pointer (some ⟨xb, off, none⟩), .pointer (some ⟨xb, off + 1, none⟩), .pointer (some ⟨xb, off + 2, none⟩)] 84)) := (Below.refl _ _).alloc (Nat.le_refl _) _
  have bD1 := bA1.drew
  have hB1 : base ≤ w.heap.size := Nat.le_trans hB0 K0.size
  have hA1 := (ptrs_mk (w := w) (b := b) [⟨xb, off, none⟩, ⟨xb, off + 1, none⟩, ⟨xb, off + 2, none⟩] [h, r, s] rfl (Nat.lt_of_lt_of_le hlt K0.size) (by
    intro p hp
    simp at hp
    rcases hp with rfl | rfl | rfl
    · exact ⟨V0.1, s0⟩
    · exact ⟨V0.2.1, s0⟩
    · exact ⟨V0.2.2.1, s0⟩)).kp (Kp.of_below (base := base) (b := b) (show Below (w.alloc (.cells #[.pointer (some ⟨xb, off, none⟩), .pointer (some ⟨xb, off + 1, none⟩), .pointer (some ⟨xb, off + 2, none⟩)] 84)).heap.size _ _ from (Below.refl _ _).drew) (Nat.le_trans hB1 bA1.size))
  have PP1 := P0.below bD1
  refine wp_region_any (by kernel_rfl) ?_
  change wpAny _ _ _ _ _ _ _ (World.drew _)
  refine wpAny_take (i := 0) (v := ?_) rfl (by kernel_rfl) (by kernel_rfl) (by kernel_rfl) (fun _ _ _ h => h) (Or.inl ⟨by rfl, ?_⟩) ?_
  rotate_left
  · intro w
    go_simp
    try (with_reducible rfl)
  refine wpAny_take (i := 1) (v := ?_) rfl (by kernel_rfl) (by kernel_rfl) (by kernel_rfl) (fun _ _ _ h => h) (Or.inl ⟨by rfl, ?_⟩) ?_
  rotate_left
  · intro w
    go_simp
    try (with_reducible rfl)
  refine wpAny_take (i := 2) (v := ?_) rfl (by kernel_rfl) (by kernel_rfl) (by kernel_rfl) (fun _ _ _ h => h) (Or.inl ⟨by rfl, ?_⟩) ?_
  rotate_left
  · intro w
    go_simp
    try (with_reducible rfl)
  refine wpAny_take (i := 3) (v := ?_) rfl (by kernel_rfl) (by kernel_rfl) (by kernel_rfl) (fun _ _ _ h => h) (Or.inl ⟨by rfl, ?_⟩) ?_
  rotate_left
  · intro w
    go_simp
    try (with_reducible rfl)
  refine wpAny_take (i := 4) (v := ?_) rfl (by kernel_rfl) (by kernel_rfl) (by kernel_rfl) (fun _ _ _ h => h) (Or.inl ⟨by rfl, ?_⟩) ?_
  rotate_left
  · intro w
    go_simp
    try (with_reducible rfl)
  refine wpAny_take (i := 5) (v := ?_) rfl (by kernel_rfl) (by kernel_rfl) (by kernel_rfl) (fun _ _ _ h => h) (Or.inl ⟨by rfl, ?_⟩) ?_
  rotate_left
  · intro w
    go_simp
    try (with_reducible rfl)
  refine wpAny_take (i := 6) (v := ?_) rfl (by kernel_rfl) (by kernel_rfl) (by kernel_rfl) (fun _ _ _ h => h) (Or.inl ⟨by rfl, ?_⟩) ?_
  rotate_left
  · intro w
    go_simp
    try (with_reducible rfl)
  refine wpAny_take (i := 7) (v := ?_) rfl (by kernel_rfl) (by kernel_rfl) (by kernel_rfl) (fun _ _ _ h => h) (Or.inl ⟨by rfl, ?_⟩) ?_
  rotate_left
  · intro w
    go_simp
    try (with_reducible rfl)
  refine wpAny_take (i := 8) (v := ?_) rfl (by kernel_rfl) (by kernel_rfl) (by kernel_rfl) (fun _ _ _ h => h) (Or.inl ⟨by rfl, ?_⟩) ?_
  rotate_left
  · intro w
    go_simp
    try (with_reducible rfl)
  refine wpAny_take (i := 9) (v := ?_) rfl (by kernel_rfl) (by kernel_rfl) (by kernel_rfl) (fun _ _ _ h => h) (Or.inl ⟨by rfl, ?_⟩) ?_
  rotate_left
  · intro w
    go_simp
    try (with_reducible rfl)
  refine wpAny_ready (rs := [10]) (by kernel_rfl) (by simp) ?_
  refine AllReady.cons rfl (fun K hK => ?_) AllReady.nil
  go_simp
  refine hK _ _ ?_
  clear hK K
  refine wpAny_ready (rs := [11]) (by kernel_rfl) (by simp) ?_
  refine AllReady.cons rfl (fun K hK => ?_) AllReady.nil
  go_simp
  refine (numbers_any base b w.heap.size 3 _ [h, r, s] out _ (by simp) (by omega) PP1 hA1).mono ?_
  rintro e w1 ⟨⟨o1, ho1, rfl, P1⟩ | ⟨ho1, rfl⟩, k1⟩
  rotate_left
  · have H1 := show Hid (_ = _) from ho1
    clear ho1
    exact ⟨rfl, .inr ⟨by unfold voteP; rw [H1.out]; rfl, rfl⟩, K0.trans ((Kp.of_below bD1 hB1).trans k1)⟩
  have H1 := show Hid (_ = _) from ho1
  have L1a := pNums_len ho1
  simp only [List.length_cons, List.length_nil] at L1a
  have L1 : o1.length ≤ out.length + 18 := by omega
  have kk1 := (Kp.of_below bD1 hB1).trans k1
  have K1 := K0.trans kk1
  have s1 := s0.kp kk1
  have V1 := V0.kp s0 kk1
  clear ho1 L1a hA1 PP1 bA1 bD1 hB1
  refine hK _ _ ?_
  clear hK K
  refine wpAny_done (by kernel_rfl) ?_ _
  go_wp2_with fail
  refine (flag_any base b ⟨xb, off + 3, none⟩ has o1 _ (by omega) P1 V1.2.2.2.1).mono ?_
  rintro e w2 ⟨rfl, P2, k2⟩
  have K2 := K1.trans k2
  have s2 := s1.kp k2
  have V2 := V1.kp s1 k2
  have L2 : (o1 ++ flagB has).length ≤ out.length + 19 := by simp [flagB]; omega
  go_wp2_with fail
  refine (digest_any base b ⟨xb, off + 4, none⟩ bl (o1 ++ flagB has) _ hbl (by omega) P2 V2.2.2.2.2.1).mono ?_
  rintro e w3 ⟨rfl, P3, k3⟩
  have K3 := K2.trans k3
  have s3 := s2.kp k3
  have V3 := V2.kp s2 k3
  have L3 : (o1 ++ flagB has ++ be bl 8).length ≤ out.length + 27 := by rw [List.length_append, be_len]; omega
  go_wp2_with fail
  refine (number_any base b ⟨xb, off + 5, none⟩ f (o1 ++ flagB has ++ be bl 8) _ (by omega) P3 V3.2.2.2.2.2).mono ?_
  rintro e w4 ⟨⟨o4, ho4, rfl, P4⟩ | ⟨ho4, rfl⟩, k4⟩
  · have H4 := show Hid (_ = _) from ho4
    clear ho4
    go_wp2
    go_end0
    exact ⟨.inl ⟨o4, by unfold voteP; rw [H1.out]; exact H4.out, rfl, P4⟩, K3.trans k4⟩
  · have H4 := show Hid (_ = _) from ho4
    clear ho4
    go_wp2
    exact ⟨rfl, .inr ⟨by unfold voteP; rw [H1.out]; exact H4.out, rfl⟩, K3.trans k4⟩

/-- It lies in memory. -/
def ParcelAt (w : World) (xb off : Nat) (k : Int) (t : Int) (a : Int) : Prop :=
  w.cell? ⟨xb, off, none⟩ = some (.int .i64 k) ∧ w.cell? ⟨xb, off + 1, none⟩ = some (.int .i64 t) ∧ w.cell? ⟨xb, off + 2, none⟩ = some (.int .i64 a)
theorem ParcelAt.kp {w w' : World} {base b xb off : Nat} {k : Int} {t : Int} {a : Int} (H : ParcelAt w xb off k t a) (hs : Safe w b xb) (hK : Kp base b w w') : ParcelAt w' xb off k t a := by
  have e : ∀ i, w'.cell? ⟨xb, i, none⟩ = w.cell? ⟨xb, i, none⟩ := fun i => Safe.cell (a := ⟨xb, i, none⟩) hs hK
  unfold ParcelAt at *
  rw [e, e, e]; exact H
theorem ParcelAt.below {w w' : World} {xb off : Nat} {k : Int} {t : Int} {a : Int} (H : ParcelAt w xb off k t a) (hlt : xb < w.heap.size) (hB : Below w.heap.size w w') : ParcelAt w' xb off k t a := by
  have e : ∀ i, w'.cell? ⟨xb, i, none⟩ = w.cell? ⟨xb, i, none⟩ := fun i => hB.cell (p := ⟨xb, i, none⟩) hlt
  unfold ParcelAt at *
  rw [e, e, e]; exact H

def parcelP (o : Option (List UInt8)) (k : Int) (t : Int) (a : Int) : Option (List UInt8) := pNums o [k, t, a]



/-- It lies in memory. -/
def AccountAt (w : World) (xb off : Nat) (ba : Int) (fo : Int) (no : Int) (bo : Int) (le : Int) (fr : Int) (ja : Bool) : Prop :=
  w.cell? ⟨xb, off, none⟩ = some (.int .i64 ba) ∧ w.cell? ⟨xb, off + 1, none⟩ = some (.int .i64 fo) ∧ w.cell? ⟨xb, off + 2, none⟩ = some (.int .i64 no) ∧ w.cell? ⟨xb, off + 3, none⟩ = some (.int .i64 bo) ∧ w.cell? ⟨xb, off + 4, none⟩ = some (.int .i64 le) ∧ w.cell? ⟨xb, off + 5, none⟩ = some (.int .i64 fr) ∧ w.cell? ⟨xb, off + 6, none⟩ = some (.bool ja)
theorem AccountAt.kp {w w' : World} {base b xb off : Nat} {ba : Int} {fo : Int} {no : Int} {bo : Int} {le : Int} {fr : Int} {ja : Bool} (H : AccountAt w xb off ba fo no bo le fr ja) (hs : Safe w b xb) (hK : Kp base b w w') : AccountAt w' xb off ba fo no bo le fr ja := by
  have e : ∀ i, w'.cell? ⟨xb, i, none⟩ = w.cell? ⟨xb, i, none⟩ := fun i => Safe.cell (a := ⟨xb, i, none⟩) hs hK
  unfold AccountAt at *
  rw [e, e, e, e, e, e, e]; exact H
theorem AccountAt.below {w w' : World} {xb off : Nat} {ba : Int} {fo : Int} {no : Int} {bo : Int} {le : Int} {fr : Int} {ja : Bool} (H : AccountAt w xb off ba fo no bo le fr ja) (hlt : xb < w.heap.size) (hB : Below w.heap.size w w') : AccountAt w' xb off ba fo no bo le fr ja := by
  have e : ∀ i, w'.cell? ⟨xb, i, none⟩ = w.cell? ⟨xb, i, none⟩ := fun i => hB.cell (p := ⟨xb, i, none⟩) hlt
  unfold AccountAt at *
  rw [e, e, e, e, e, e, e]; exact H

def accountP (o : Option (List UInt8)) (ba : Int) (fo : Int) (no : Int) (bo : Int) (le : Int) (fr : Int) (ja : Bool) : Option (List UInt8) := oApp (pNums o [ba, fo, no, bo, le, fr]) (flagB ja)



end Go.Proofs.Ytaidiomaaldphaa
