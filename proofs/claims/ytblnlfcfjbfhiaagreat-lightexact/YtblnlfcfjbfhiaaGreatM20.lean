/- A pass over benches, views and results. -/
import Derived.Test.YtblnlfcfjbfhiaaGreatM19
import Derived.Test.YtblnlfcfjbfhiaaGreatXDigs

namespace Go.Proofs.YtblnlfcfjbfhiaaGreat.W
open Go.RowKit
set_option linter.unusedVariables false

theorem pbench_any (base b xb xo : Nat) (la : Option Addr) (lc : Nat) (ps : List (Int × Int)) (out : List UInt8) (w : World) (hn : ps.length ≤ 140737488351232) (hc : ps.length ≤ lc) (hcm : lc ≤ maxLen) (hL : out.length ≤ 1099511600000) (hP : PassAt w base b out) (hs : Safe w b xb) (hx : w.cell? ⟨xb, xo, none⟩ = some (.slice la ps.length lc)) (hps : Seats w b la ps) :
    Calls Tryz.prog 73 #[.pointer (some ⟨b, 0, none⟩), .pointer (some ⟨xb, xo, none⟩)] w fun e w' => Wrote base b (seatL 7 (some out) ps) e w' ∧ Kp base b w w' := by
  go_enter Tryz.func73, Tryz.ntmps73
  go_wp2_with fail
  refine (lSeat_any base b xb xo la lc 7 ps out _ (by omega) hn hc hcm hL hP hs hx hps).mono ?_
  rintro e w1 ⟨⟨o1, ho1, rfl, P1⟩ | ⟨ho1, rfl⟩, k1⟩
  · have H1 := show Hid (_ = _) from ho1
    clear ho1
    go_wp2
    go_end0
    exact ⟨.inl ⟨o1, H1.out, rfl, P1⟩, k1⟩
  · have H1 := show Hid (_ = _) from ho1
    clear ho1
    go_wp2
    exact ⟨rfl, .inr ⟨H1.out, rfl⟩, k1⟩

def viewP (o : Option (List UInt8)) (c wi ep h st : Int) (ps : List (Int × Int)) : Option (List UInt8) := seatL 7 (oApp (pNums o [c, wi, ep, h]) (be st 8)) ps

theorem seatL_none (most : Int) (ps : List (Int × Int)) : seatL most none ps = none := seats_none ps

set_option maxHeartbeats 3200000 in
theorem pview_any (base b xb : Nat) (c wi ep h st : Int) (la : Option Addr) (lc : Nat) (ps : List (Int × Int)) (out : List UInt8) (w : World) (hst : 0 ≤ st ∧ st ≤ 18446744073709551615) (hn : ps.length ≤ 140737488351232) (hc : ps.length ≤ lc) (hcm : lc ≤ maxLen) (hL : out.length ≤ 1099511590000) (hP : PassAt w base b out) (kX : Blk w xb #[.int .i64 c, .int .i64 wi, .int .i64 ep, .int .i64 h, .int .u64 st, .slice la ps.length lc] 26) (hxb : xb ≠ b) (hps : Seats w b la ps) :
    Calls Tryz.prog 66 #[.pointer (some ⟨b, 0, none⟩), .pointer (some ⟨xb, 0, none⟩)] w fun e w' => Wrote base b (viewP (some out) c wi ep h st ps) e w' ∧ Kp base b w w' := by
  obtain ⟨c0, c2, hlt, hb⟩ := hP.cells
  have hB0 : base ≤ w.heap.size := Nat.le_trans hb (Nat.le_of_lt hlt)
  have hs := kX.safe (b := b) (by decide) hxb
  have hxl := hs.2.1
  have K0 := Kp.refl base b w
  have P0 := hP
  have v0 := kX.cell 0
  have v1 := kX.cell 1
  have v2 := kX.cell 2
  have v3 := kX.cell 3
  simp only [List.getElem?_toArray, List.getElem?_cons_succ, List.getElem?_cons_zero] at v0 v1 v2 v3
  go_enter Tryz.func66, Tryz.ntmps66
  go_wp2_with fail
  have bA1 : Below w.heap.size w (w.alloc (.cells #[.pointer (some ⟨xb, 0, none⟩), .pointer (some ⟨xb, 1, none⟩), .pointer (some ⟨xb, 2, none⟩), .pointer (some ⟨xb, 3, none⟩)] 94)) := (Below.refl _ _).alloc (Nat.le_refl _) _
  have bD1 := bA1.drew
  have hB1 : base ≤ w.heap.size := Nat.le_trans hB0 K0.size
  have hA1 := (ptrs_mk (w := w) (b := b) [⟨xb, 0, none⟩, ⟨xb, 1, none⟩, ⟨xb, 2, none⟩, ⟨xb, 3, none⟩] [c, wi, ep, h] rfl (Nat.lt_of_lt_of_le hlt K0.size) (by
    intro p hp
    simp at hp
    rcases hp with rfl | rfl | rfl | rfl
    · exact ⟨v0, hs⟩
    · exact ⟨v1, hs⟩
    · exact ⟨v2, hs⟩
    · exact ⟨v3, hs⟩)).kp (Kp.of_below (base := base) (b := b) (show Below (w.alloc (.cells #[.pointer (some ⟨xb, 0, none⟩), .pointer (some ⟨xb, 1, none⟩), .pointer (some ⟨xb, 2, none⟩), .pointer (some ⟨xb, 3, none⟩)] 94)).heap.size _ _ from (Below.refl _ _).drew) (Nat.le_trans hB1 bA1.size))
  have PP1 := P0.below bD1
  refine wp_region_any (by kernel_rfl) ?_
  change wpAny _ _ _ _ _ _ _ (World.drew _)
  refine wpAny_take (i := 0) (v := ?_) rfl (by kernel_rfl) (by kernel_rfl) (by kernel_rfl) (fun _ _ _ h => h) (Or.inl ⟨by rfl, ?_⟩) ?_
  rotate_left
  · intro w
    go_simp
    try (with_reducible rfl)
  refine wpAny_take (i := 1) (v := ?_) rfl (by kernel_rfl) (by kernel_rfl) (by kernel_rfl) (fun _ _ _ h => h) (Or.inl ⟨by rfl, ?_⟩) ?_
  rotate_left
  · intro w
    go_simp
    try (with_reducible rfl)
  refine wpAny_take (i := 2) (v := ?_) rfl (by kernel_rfl) (by kernel_rfl) (by kernel_rfl) (fun _ _ _ h => h) (Or.inl ⟨by rfl, ?_⟩) ?_
  rotate_left
  · intro w
    go_simp
    try (with_reducible rfl)
  refine wpAny_take (i := 3) (v := ?_) rfl (by kernel_rfl) (by kernel_rfl) (by kernel_rfl) (fun _ _ _ h => h) (Or.inl ⟨by rfl, ?_⟩) ?_
  rotate_left
  · intro w
    go_simp
    try (with_reducible rfl)
  refine wpAny_take (i := 4) (v := ?_) rfl (by kernel_rfl) (by kernel_rfl) (by kernel_rfl) (fun _ _ _ h => h) (Or.inl ⟨by rfl, ?_⟩) ?_
  rotate_left
  · intro w
    go_simp
    try (with_reducible rfl)
  refine wpAny_take (i := 5) (v := ?_) rfl (by kernel_rfl) (by kernel_rfl) (by kernel_rfl) (fun _ _ _ h => h) (Or.inl ⟨by rfl, ?_⟩) ?_
  rotate_left
  · intro w
    go_simp
    try (with_reducible rfl)
  refine wpAny_take (i := 6) (v := ?_) rfl (by kernel_rfl) (by kernel_rfl) (by kernel_rfl) (fun _ _ _ h => h) (Or.inl ⟨by rfl, ?_⟩) ?_
  rotate_left
  · intro w
    go_simp
    try (with_reducible rfl)
  refine wpAny_take (i := 7) (v := ?_) rfl (by kernel_rfl) (by kernel_rfl) (by kernel_rfl) (fun _ _ _ h => h) (Or.inl ⟨by rfl, ?_⟩) ?_
  rotate_left
  · intro w
    go_simp
    try (with_reducible rfl)
  refine wpAny_take (i := 8) (v := ?_) rfl (by kernel_rfl) (by kernel_rfl) (by kernel_rfl) (fun _ _ _ h => h) (Or.inl ⟨by rfl, ?_⟩) ?_
  rotate_left
  · intro w
    go_simp
    try (with_reducible rfl)
  refine wpAny_take (i := 9) (v := ?_) rfl (by kernel_rfl) (by kernel_rfl) (by kernel_rfl) (fun _ _ _ h => h) (Or.inl ⟨by rfl, ?_⟩) ?_
  rotate_left
  · intro w
    go_simp
    try (with_reducible rfl)
  refine wpAny_take (i := 10) (v := ?_) rfl (by kernel_rfl) (by kernel_rfl) (by kernel_rfl) (fun _ _ _ h => h) (Or.inl ⟨by rfl, ?_⟩) ?_
  rotate_left
  · intro w
    go_simp
    try (with_reducible rfl)
  refine wpAny_take (i := 11) (v := ?_) rfl (by kernel_rfl) (by kernel_rfl) (by kernel_rfl) (fun _ _ _ h => h) (Or.inl ⟨by rfl, ?_⟩) ?_
  rotate_left
  · intro w
    go_simp
    try (with_reducible rfl)
  refine wpAny_take (i := 12) (v := ?_) rfl (by kernel_rfl) (by kernel_rfl) (by kernel_rfl) (fun _ _ _ h => h) (Or.inl ⟨by rfl, ?_⟩) ?_
  rotate_left
  · intro w
    go_simp
    try (with_reducible rfl)
  refine wpAny_ready (rs := [13]) (by kernel_rfl) (by simp) ?_
  refine AllReady.cons rfl (fun K hK => ?_) AllReady.nil
  go_simp
  refine hK _ _ ?_
  clear hK K
  refine wpAny_ready (rs := [14]) (by kernel_rfl) (by simp) ?_
  refine AllReady.cons rfl (fun K hK => ?_) AllReady.nil
  go_simp
  refine (numbers_any base b w.heap.size 4 _ [c, wi, ep, h] out _ (by simp) (by omega) PP1 hA1).mono ?_
  rintro e w1 ⟨⟨o1, ho1, rfl, P1⟩ | ⟨ho1, rfl⟩, k1⟩
  rotate_left
  · have H1 := show Hid (_ = _) from ho1
    clear ho1
    exact ⟨rfl, .inr ⟨by unfold viewP; rw [H1.out]; exact seatL_none _ _, rfl⟩, K0.trans ((Kp.of_below bD1 hB1).trans k1)⟩
  have H1 := show Hid (_ = _) from ho1
  have L1 := pNums_len ho1
  simp only [List.length_cons, List.length_nil] at L1
  have kk1 := (Kp.of_below bD1 hB1).trans k1
  have s1 := hs.kp kk1
  have kX1 := kX.kp kk1 hxb
  have ps1 := hps.kp kk1
  have x4 := kX1.cell 4
  simp only [List.getElem?_toArray, List.getElem?_cons_succ, List.getElem?_cons_zero] at x4
  clear ho1 hA1 PP1 bA1 bD1 hB1 v0 v1 v2 v3
  refine hK _ _ ?_
  clear hK K
  refine wpAny_done (by kernel_rfl) ?_ _
  go_wp2_with fail
  refine (digest_any base b ⟨xb, 4, none⟩ st o1 _ hst (by omega) P1 x4).mono ?_
  rintro e w2 ⟨rfl, P2, k2⟩
  have s2 := s1.kp k2
  have kX2 := kX1.kp k2 hxb
  have ps2 := ps1.kp k2
  have x5 := kX2.cell 5
  simp only [List.getElem?_toArray, List.getElem?_cons_succ, List.getElem?_cons_zero] at x5
  have L2 : (o1 ++ be st 8).length ≤ out.length + 40 := by rw [List.length_append, be_len]; omega
  go_wp2_with fail
  refine (pbench_any base b xb 5 la lc ps (o1 ++ be st 8) _ hn hc hcm (by omega) P2 s2 x5 ps2).mono ?_
  rintro e w3 ⟨⟨o3, ho3, rfl, P3⟩ | ⟨ho3, rfl⟩, k3⟩
  · have H3 := show Hid (_ = _) from ho3
    clear ho3
    go_wp2
    go_end0
    exact ⟨.inl ⟨o3, by unfold viewP; rw [H1.out]; exact H3.out, rfl, P3⟩, (kk1.trans k2).trans k3⟩
  · have H3 := show Hid (_ = _) from ho3
    clear ho3
    go_wp2
    exact ⟨rfl, .inr ⟨by unfold viewP; rw [H1.out]; exact H3.out, rfl⟩, (kk1.trans k2).trans k3⟩

/-- A cell is given the value that it has. -/
theorem Kp.same {base b k i : Nat} {w : World} {cs : Array Value} {t : TypeId} {v : Value} (h : Blk w k cs t) (hv : cs[i]? = some v) : Kp base b w (w.setCell ⟨k, i, none⟩ v) := by
  have hk : (w.setCell ⟨k, i, none⟩ v).heap[k]? = w.heap[k]? := by
    have h1 := h.set i v
    have e : cs.setIfInBounds i v = cs := by
      apply Array.ext_getElem?
      intro j
      rw [Array.getElem?_setIfInBounds]
      split
      · rename_i e; subst e
        rw [hv]
        have := (Array.getElem?_eq_some_iff.1 hv).1
        simp [this]
      · rfl
    rw [e] at h1
    unfold Blk at *
    rw [h, h1]
  have hall : ∀ j, (w.setCell ⟨k, i, none⟩ v).heap[j]? = w.heap[j]? := fun j => by
    by_cases e : j = k
    · subst e; exact hk
    · exact Below.heap_setCell _ _ _ _ e
  exact ⟨⟨rfl, rfl, rfl, by rw [show (w.setCell ⟨k, i, none⟩ v).heap.size = w.heap.size by simp [World.setCell]]; exact Nat.le_refl _, fun j _ => hall j⟩, fun j _ => hall j⟩

def resultP (o : Option (List UInt8)) (co us va : Int) (ps : List (Int × Int)) : Option (List UInt8) := noteL 64 (pNums o [co, us, va]) ps

theorem noteL_none (most : Int) (ps : List (Int × Int)) : noteL most none ps = none := notes_none ps


end Go.Proofs.YtblnlfcfjbfhiaaGreat.W

namespace Go.Proofs.YtblnlfcfjbfhiaaGreat.W
open Go.RowKit
set_option linter.unusedVariables false

theorem seats_at (ps : List (Int × Int)) : ∀ (out : List UInt8), seats (some out) ps = if okL (eachL pairA ps) = true then some (out ++ encL (eachL pairA ps)) else none := by
  induction ps with
  | nil => intro out; simp [seats, eachL, okL, encL]
  | cons p r ih =>
    intro out
    show seats (seatP (some out) p.1 p.2) r = _
    have e : seatP (some out) p.1 p.2 = if okL (pairA p) = true then some (out ++ encL (pairA p)) else none := pNums_at out [p.1, p.2]
    rw [e]
    simp only [eachL, okL_append, encL_append]
    by_cases h : okL (pairA p) = true
    · rw [if_pos h, ih, h, Bool.true_and, List.append_assoc]
    · rw [if_neg h, seats_none]
      simp [h]

theorem seatL_at (most : Int) (out : List UInt8) (ps : List (Int × Int)) : seatL most (some out) ps = if okL (listL most pairA ps) = true then some (out ++ encL (listL most pairA ps)) else none := by
  unfold seatL
  rw [pNum_at]
  by_cases h : okL [Atom.num most (ps.length : Int)] = true
  · rw [if_pos h, seats_at]
    have h' : (Atom.num most (ps.length : Int)).ok = true := by simpa [okL] using h
    simp only [listL, okL, encL, h', Bool.true_and, List.append_nil, List.append_assoc]
  · rw [if_neg h, seats_none]
    have h' : (Atom.num most (ps.length : Int)).ok = false := by simpa [okL] using h
    simp [listL, okL, h']

theorem seats_held {base b : Nat} {w : World} {l : Lst (Int × Int)} (h : l.Held pairF 2 base w) (hb : base ≤ b) : Seats w b l.la l.xs := by
  obtain ⟨_, _, h0 | ⟨rb, ro, e, rl, rz, rc⟩⟩ := h
  · exact .inl h0
  · exact .inr ⟨rb, ro, e, ⟨by omega, rz, .inl (by omega)⟩, fun i p hp => ⟨(rc i p hp).get0 rfl, (rc i p hp).get 1 rfl⟩⟩

theorem pbench_anyX (base b xb xo : Nat) (l : Lst (Int × Int)) (out : List UInt8) (w : World) (hL : out.length + wtL (benchL l.xs) ≤ 1099511000000) (hP : PassAt w base b out) (hs : Safe w b xb) (hx : w.cell? ⟨xb, xo, none⟩ = some (.slice l.la l.xs.length l.lc)) (hh : l.Held pairF 2 base w) :
    Calls Tryz.prog 73 #[.pointer (some ⟨b, 0, none⟩), .pointer (some ⟨xb, xo, none⟩)] w fun e w' => Wr base b out (benchL l.xs) e w' ∧ Kp base b w w' := by
  have hn : l.xs.length ≤ 1099511000000 := by
    have key : ∀ ps : List (Int × Int), ps.length ≤ wtL (eachL pairA ps) := by
      intro ps
      induction ps with
      | nil => simp
      | cons p r ih => simp only [eachL, wtL_append, pairA, wtL, Atom.wt, List.length_cons]; omega
    have := key l.xs
    simp only [benchL, listL, wtL] at hL
    omega
  exact (pbench_any base b xb xo l.la l.lc l.xs out w (by omega) hh.1 hh.2.1 (by omega) hP hs hx (seats_held hh hP.le.1)).mono fun e w' ⟨h1, h2⟩ => ⟨h1.wr (seatL_at 7 out l.xs), h2⟩
end Go.Proofs.YtblnlfcfjbfhiaaGreat.W
