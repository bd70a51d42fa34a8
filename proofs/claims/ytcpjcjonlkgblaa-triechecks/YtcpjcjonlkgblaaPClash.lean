/- Check, and Clash. -/
import Derived.Test.YtcpjcjonlkgblaaM44
namespace Go.Proofs.Ytcpjcjonlkgblaa
open Go.RowKit
set_option linter.unusedVariables false
set_option linter.unusedSimpArgs false

/-- What Clash tells. -/
def Told3 (w : World) (o : Option ((Int × List ByteArray) × (Int × List ByteArray))) (v : Value) : Prop :=
  ∃ (t1 t2 : Int) (s1 s2 : List ByteArray) (a1 a2 : Option Addr) (c1 c2 : Nat), v = .tuple #[.agg #[.int .i64 t1, .slice a1 s1.length c1], .agg #[.int .i64 t2, .slice a2 s2.length c2], .bool o.isSome] ∧
    Strs w a1 s1 ∧ Strs w a2 s2 ∧ s1.length ≤ 3 ∧ s2.length ≤ 3 ∧ o.getD ((0, []), (0, [])) = ((t1, s1), (t2, s2))
theorem fu_of (l m : List (Int × List ByteArray)) (k : Nat) (x y : Int × List ByteArray) (h1 : l[k]? = some x) (h2 : m[k]? = some y) : firstUn (l.drop k) (m.drop k) = if x = y then firstUn (l.drop (k+1)) (m.drop (k+1)) else some (x, y) := by
  obtain ⟨a1, b1⟩ := List.getElem?_eq_some_iff.1 h1
  obtain ⟨a2, b2⟩ := List.getElem?_eq_some_iff.1 h2
  rw [List.drop_eq_getElem_cons a1, List.drop_eq_getElem_cons a2, b1, b2]
  rfl
theorem fu_at (l m : List (Int × List ByteArray)) (k : Nat) (h1 : k < l.length) (h2 : k < m.length) : firstUn (l.drop k) (m.drop k) = if l[k] = m[k] then firstUn (l.drop (k+1)) (m.drop (k+1)) else some (l[k], m[k]) := by
  rw [List.drop_eq_getElem_cons h1, List.drop_eq_getElem_cons h2]
  rfl
theorem wayP_len (wd : Int) (p : Pf) : (wayP wd p).length ≤ p.tu.length + 2 := by
  have : ∀ ts : List (Int × Int), (ups wd p.key p.val ts).length = ts.length + 1 := fun ts => by induction ts with | nil => rfl | cons t ts ih => simp [ups, ih]
  unfold wayP
  split
  · simp [this]
  · simp
theorem fu_end (l m : List (Int × List ByteArray)) (k : Nat) (h : l.length ≤ k ∨ m.length ≤ k) : firstUn (l.drop k) (m.drop k) = none := by
  rcases h with h | h
  · rw [List.drop_of_length_le h]; rfl
  · rw [List.drop_of_length_le h]
    cases l.drop k <;> rfl
def checkV (wd root : Int) (key : Key) (p : Pf) : Key := if shownE wd root key p = 0 then shownV key p else []
set_option maxHeartbeats 1600000 in
theorem check_any (wd root : Int) (key : Key) (la : Option Addr) (cap : Nat) (p : Pf) (w : World) (hw : okW wd) (hk : key.length ≤ 32) (h : PfIn w la cap p) (hl : p.tu.length ≤ 1000000) (hs1 : p.key.length ≤ 1000000) (hs2 : p.val.length ≤ 1000000) :
    Calls Try.prog 11 #[.int .i64 wd, .int .u64 root, .string (str key), pfV la cap p] w fun e w' => e = .returned (.tuple #[.string (str (checkV wd root key p)), .int .i64 (shownE wd root key p)]) ∧ Below w.heap.size w w' := by
  have bA : Below w.heap.size w (w.alloc (.cells #[.slice la p.tu.length cap, .bool p.leaf, .string (str p.key), .string (str p.val)] 25)) := (Below.refl _ _).alloc (Nat.le_refl _) _
  have KS := shown_any wd root key la cap p _ hw hk (h.below bA) hl hs1 hs2
  unfold pfV at KS ⊢
  go_enter Try.func11, Try.ntmps11
  go_wp2_with fail
  refine KS.mono ?_
  rintro e w1 ⟨b1', ⟨h0, v, E, rfl, _, _⟩ | ⟨h0, rfl⟩⟩
  all_goals have b1 := bA.trans (b1'.mono bA.size)
  · have HV : Hid (checkV wd root key p = shownV key p) := by show _ = _; unfold checkV; rw [if_pos h0]
    have HE0 : Hid (shownE wd root key p = 0) := h0
    clear h0
    go_wp2
    exact bodyPost_ret (v := .tuple #[.string (str (shownV key p)), .int .i64 0]) (by simp [results, Try.results11, go_sem]) rfl ⟨by rw [HV.out, HE0.out], b1⟩
  · have HV : Hid (checkV wd root key p = []) := by show _ = _; unfold checkV; rw [if_neg h0]
    go_wp2
    exact bodyPost_ret (v := .tuple #[.string (str []), .int .i64 (shownE wd root key p)]) (by simp [results, Try.results11, go_sem]) rfl ⟨by rw [HV.out], b1⟩

set_option maxRecDepth 8000 in
set_option maxHeartbeats 3200000 in
theorem clash_any (wd root : Int) (key : Key) (lp lq : Option Addr) (cp cq : Nat) (p q : Pf) (w : World) (hw : okW wd) (hk : key.length ≤ 32) (hp : PfIn w lp cp p) (hq : PfIn w lq cq q) (hl : p.tu.length ≤ 1000000) (hs1 : p.key.length ≤ 1000000) (hs2 : p.val.length ≤ 1000000) (hl' : q.tu.length ≤ 1000000) (hs1' : q.key.length ≤ 1000000) (hs2' : q.val.length ≤ 1000000)
    (e1 : shownE wd root key p = 0) (e2 : shownE wd root key q = 0) (hne : shownV key p ≠ shownV key q) :
    Calls Try.prog 14 #[.int .i64 wd, .int .u64 root, .string (str key), pfV lp cp p, pfV lq cq q] w fun e w' => ∃ v, e = .returned v ∧ Told3 w' (firstUn (wayP wd p) (wayP wd q)) v ∧ Below w.heap.size w w' := by
  have KP := fun w' hb => shown_any wd root key lp cp p w' hw hk (hp.below hb) hl hs1 hs2
  have KQ := fun w' hb => shown_any wd root key lq cq q w' hw hk (hq.below hb) hl' hs1' hs2'
  unfold pfV at KP KQ ⊢
  obtain ⟨wA, HwA⟩ : ∃ x, Hid (x = (((w.alloc (.cells #[.slice lp p.tu.length cp, .bool p.leaf, .string (str p.key), .string (str p.val)] 25)).alloc (.cells #[.slice lq q.tu.length cq, .bool q.leaf, .string (str q.key), .string (str q.val)] 25)).alloc (.cells #[.int .i64 0, .slice none 0 0] 47)).alloc (.cells #[.int .i64 0, .slice none 0 0] 47)) := ⟨_, rfl⟩
  have bA : Below w.heap.size w wA := by rw [HwA.out]; exact ((((Below.refl _ _).alloc (Nat.le_refl _) _).alloc (by simp) _).alloc (by simp; omega) _).alloc (by simp; omega) _
  have kQ : Blk wA (w.heap.size + 1) #[.slice lq q.tu.length cq, .bool q.leaf, .string (str q.key), .string (str q.val)] 25 := by
    rw [HwA.out]
    have h0 := ((Blk.new (w.alloc (.cells #[.slice lp p.tu.length cp, .bool p.leaf, .string (str p.key), .string (str p.val)] 25)) #[.slice lq q.tu.length cq, .bool q.leaf, .string (str q.key), .string (str q.val)] 25).alloc (.cells #[.int .i64 0, .slice none 0 0] 47)).alloc (.cells #[.int .i64 0, .slice none 0 0] 47)
    simp only [World.size_alloc] at h0
    exact h0
  have kR1 : Blk wA (w.heap.size + 2) #[.int .i64 0, .slice none 0 0] 47 := by
    rw [HwA.out]
    have h0 := (Blk.new ((w.alloc (.cells #[.slice lp p.tu.length cp, .bool p.leaf, .string (str p.key), .string (str p.val)] 25)).alloc (.cells #[.slice lq q.tu.length cq, .bool q.leaf, .string (str q.key), .string (str q.val)] 25)) #[.int .i64 0, .slice none 0 0] 47).alloc (.cells #[.int .i64 0, .slice none 0 0] 47)
    simp only [World.size_alloc] at h0
    exact h0
  have kR2 : Blk wA (w.heap.size + 3) #[.int .i64 0, .slice none 0 0] 47 := by
    rw [HwA.out]
    have h0 := Blk.new (((w.alloc (.cells #[.slice lp p.tu.length cp, .bool p.leaf, .string (str p.key), .string (str p.val)] 25)).alloc (.cells #[.slice lq q.tu.length cq, .bool q.leaf, .string (str q.key), .string (str q.val)] 25)).alloc (.cells #[.int .i64 0, .slice none 0 0] 47)) #[.int .i64 0, .slice none 0 0] 47
    simp only [World.size_alloc] at h0
    exact h0
  go_enter Try.func14, Try.ntmps14
  go_wp2_with fail
  rw [← HwA.out]
  refine (KP wA bA).mono ?_
  rintro e w1 ⟨b1, ⟨_, v1, E1, rfl, hI1, hM1, hfr1⟩ | ⟨h0, _⟩⟩
  rotate_left
  · exact absurd e1 h0
  have k1 := kQ.below b1 kQ.lt
  have c0 := (k1.cell 0).trans rfl
  have c1 := (k1.cell 1).trans rfl
  have c2 := (k1.cell 2).trans rfl
  have c3 := (k1.cell 3).trans rfl
  have z1 := k1.lt
  have B1 := bA.trans (b1.mono bA.size)
  simp only [Nat.add_assoc, Nat.reduceAdd]
  go_wp2_with fail
  refine (KQ w1 B1).mono ?_
  rintro e w2 ⟨b2, ⟨_, v2, E2, rfl, hI2, hM2, hfr2⟩ | ⟨h0, _⟩⟩
  rotate_left
  · exact absurd e2 h0
  have B2 := B1.trans (b2.mono B1.size)
  have hJ1 := hI1.below b2
  have s1 := str_toList (shownV key p)
  have s2 := str_toList (shownV key q)
  have hnb : (shownV key p == shownV key q) = false := by simpa using hne
  have r1 := (kR1.below b1 kR1.lt).below b2 (Nat.lt_of_lt_of_le kR1.lt b1.size)
  have r2 := (kR2.below b1 kR2.lt).below b2 (Nat.lt_of_lt_of_le kR2.lt b1.size)
  obtain ⟨_, g1, cg1, cur1, rfl, _, _, _, _⟩ := id hJ1
  obtain ⟨_, g2, cg2, cur2, rfl, _, _, _, _⟩ := id hI2
  have sA : wA.heap.size = w.heap.size + 4 := by rw [HwA.out]; simp
  have fr1 : w.heap.size + 4 ≤ g1 := by have := hfr1 g1 _ _ rfl; omega
  have fr2 : w.heap.size + 4 ≤ g2 := by have := hfr2 g2 _ _ rfl; have := b1.size; omega
  clear KP KQ c0 c1 c2 c3 k1 kQ kR1 kR2 HwA hI1 e1 e2 hne hfr1 hfr2 sA
  have hlen1 : E1.length = (wayP wd p).length := by rw [← hM1]; simp
  have hlen2 : E2.length = (wayP wd q).length := by rw [← hM2]; simp
  have HL1 := show Hid (_ = _) from hlen1
  have HL2 := show Hid (_ = _) from hlen2
  have HM1 := show Hid (_ = _) from hM1
  have HM2 := show Hid (_ = _) from hM2
  have hc1 : E1.length ≤ 4611686018427387904 := by have := wayP_len wd p; omega
  have hc2 : E2.length ≤ 4611686018427387904 := by have := wayP_len wd q; omega
  have zg1 : E1.length = 0 ∨ g1 < w2.heap.size := by
    by_cases h0 : 0 < E1.length
    · obtain ⟨g, c, e, hg, _⟩ := hJ1.at 0 h0
      injection e with e _ _; injection e with e; injection e with e _
      exact .inr (by omega)
    · exact .inl (by omega)
  clear hlen1 hlen2 hM1 hM2 b1 b2 B1 bA hp hq
  by_cases hmn : E2.length < E1.length
  · go_wp2_with fail
    have HU0 : Hid (firstUn (wayP wd p) (wayP wd q) = firstUn ((wayP wd p).drop 0) ((wayP wd q).drop 0)) := rfl
    go_loopw [56] (fun iv wv => ∃ k : Nat, k ≤ E2.length ∧ iv = .int .i64 k ∧ Hid (firstUn (wayP wd p) (wayP wd q) = firstUn ((wayP wd p).drop k) ((wayP wd q).drop k)) ∧ Below w2.heap.size w2 wv) (fun iv _ => E2.length - (intOf iv).toNat)
    case atStart => exact ⟨0, Nat.zero_le _, rfl, HU0, Below.refl _ _⟩
    case round =>
      obtain ⟨k, hk0, rfl, HU, hbw⟩ := hrel
      clear HU0
      by_cases hlt : k < E2.length
      · have hlt' : (k : Int) < (E2.length : Int) := by omega
        have hk1 : k < E1.length := by omega
        have hk2 : k < E2.length := by omega
        have hk1' : (k : Int) < (E1.length : Int) := by omega
        have hk2' : (k : Int) < (E2.length : Int) := by omega
        have hW1 := hJ1.below hbw
        have hW2 := hI2.below hbw
        obtain ⟨_, _, ea, zA, D1', D2'⟩ := hW1.at k hk1
        obtain ⟨_, _, eb, zB, D3', D4'⟩ := hW2.at k hk2
        injection ea with ea _ _; injection ea with ea; injection ea with ea _
        injection eb with eb _ _; injection eb with eb; injection eb with eb _
        subst ea
        subst eb
        have hs1 := hW1.1 _ (List.getElem_mem hk1)
        have hs2 := hW2.1 _ (List.getElem_mem hk2)
        obtain ⟨⟨t1, a1, n1, ss1⟩, ex1⟩ : ∃ x, E1[k] = x := ⟨_, rfl⟩
        obtain ⟨⟨t2, a2, n2, ss2⟩, ex2⟩ : ∃ x, E2[k] = x := ⟨_, rfl⟩
        have hi1 : (wayP wd p)[k]? = some (t1, ss1) := by rw [← HM1.out, List.getElem?_map, List.getElem?_eq_getElem hk1, ex1]; rfl
        have hi2 : (wayP wd q)[k]? = some (t2, ss2) := by rw [← HM2.out, List.getElem?_map, List.getElem?_eq_getElem hk2, ex2]; rfl
        have HF := fu_of (wayP wd p) (wayP wd q) k _ _ hi1 hi2
        rw [← HU.out] at HF
        rw [ex1] at D1' D2' hs1
        rw [ex2] at D3' D4' hs2
        simp only at D1' D2' D3' D4' hs1 hs2
        have HFU := show Hid (_ = _) from HF
        have D1 : ∀ w', Below wr.heap.size wr w' → w'.cell? ⟨g1, k * 2, none⟩ = some (.int .i64 t1) := fun w' hb => (hb.cell (p := ⟨g1, k * 2, none⟩) zA).trans D1'
        have D2 : ∀ w', Below wr.heap.size wr w' → w'.cell? ⟨g1, k * 2 + 1, none⟩ = some (.slice a1 ss1.length n1) := fun w' hb => (hb.cell (p := ⟨g1, k * 2 + 1, none⟩) zA).trans D2'
        have D3 : ∀ w', Below wr.heap.size wr w' → w'.cell? ⟨g2, k * 2, none⟩ = some (.int .i64 t2) := fun w' hb => (hb.cell (p := ⟨g2, k * 2, none⟩) zB).trans D3'
        have D4 : ∀ w', Below wr.heap.size wr w' → w'.cell? ⟨g2, k * 2 + 1, none⟩ = some (.slice a2 ss2.length n2) := fun w' hb => (hb.cell (p := ⟨g2, k * 2 + 1, none⟩) zB).trans D4'
        have KE : ∀ w', Below wr.heap.size wr w' → Calls Try.prog 31 #[.slice a1 ss1.length n1, .slice a2 ss2.length n2] w' fun e w'' => e = .returned (.bool (decide (ss1 = ss2))) ∧ Below w'.heap.size w' w'' := fun w' hb => equal_any a1 a2 n1 n2 ss1 ss2 w' (hs1.1.below hb) (hs2.1.below hb) (by omega) (by omega)
        have hHeld : Below wr.heap.size wr wr.drew := (Below.refl _ _).drew
        clear HF HU hi1 hi2 ex1 ex2 D1' D2' D3' D4' hW1 hW2
        by_cases htt : t1 = t2
        · have htb : (t1 != t2) = false := by simp [htt]
          go_upto_region 8 with fail
          refine wp_region_held (S := fun w' => Below wr.heap.size wr w') (by kernel_rfl) ?_
          refine wpAnyH_take (i := 0) (v := ?_) rfl (by kernel_rfl) (by kernel_rfl) (by kernel_rfl) (fun _ _ _ h => h) (Or.inl ⟨by kernel_rfl, ?_⟩) (by assumption) ?_
          rotate_left
          · intro w' hSw
            have y1 := D1 _ hSw
            have y2 := D2 _ hSw
            have y3 := D3 _ hSw
            have y4 := D4 _ hSw
            go_simp
            try (with_reducible rfl)
          simp only [Act.put, List.getElem_toArray, List.getElem_cons_succ, List.getElem_cons_zero, List.setIfInBounds_toArray, List.set_cons_zero, List.set_cons_succ]
          refine wpAnyH_take (i := 1) (v := ?_) rfl (by kernel_rfl) (by kernel_rfl) (by kernel_rfl) (fun _ _ _ h => h) (Or.inl ⟨by kernel_rfl, ?_⟩) (by assumption) ?_
          rotate_left
          · intro w' hSw
            have y1 := D1 _ hSw
            have y2 := D2 _ hSw
            have y3 := D3 _ hSw
            have y4 := D4 _ hSw
            go_simp
            try (with_reducible rfl)
          simp only [Act.put, List.getElem_toArray, List.getElem_cons_succ, List.getElem_cons_zero, List.setIfInBounds_toArray, List.set_cons_zero, List.set_cons_succ]
          refine wpAnyH_take (i := 2) (v := ?_) rfl (by kernel_rfl) (by kernel_rfl) (by kernel_rfl) (fun _ _ _ h => h) (Or.inl ⟨by kernel_rfl, ?_⟩) (by assumption) ?_
          rotate_left
          · intro w' hSw
            have y1 := D1 _ hSw
            have y2 := D2 _ hSw
            have y3 := D3 _ hSw
            have y4 := D4 _ hSw
            go_simp
            try (with_reducible rfl)
          simp only [Act.put, List.getElem_toArray, List.getElem_cons_succ, List.getElem_cons_zero, List.setIfInBounds_toArray, List.set_cons_zero, List.set_cons_succ]
          refine wpAnyH_take (i := 3) (v := ?_) rfl (by kernel_rfl) (by kernel_rfl) (by kernel_rfl) (fun _ _ _ h => h) (Or.inl ⟨by kernel_rfl, ?_⟩) (by assumption) ?_
          rotate_left
          · intro w' hSw
            have y1 := D1 _ hSw
            have y2 := D2 _ hSw
            have y3 := D3 _ hSw
            have y4 := D4 _ hSw
            go_simp
            try (with_reducible rfl)
          simp only [Act.put, List.getElem_toArray, List.getElem_cons_succ, List.getElem_cons_zero, List.setIfInBounds_toArray, List.set_cons_zero, List.set_cons_succ]
          refine wpAnyH_take (i := 4) (v := ?_) rfl (by kernel_rfl) (by kernel_rfl) (by kernel_rfl) (fun _ _ _ h => h) (Or.inl ⟨by kernel_rfl, ?_⟩) (by assumption) ?_
          rotate_left
          · intro w' hSw
            have y1 := D1 _ hSw
            have y2 := D2 _ hSw
            have y3 := D3 _ hSw
            have y4 := D4 _ hSw
            go_simp
            try (with_reducible rfl)
          simp only [Act.put, List.getElem_toArray, List.getElem_cons_succ, List.getElem_cons_zero, List.setIfInBounds_toArray, List.set_cons_zero, List.set_cons_succ]
          refine wpAnyH_take (i := 5) (v := ?_) rfl (by kernel_rfl) (by kernel_rfl) (by kernel_rfl) (fun _ _ _ h => h) (Or.inl ⟨by kernel_rfl, ?_⟩) (by assumption) ?_
          rotate_left
          · intro w' hSw
            have y1 := D1 _ hSw
            have y2 := D2 _ hSw
            have y3 := D3 _ hSw
            have y4 := D4 _ hSw
            go_simp
            try (with_reducible rfl)
          simp only [Act.put, List.getElem_toArray, List.getElem_cons_succ, List.getElem_cons_zero, List.setIfInBounds_toArray, List.set_cons_zero, List.set_cons_succ]
          refine wpAnyH_take (i := 6) (v := ?_) rfl (by kernel_rfl) (by kernel_rfl) (by kernel_rfl) (fun _ _ _ h => h) (Or.inl ⟨by kernel_rfl, ?_⟩) (by assumption) ?_
          rotate_left
          · intro w' hSw
            have y1 := D1 _ hSw
            have y2 := D2 _ hSw
            have y3 := D3 _ hSw
            have y4 := D4 _ hSw
            go_simp
            try (with_reducible rfl)
          simp only [Act.put, List.getElem_toArray, List.getElem_cons_succ, List.getElem_cons_zero, List.setIfInBounds_toArray, List.set_cons_zero, List.set_cons_succ]
          refine wpAnyH_take (i := 7) (v := ?_) rfl (by kernel_rfl) (by kernel_rfl) (by kernel_rfl) (fun _ _ _ h => h) (Or.inl ⟨by kernel_rfl, ?_⟩) (by assumption) ?_
          rotate_left
          · intro w' hSw
            have y1 := D1 _ hSw
            have y2 := D2 _ hSw
            have y3 := D3 _ hSw
            have y4 := D4 _ hSw
            go_simp
            try (with_reducible rfl)
          simp only [Act.put, List.getElem_toArray, List.getElem_cons_succ, List.getElem_cons_zero, List.setIfInBounds_toArray, List.set_cons_zero, List.set_cons_succ]
          refine wpAnyH_take (i := 8) (v := ?_) rfl (by kernel_rfl) (by kernel_rfl) (by kernel_rfl) (fun _ _ _ h => h) (Or.inl ⟨by kernel_rfl, ?_⟩) (by assumption) ?_
          rotate_left
          · intro w' hSw
            have y1 := D1 _ hSw
            have y2 := D2 _ hSw
            have y3 := D3 _ hSw
            have y4 := D4 _ hSw
            go_simp
            try (with_reducible rfl)
          simp only [Act.put, List.getElem_toArray, List.getElem_cons_succ, List.getElem_cons_zero, List.setIfInBounds_toArray, List.set_cons_zero, List.set_cons_succ]
          refine wpAnyH_take (i := 9) (v := ?_) rfl (by kernel_rfl) (by kernel_rfl) (by kernel_rfl) (fun _ _ _ h => h) (Or.inl ⟨by kernel_rfl, ?_⟩) (by assumption) ?_
          rotate_left
          · intro w' hSw
            have y1 := D1 _ hSw
            have y2 := D2 _ hSw
            have y3 := D3 _ hSw
            have y4 := D4 _ hSw
            go_simp
            try (with_reducible rfl)
          simp only [Act.put, List.getElem_toArray, List.getElem_cons_succ, List.getElem_cons_zero, List.setIfInBounds_toArray, List.set_cons_zero, List.set_cons_succ]
          refine wpAnyH_take (i := 10) (v := .bool false) rfl (by kernel_rfl) (by kernel_rfl) (by kernel_rfl) (fun _ _ _ h => h) (Or.inl ⟨by kernel_rfl, ?_⟩) (by assumption) ?_
          · intro w' hSw
            have y1 := D1 _ hSw
            have y2 := D2 _ hSw
            have y3 := D3 _ hSw
            have y4 := D4 _ hSw
            go_simp
            try (with_reducible rfl)
          simp only [Act.put, List.getElem_toArray, List.getElem_cons_succ, List.getElem_cons_zero, List.setIfInBounds_toArray, List.set_cons_zero, List.set_cons_succ]
          refine wpAnyH_take (i := 11) (v := .bool false) rfl (by kernel_rfl) (by kernel_rfl) (by kernel_rfl) (fun _ _ _ h => h) (Or.inl ⟨by kernel_rfl, ?_⟩) (by assumption) ?_
          · intro w' hSw
            have y1 := D1 _ hSw
            have y2 := D2 _ hSw
            have y3 := D3 _ hSw
            have y4 := D4 _ hSw
            go_simp
            try (with_reducible rfl)
          simp only [Act.put, List.getElem_toArray, List.getElem_cons_succ, List.getElem_cons_zero, List.setIfInBounds_toArray, List.set_cons_zero, List.set_cons_succ]
          refine wpAnyH_take (i := 12) (v := ?_) rfl (by kernel_rfl) (by kernel_rfl) (by kernel_rfl) (fun _ _ _ h => h) (Or.inl ⟨by kernel_rfl, ?_⟩) (by assumption) ?_
          rotate_left
          · intro w' hSw
            have y1 := D1 _ hSw
            have y2 := D2 _ hSw
            have y3 := D3 _ hSw
            have y4 := D4 _ hSw
            go_simp
            try (with_reducible rfl)
          simp only [Act.put, List.getElem_toArray, List.getElem_cons_succ, List.getElem_cons_zero, List.setIfInBounds_toArray, List.set_cons_zero, List.set_cons_succ]
          refine wpAnyH_take (i := 13) (v := ?_) rfl (by kernel_rfl) (by kernel_rfl) (by kernel_rfl) (fun _ _ _ h => h) (Or.inl ⟨by kernel_rfl, ?_⟩) (by assumption) ?_
          rotate_left
          · intro w' hSw
            have y1 := D1 _ hSw
            have y2 := D2 _ hSw
            have y3 := D3 _ hSw
            have y4 := D4 _ hSw
            go_simp
            try (with_reducible rfl)
          simp only [Act.put, List.getElem_toArray, List.getElem_cons_succ, List.getElem_cons_zero, List.setIfInBounds_toArray, List.set_cons_zero, List.set_cons_succ]
          refine wpAnyH_take (i := 14) (v := ?_) rfl (by kernel_rfl) (by kernel_rfl) (by kernel_rfl) (fun _ _ _ h => h) (Or.inl ⟨by kernel_rfl, ?_⟩) (by assumption) ?_
          rotate_left
          · intro w' hSw
            have y1 := D1 _ hSw
            have y2 := D2 _ hSw
            have y3 := D3 _ hSw
            have y4 := D4 _ hSw
            go_simp
            try (with_reducible rfl)
          simp only [Act.put, List.getElem_toArray, List.getElem_cons_succ, List.getElem_cons_zero, List.setIfInBounds_toArray, List.set_cons_zero, List.set_cons_succ]
          refine wpAnyH_take (i := 15) (v := ?_) rfl (by kernel_rfl) (by kernel_rfl) (by kernel_rfl) (fun _ _ _ h => h) (Or.inl ⟨by kernel_rfl, ?_⟩) (by assumption) ?_
          rotate_left
          · intro w' hSw
            have y1 := D1 _ hSw
            have y2 := D2 _ hSw
            have y3 := D3 _ hSw
            have y4 := D4 _ hSw
            go_simp
            try (with_reducible rfl)
          simp only [Act.put, List.getElem_toArray, List.getElem_cons_succ, List.getElem_cons_zero, List.setIfInBounds_toArray, List.set_cons_zero, List.set_cons_succ]
          refine wpAnyH_take (i := 16) (v := ?_) rfl (by kernel_rfl) (by kernel_rfl) (by kernel_rfl) (fun _ _ _ h => h) (Or.inl ⟨by kernel_rfl, ?_⟩) (by assumption) ?_
          rotate_left
          · intro w' hSw
            have y1 := D1 _ hSw
            have y2 := D2 _ hSw
            have y3 := D3 _ hSw
            have y4 := D4 _ hSw
            go_simp
            try (with_reducible rfl)
          simp only [Act.put, List.getElem_toArray, List.getElem_cons_succ, List.getElem_cons_zero, List.setIfInBounds_toArray, List.set_cons_zero, List.set_cons_succ]
          refine wpAnyH_take (i := 17) (v := ?_) rfl (by kernel_rfl) (by kernel_rfl) (by kernel_rfl) (fun _ _ _ h => h) (Or.inl ⟨by kernel_rfl, ?_⟩) (by assumption) ?_
          rotate_left
          · intro w' hSw
            have y1 := D1 _ hSw
            have y2 := D2 _ hSw
            have y3 := D3 _ hSw
            have y4 := D4 _ hSw
            go_simp
            try (with_reducible rfl)
          simp only [Act.put, List.getElem_toArray, List.getElem_cons_succ, List.getElem_cons_zero, List.setIfInBounds_toArray, List.set_cons_zero, List.set_cons_succ]
          refine wpAnyH_take (i := 18) (v := ?_) rfl (by kernel_rfl) (by kernel_rfl) (by kernel_rfl) (fun _ _ _ h => h) (Or.inl ⟨by kernel_rfl, ?_⟩) (by assumption) ?_
          rotate_left
          · intro w' hSw
            have y1 := D1 _ hSw
            have y2 := D2 _ hSw
            have y3 := D3 _ hSw
            have y4 := D4 _ hSw
            go_simp
            try (with_reducible rfl)
          simp only [Act.put, List.getElem_toArray, List.getElem_cons_succ, List.getElem_cons_zero, List.setIfInBounds_toArray, List.set_cons_zero, List.set_cons_succ]
          refine wpAnyH_take (i := 19) (v := ?_) rfl (by kernel_rfl) (by kernel_rfl) (by kernel_rfl) (fun _ _ _ h => h) (Or.inl ⟨by kernel_rfl, ?_⟩) (by assumption) ?_
          rotate_left
          · intro w' hSw
            have y1 := D1 _ hSw
            have y2 := D2 _ hSw
            have y3 := D3 _ hSw
            have y4 := D4 _ hSw
            go_simp
            try (with_reducible rfl)
          simp only [Act.put, List.getElem_toArray, List.getElem_cons_succ, List.getElem_cons_zero, List.setIfInBounds_toArray, List.set_cons_zero, List.set_cons_succ]
          refine wpAnyH_take (i := 20) (v := ?_) rfl (by kernel_rfl) (by kernel_rfl) (by kernel_rfl) (fun _ _ _ h => h) (Or.inl ⟨by kernel_rfl, ?_⟩) (by assumption) ?_
          rotate_left
          · intro w' hSw
            have y1 := D1 _ hSw
            have y2 := D2 _ hSw
            have y3 := D3 _ hSw
            have y4 := D4 _ hSw
            go_simp
            try (with_reducible rfl)
          simp only [Act.put, List.getElem_toArray, List.getElem_cons_succ, List.getElem_cons_zero, List.setIfInBounds_toArray, List.set_cons_zero, List.set_cons_succ]
          refine wpAnyH_take (i := 21) (v := ?_) rfl (by kernel_rfl) (by kernel_rfl) (by kernel_rfl) (fun _ _ _ h => h) (Or.inl ⟨by kernel_rfl, ?_⟩) (by assumption) ?_
          rotate_left
          · intro w' hSw
            have y1 := D1 _ hSw
            have y2 := D2 _ hSw
            have y3 := D3 _ hSw
            have y4 := D4 _ hSw
            go_simp
            try (with_reducible rfl)
          simp only [Act.put, List.getElem_toArray, List.getElem_cons_succ, List.getElem_cons_zero, List.setIfInBounds_toArray, List.set_cons_zero, List.set_cons_succ]
          refine wpAnyH_ready (rs := [22]) (by kernel_rfl) (by simp) ?_
          refine AllReadyH.cons rfl (fun K hK => ?_) AllReadyH.nil
          go_simp
          refine (KE _ (by assumption)).mono ?_
          rintro e w5 ⟨rfl, b5⟩
          have hN : Below wr.heap.size wr w5 := hHeld.trans (b5.mono hHeld.size)
          refine hK.out _ _ hN (fun _ => ?_)
          clear hK K
          try simp only [Act.put, List.getElem_toArray, List.getElem_cons_succ, List.getElem_cons_zero, List.setIfInBounds_toArray, List.set_cons_zero, List.set_cons_succ]
          refine wpAnyH_take (i := 23) (v := ?_) rfl (by kernel_rfl) (by kernel_rfl) (by kernel_rfl) (fun _ _ _ h => h) (Or.inl ⟨by kernel_rfl, ?_⟩) (by assumption) ?_
          rotate_left
          · intro w' hSw
            have y1 := D1 _ hSw
            have y2 := D2 _ hSw
            have y3 := D3 _ hSw
            have y4 := D4 _ hSw
            go_simp
            try (with_reducible rfl)
          simp only [Act.put, List.getElem_toArray, List.getElem_cons_succ, List.getElem_cons_zero, List.setIfInBounds_toArray, List.set_cons_zero, List.set_cons_succ]
          refine wpAnyH_take (i := 24) (v := ?_) rfl (by kernel_rfl) (by kernel_rfl) (by kernel_rfl) (fun _ _ _ h => h) (Or.inl ⟨by kernel_rfl, ?_⟩) (by assumption) ?_
          rotate_left
          · intro w' hSw
            have y1 := D1 _ hSw
            have y2 := D2 _ hSw
            have y3 := D3 _ hSw
            have y4 := D4 _ hSw
            go_simp
            try (with_reducible rfl)
          simp only [Act.put, List.getElem_toArray, List.getElem_cons_succ, List.getElem_cons_zero, List.setIfInBounds_toArray, List.set_cons_zero, List.set_cons_succ]
          refine wpAnyH_done (by kernel_rfl) ?_ _
          by_cases hss : ss1 = ss2
          · have HN2 : Hid (firstUn (wayP wd p) (wayP wd q) = firstUn ((wayP wd p).drop (k + 1)) ((wayP wd q).drop (k + 1))) := by
              show _ = _
              rw [HFU.out, htt, hss, if_pos rfl]
            have hsd : decide (ss1 = ss2) = true := decide_eq_true hss
            rw [hsd]
            clear HFU D1 D2 D3 D4 KE hsd hss
            go_wp2
            exact ⟨⟨_, _, _, ⟨k + 1, by omega, rfl, HN2, hbw.trans (hN.mono hbw.size)⟩, rfl, rfl, by go_num⟩, by simp [intOf]; omega⟩
          · have HN2 : Hid (firstUn (wayP wd p) (wayP wd q) = some ((t1, ss1), (t2, ss2))) := by
              show _ = _
              rw [HFU.out, if_neg (by intro e0; exact hss (Prod.mk.inj e0).2)]
            have hsd : decide (ss1 = ss2) = false := decide_eq_false hss
            rw [hsd]
            clear htt htb
            have wS := hN
            generalize w5 = wX at *
            have d1 := D1 wX wS
            have d2 := D2 wX wS
            have d3 := D3 wX wS
            have d4 := D4 wX wS
            have hBX := hbw.trans (wS.mono hbw.size)
            have rX1 := r1.below hBX r1.lt
            have rX2 := r2.below hBX r2.lt
            have p0 := (rX1.cell 0).trans rfl
            have p1 := (rX1.cell 1).trans rfl
            have p2 := (rX2.cell 0).trans rfl
            have p3 := (rX2.cell 1).trans rfl
            have f0 := rX1.frozen 0
            have f1 := rX1.frozen 1
            have f2 := rX2.frozen 0
            have f3 := rX2.frozen 1
            have zr1 := rX1.lt
            have zr2 := rX2.lt
            have zX1 := Nat.lt_of_lt_of_le zA wS.size
            have zX2 := Nat.lt_of_lt_of_le zB wS.size
            have ne1 : g1 ≠ w.heap.size + 2 := by omega
            have ne2 : g1 ≠ w.heap.size + 3 := by omega
            have ne3 : g2 ≠ w.heap.size + 2 := by omega
            have ne4 : g2 ≠ w.heap.size + 3 := by omega
            clear HFU D1 D2 D3 D4 KE
            have hq1 := hs1.1.below wS
            have hq2 := hs2.1.below wS
            go_upto_region 9 with fail
            go_region
            have u1 := (rX1.set 0 (.int .i64 t1)).set 1 (.slice a1 ss1.length n1)
            have u2 := (rX2.setOther ⟨w.heap.size + 2, 0, none⟩ (by show w.heap.size + 3 ≠ w.heap.size + 2; omega) (.int .i64 t1)).setOther ⟨w.heap.size + 2, 1, none⟩ (by show w.heap.size + 3 ≠ w.heap.size + 2; omega) (.slice a1 ss1.length n1)
            have x1 := strs_seti (strs_seti hq1 rX1 (.int .i64 t1) (.slice a1 ss1.length n1)) u2 (.int .i64 t2) (.slice a2 ss2.length n2)
            have x2 := strs_seti (strs_seti hq2 rX1 (.int .i64 t1) (.slice a1 ss1.length n1)) u2 (.int .i64 t2) (.slice a2 ss2.length n2)
            have v1 := ((u1.setOther ⟨w.heap.size + 3, 0, none⟩ (by show w.heap.size + 2 ≠ w.heap.size + 3; omega) (.int .i64 t2)).setOther ⟨w.heap.size + 3, 1, none⟩ (by show w.heap.size + 2 ≠ w.heap.size + 3; omega) (.slice a2 ss2.length n2)).drew
            have v2 := ((u2.set 0 (.int .i64 t2)).set 1 (.slice a2 ss2.length n2)).drew
            have hBw := B2.trans (hBX.mono B2.size)
            have hBF := ((((hBw.setCell (p := ⟨w.heap.size + 2, 0, none⟩) (by show w.heap.size ≤ w.heap.size + 2; omega) (.int .i64 t1)).setCell (p := ⟨w.heap.size + 2, 1, none⟩) (by show w.heap.size ≤ w.heap.size + 2; omega) (.slice a1 ss1.length n1)).setCell (p := ⟨w.heap.size + 3, 0, none⟩) (by show w.heap.size ≤ w.heap.size + 3; omega) (.int .i64 t2)).setCell (p := ⟨w.heap.size + 3, 1, none⟩) (by show w.heap.size ≤ w.heap.size + 3; omega) (.slice a2 ss2.length n2)).drew
            have X1 := x1.below ((Below.refl _ _).drew)
            have X2 := x2.below ((Below.refl _ _).drew)
            clear p0 p1 p2 p3 f0 f1 f2 f3 d1 d2 d3 d4 u1 u2 x1 x2
            generalize ((((wX.setCell ⟨w.heap.size + 2, 0, none⟩ (.int .i64 t1)).setCell ⟨w.heap.size + 2, 1, none⟩ (.slice a1 ss1.length n1)).setCell ⟨w.heap.size + 3, 0, none⟩ (.int .i64 t2)).setCell ⟨w.heap.size + 3, 1, none⟩ (.slice a2 ss2.length n2)).drew = wF at *
            have p0 := (v1.cell 0).trans rfl
            have p1 := (v1.cell 1).trans rfl
            have p2 := (v2.cell 0).trans rfl
            have p3 := (v2.cell 1).trans rfl
            have zz1 := v1.lt
            have zz2 := v2.lt
            go_wp2
            exact bodyPost_ret (v := .tuple #[.agg #[.int .i64 t1, .slice a1 ss1.length n1], .agg #[.int .i64 t2, .slice a2 ss2.length n2], .bool true]) (by simp [results, Try.results14, go_sem, p0, p1, p2, p3, zz1, zz2]) rfl ⟨_, rfl, ⟨t1, t2, ss1, ss2, a1, a2, n1, n2, by rw [HN2.out]; rfl, X1, X2, hs1.2, hs2.2, by rw [HN2.out]; rfl⟩, hBF⟩
        · have htb : (t1 != t2) = true := by simpa using htt
          go_upto_region 8 with fail
          refine wp_region_held (S := fun w' => Below wr.heap.size wr w') (by kernel_rfl) ?_
          refine wpAnyH_take (i := 0) (v := ?_) rfl (by kernel_rfl) (by kernel_rfl) (by kernel_rfl) (fun _ _ _ h => h) (Or.inl ⟨by kernel_rfl, ?_⟩) (by assumption) ?_
          rotate_left
          · intro w' hSw
            have y1 := D1 _ hSw
            have y2 := D2 _ hSw
            have y3 := D3 _ hSw
            have y4 := D4 _ hSw
            go_simp
            try (with_reducible rfl)
          simp only [Act.put, List.getElem_toArray, List.getElem_cons_succ, List.getElem_cons_zero, List.setIfInBounds_toArray, List.set_cons_zero, List.set_cons_succ]
          refine wpAnyH_take (i := 1) (v := ?_) rfl (by kernel_rfl) (by kernel_rfl) (by kernel_rfl) (fun _ _ _ h => h) (Or.inl ⟨by kernel_rfl, ?_⟩) (by assumption) ?_
          rotate_left
          · intro w' hSw
            have y1 := D1 _ hSw
            have y2 := D2 _ hSw
            have y3 := D3 _ hSw
            have y4 := D4 _ hSw
            go_simp
            try (with_reducible rfl)
          simp only [Act.put, List.getElem_toArray, List.getElem_cons_succ, List.getElem_cons_zero, List.setIfInBounds_toArray, List.set_cons_zero, List.set_cons_succ]
          refine wpAnyH_take (i := 2) (v := ?_) rfl (by kernel_rfl) (by kernel_rfl) (by kernel_rfl) (fun _ _ _ h => h) (Or.inl ⟨by kernel_rfl, ?_⟩) (by assumption) ?_
          rotate_left
          · intro w' hSw
            have y1 := D1 _ hSw
            have y2 := D2 _ hSw
            have y3 := D3 _ hSw
            have y4 := D4 _ hSw
            go_simp
            try (with_reducible rfl)
          simp only [Act.put, List.getElem_toArray, List.getElem_cons_succ, List.getElem_cons_zero, List.setIfInBounds_toArray, List.set_cons_zero, List.set_cons_succ]
          refine wpAnyH_take (i := 3) (v := ?_) rfl (by kernel_rfl) (by kernel_rfl) (by kernel_rfl) (fun _ _ _ h => h) (Or.inl ⟨by kernel_rfl, ?_⟩) (by assumption) ?_
          rotate_left
          · intro w' hSw
            have y1 := D1 _ hSw
            have y2 := D2 _ hSw
            have y3 := D3 _ hSw
            have y4 := D4 _ hSw
            go_simp
            try (with_reducible rfl)
          simp only [Act.put, List.getElem_toArray, List.getElem_cons_succ, List.getElem_cons_zero, List.setIfInBounds_toArray, List.set_cons_zero, List.set_cons_succ]
          refine wpAnyH_take (i := 4) (v := ?_) rfl (by kernel_rfl) (by kernel_rfl) (by kernel_rfl) (fun _ _ _ h => h) (Or.inl ⟨by kernel_rfl, ?_⟩) (by assumption) ?_
          rotate_left
          · intro w' hSw
            have y1 := D1 _ hSw
            have y2 := D2 _ hSw
            have y3 := D3 _ hSw
            have y4 := D4 _ hSw
            go_simp
            try (with_reducible rfl)
          simp only [Act.put, List.getElem_toArray, List.getElem_cons_succ, List.getElem_cons_zero, List.setIfInBounds_toArray, List.set_cons_zero, List.set_cons_succ]
          refine wpAnyH_take (i := 5) (v := ?_) rfl (by kernel_rfl) (by kernel_rfl) (by kernel_rfl) (fun _ _ _ h => h) (Or.inl ⟨by kernel_rfl, ?_⟩) (by assumption) ?_
          rotate_left
          · intro w' hSw
            have y1 := D1 _ hSw
            have y2 := D2 _ hSw
            have y3 := D3 _ hSw
            have y4 := D4 _ hSw
            go_simp
            try (with_reducible rfl)
          simp only [Act.put, List.getElem_toArray, List.getElem_cons_succ, List.getElem_cons_zero, List.setIfInBounds_toArray, List.set_cons_zero, List.set_cons_succ]
          refine wpAnyH_take (i := 6) (v := ?_) rfl (by kernel_rfl) (by kernel_rfl) (by kernel_rfl) (fun _ _ _ h => h) (Or.inl ⟨by kernel_rfl, ?_⟩) (by assumption) ?_
          rotate_left
          · intro w' hSw
            have y1 := D1 _ hSw
            have y2 := D2 _ hSw
            have y3 := D3 _ hSw
            have y4 := D4 _ hSw
            go_simp
            try (with_reducible rfl)
          simp only [Act.put, List.getElem_toArray, List.getElem_cons_succ, List.getElem_cons_zero, List.setIfInBounds_toArray, List.set_cons_zero, List.set_cons_succ]
          refine wpAnyH_take (i := 7) (v := ?_) rfl (by kernel_rfl) (by kernel_rfl) (by kernel_rfl) (fun _ _ _ h => h) (Or.inl ⟨by kernel_rfl, ?_⟩) (by assumption) ?_
          rotate_left
          · intro w' hSw
            have y1 := D1 _ hSw
            have y2 := D2 _ hSw
            have y3 := D3 _ hSw
            have y4 := D4 _ hSw
            go_simp
            try (with_reducible rfl)
          simp only [Act.put, List.getElem_toArray, List.getElem_cons_succ, List.getElem_cons_zero, List.setIfInBounds_toArray, List.set_cons_zero, List.set_cons_succ]
          refine wpAnyH_take (i := 8) (v := ?_) rfl (by kernel_rfl) (by kernel_rfl) (by kernel_rfl) (fun _ _ _ h => h) (Or.inl ⟨by kernel_rfl, ?_⟩) (by assumption) ?_
          rotate_left
          · intro w' hSw
            have y1 := D1 _ hSw
            have y2 := D2 _ hSw
            have y3 := D3 _ hSw
            have y4 := D4 _ hSw
            go_simp
            try (with_reducible rfl)
          simp only [Act.put, List.getElem_toArray, List.getElem_cons_succ, List.getElem_cons_zero, List.setIfInBounds_toArray, List.set_cons_zero, List.set_cons_succ]
          refine wpAnyH_take (i := 9) (v := ?_) rfl (by kernel_rfl) (by kernel_rfl) (by kernel_rfl) (fun _ _ _ h => h) (Or.inl ⟨by kernel_rfl, ?_⟩) (by assumption) ?_
          rotate_left
          · intro w' hSw
            have y1 := D1 _ hSw
            have y2 := D2 _ hSw
            have y3 := D3 _ hSw
            have y4 := D4 _ hSw
            go_simp
            try (with_reducible rfl)
          simp only [Act.put, List.getElem_toArray, List.getElem_cons_succ, List.getElem_cons_zero, List.setIfInBounds_toArray, List.set_cons_zero, List.set_cons_succ]
          refine wpAnyH_take (i := 10) (v := .bool true) rfl (by kernel_rfl) (by kernel_rfl) (by kernel_rfl) (fun _ _ _ h => h) (Or.inl ⟨by kernel_rfl, ?_⟩) (by assumption) ?_
          · intro w' hSw
            have y1 := D1 _ hSw
            have y2 := D2 _ hSw
            have y3 := D3 _ hSw
            have y4 := D4 _ hSw
            go_simp
            try (with_reducible rfl)
          simp only [Act.put, List.getElem_toArray, List.getElem_cons_succ, List.getElem_cons_zero, List.setIfInBounds_toArray, List.set_cons_zero, List.set_cons_succ]
          refine wpAnyH_take (i := 11) (v := .bool true) rfl (by kernel_rfl) (by kernel_rfl) (by kernel_rfl) (fun _ _ _ h => h) (Or.inl ⟨by kernel_rfl, ?_⟩) (by assumption) ?_
          · intro w' hSw
            have y1 := D1 _ hSw
            have y2 := D2 _ hSw
            have y3 := D3 _ hSw
            have y4 := D4 _ hSw
            go_simp
            try (with_reducible rfl)
          simp only [Act.put, List.getElem_toArray, List.getElem_cons_succ, List.getElem_cons_zero, List.setIfInBounds_toArray, List.set_cons_zero, List.set_cons_succ]
          refine wpAnyH_take (i := 12) (v := undef) rfl (by kernel_rfl) (by kernel_rfl) (by kernel_rfl) (fun _ _ _ h => h) (Or.inr ⟨by kernel_rfl, rfl⟩) (by assumption) ?_
          simp only [Act.put, List.getElem_toArray, List.getElem_cons_succ, List.getElem_cons_zero, List.setIfInBounds_toArray, List.set_cons_zero, List.set_cons_succ]
          refine wpAnyH_take (i := 13) (v := undef) rfl (by kernel_rfl) (by kernel_rfl) (by kernel_rfl) (fun _ _ _ h => h) (Or.inr ⟨by kernel_rfl, rfl⟩) (by assumption) ?_
          simp only [Act.put, List.getElem_toArray, List.getElem_cons_succ, List.getElem_cons_zero, List.setIfInBounds_toArray, List.set_cons_zero, List.set_cons_succ]
          refine wpAnyH_take (i := 14) (v := undef) rfl (by kernel_rfl) (by kernel_rfl) (by kernel_rfl) (fun _ _ _ h => h) (Or.inr ⟨by kernel_rfl, rfl⟩) (by assumption) ?_
          simp only [Act.put, List.getElem_toArray, List.getElem_cons_succ, List.getElem_cons_zero, List.setIfInBounds_toArray, List.set_cons_zero, List.set_cons_succ]
          refine wpAnyH_take (i := 15) (v := undef) rfl (by kernel_rfl) (by kernel_rfl) (by kernel_rfl) (fun _ _ _ h => h) (Or.inr ⟨by kernel_rfl, rfl⟩) (by assumption) ?_
          simp only [Act.put, List.getElem_toArray, List.getElem_cons_succ, List.getElem_cons_zero, List.setIfInBounds_toArray, List.set_cons_zero, List.set_cons_succ]
          refine wpAnyH_take (i := 16) (v := undef) rfl (by kernel_rfl) (by kernel_rfl) (by kernel_rfl) (fun _ _ _ h => h) (Or.inr ⟨by kernel_rfl, rfl⟩) (by assumption) ?_
          simp only [Act.put, List.getElem_toArray, List.getElem_cons_succ, List.getElem_cons_zero, List.setIfInBounds_toArray, List.set_cons_zero, List.set_cons_succ]
          refine wpAnyH_take (i := 17) (v := undef) rfl (by kernel_rfl) (by kernel_rfl) (by kernel_rfl) (fun _ _ _ h => h) (Or.inr ⟨by kernel_rfl, rfl⟩) (by assumption) ?_
          simp only [Act.put, List.getElem_toArray, List.getElem_cons_succ, List.getElem_cons_zero, List.setIfInBounds_toArray, List.set_cons_zero, List.set_cons_succ]
          refine wpAnyH_take (i := 18) (v := undef) rfl (by kernel_rfl) (by kernel_rfl) (by kernel_rfl) (fun _ _ _ h => h) (Or.inr ⟨by kernel_rfl, rfl⟩) (by assumption) ?_
          simp only [Act.put, List.getElem_toArray, List.getElem_cons_succ, List.getElem_cons_zero, List.setIfInBounds_toArray, List.set_cons_zero, List.set_cons_succ]
          refine wpAnyH_take (i := 19) (v := undef) rfl (by kernel_rfl) (by kernel_rfl) (by kernel_rfl) (fun _ _ _ h => h) (Or.inr ⟨by kernel_rfl, rfl⟩) (by assumption) ?_
          simp only [Act.put, List.getElem_toArray, List.getElem_cons_succ, List.getElem_cons_zero, List.setIfInBounds_toArray, List.set_cons_zero, List.set_cons_succ]
          refine wpAnyH_take (i := 20) (v := undef) rfl (by kernel_rfl) (by kernel_rfl) (by kernel_rfl) (fun _ _ _ h => h) (Or.inr ⟨by kernel_rfl, rfl⟩) (by assumption) ?_
          simp only [Act.put, List.getElem_toArray, List.getElem_cons_succ, List.getElem_cons_zero, List.setIfInBounds_toArray, List.set_cons_zero, List.set_cons_succ]
          refine wpAnyH_take (i := 21) (v := undef) rfl (by kernel_rfl) (by kernel_rfl) (by kernel_rfl) (fun _ _ _ h => h) (Or.inr ⟨by kernel_rfl, rfl⟩) (by assumption) ?_
          simp only [Act.put, List.getElem_toArray, List.getElem_cons_succ, List.getElem_cons_zero, List.setIfInBounds_toArray, List.set_cons_zero, List.set_cons_succ]
          refine wpAnyH_take (i := 22) (v := undef) rfl (by kernel_rfl) (by kernel_rfl) (by kernel_rfl) (fun _ _ _ h => h) (Or.inr ⟨by kernel_rfl, rfl⟩) (by assumption) ?_
          simp only [Act.put, List.getElem_toArray, List.getElem_cons_succ, List.getElem_cons_zero, List.setIfInBounds_toArray, List.set_cons_zero, List.set_cons_succ]
          refine wpAnyH_take (i := 23) (v := undef) rfl (by kernel_rfl) (by kernel_rfl) (by kernel_rfl) (fun _ _ _ h => h) (Or.inr ⟨by kernel_rfl, rfl⟩) (by assumption) ?_
          simp only [Act.put, List.getElem_toArray, List.getElem_cons_succ, List.getElem_cons_zero, List.setIfInBounds_toArray, List.set_cons_zero, List.set_cons_succ]
          refine wpAnyH_take (i := 24) (v := ?_) rfl (by kernel_rfl) (by kernel_rfl) (by kernel_rfl) (fun _ _ _ h => h) (Or.inl ⟨by kernel_rfl, ?_⟩) (by assumption) ?_
          rotate_left
          · intro w' hSw
            have y1 := D1 _ hSw
            have y2 := D2 _ hSw
            have y3 := D3 _ hSw
            have y4 := D4 _ hSw
            go_simp
            try (with_reducible rfl)
          simp only [Act.put, List.getElem_toArray, List.getElem_cons_succ, List.getElem_cons_zero, List.setIfInBounds_toArray, List.set_cons_zero, List.set_cons_succ]
          refine wpAnyH_done (by kernel_rfl) ?_ _
          · have HN2 : Hid (firstUn (wayP wd p) (wayP wd q) = some ((t1, ss1), (t2, ss2))) := by
              show _ = _
              rw [HFU.out, if_neg (by intro e0; exact htt (Prod.mk.inj e0).1)]
            obtain ⟨wX, HwX⟩ : ∃ x, Hid (x = wr.drew) := ⟨_, rfl⟩
            have wS : Below wr.heap.size wr wX := by rw [HwX.out]; exact hHeld
            show Exit.then _ _ _ _ wr.drew
            rw [← HwX.out]
            have d1 := D1 wX wS
            have d2 := D2 wX wS
            have d3 := D3 wX wS
            have d4 := D4 wX wS
            have hBX := hbw.trans (wS.mono hbw.size)
            have rX1 := r1.below hBX r1.lt
            have rX2 := r2.below hBX r2.lt
            have p0 := (rX1.cell 0).trans rfl
            have p1 := (rX1.cell 1).trans rfl
            have p2 := (rX2.cell 0).trans rfl
            have p3 := (rX2.cell 1).trans rfl
            have f0 := rX1.frozen 0
            have f1 := rX1.frozen 1
            have f2 := rX2.frozen 0
            have f3 := rX2.frozen 1
            have zr1 := rX1.lt
            have zr2 := rX2.lt
            have zX1 := Nat.lt_of_lt_of_le zA wS.size
            have zX2 := Nat.lt_of_lt_of_le zB wS.size
            have ne1 : g1 ≠ w.heap.size + 2 := by omega
            have ne2 : g1 ≠ w.heap.size + 3 := by omega
            have ne3 : g2 ≠ w.heap.size + 2 := by omega
            have ne4 : g2 ≠ w.heap.size + 3 := by omega
            clear HFU D1 D2 D3 D4 KE
            have hq1 := hs1.1.below wS
            have hq2 := hs2.1.below wS
            go_upto_region 9 with fail
            go_region
            have u1 := (rX1.set 0 (.int .i64 t1)).set 1 (.slice a1 ss1.length n1)
            have u2 := (rX2.setOther ⟨w.heap.size + 2, 0, none⟩ (by show w.heap.size + 3 ≠ w.heap.size + 2; omega) (.int .i64 t1)).setOther ⟨w.heap.size + 2, 1, none⟩ (by show w.heap.size + 3 ≠ w.heap.size + 2; omega) (.slice a1 ss1.length n1)
            have x1 := strs_seti (strs_seti hq1 rX1 (.int .i64 t1) (.slice a1 ss1.length n1)) u2 (.int .i64 t2) (.slice a2 ss2.length n2)
            have x2 := strs_seti (strs_seti hq2 rX1 (.int .i64 t1) (.slice a1 ss1.length n1)) u2 (.int .i64 t2) (.slice a2 ss2.length n2)
            have v1 := ((u1.setOther ⟨w.heap.size + 3, 0, none⟩ (by show w.heap.size + 2 ≠ w.heap.size + 3; omega) (.int .i64 t2)).setOther ⟨w.heap.size + 3, 1, none⟩ (by show w.heap.size + 2 ≠ w.heap.size + 3; omega) (.slice a2 ss2.length n2)).drew
            have v2 := ((u2.set 0 (.int .i64 t2)).set 1 (.slice a2 ss2.length n2)).drew
            have hBw := B2.trans (hBX.mono B2.size)
            have hBF := ((((hBw.setCell (p := ⟨w.heap.size + 2, 0, none⟩) (by show w.heap.size ≤ w.heap.size + 2; omega) (.int .i64 t1)).setCell (p := ⟨w.heap.size + 2, 1, none⟩) (by show w.heap.size ≤ w.heap.size + 2; omega) (.slice a1 ss1.length n1)).setCell (p := ⟨w.heap.size + 3, 0, none⟩) (by show w.heap.size ≤ w.heap.size + 3; omega) (.int .i64 t2)).setCell (p := ⟨w.heap.size + 3, 1, none⟩) (by show w.heap.size ≤ w.heap.size + 3; omega) (.slice a2 ss2.length n2)).drew
            have X1 := x1.below ((Below.refl _ _).drew)
            have X2 := x2.below ((Below.refl _ _).drew)
            clear p0 p1 p2 p3 f0 f1 f2 f3 d1 d2 d3 d4 u1 u2 x1 x2
            generalize ((((wX.setCell ⟨w.heap.size + 2, 0, none⟩ (.int .i64 t1)).setCell ⟨w.heap.size + 2, 1, none⟩ (.slice a1 ss1.length n1)).setCell ⟨w.heap.size + 3, 0, none⟩ (.int .i64 t2)).setCell ⟨w.heap.size + 3, 1, none⟩ (.slice a2 ss2.length n2)).drew = wF at *
            have p0 := (v1.cell 0).trans rfl
            have p1 := (v1.cell 1).trans rfl
            have p2 := (v2.cell 0).trans rfl
            have p3 := (v2.cell 1).trans rfl
            have zz1 := v1.lt
            have zz2 := v2.lt
            go_wp2
            exact bodyPost_ret (v := .tuple #[.agg #[.int .i64 t1, .slice a1 ss1.length n1], .agg #[.int .i64 t2, .slice a2 ss2.length n2], .bool true]) (by simp [results, Try.results14, go_sem, p0, p1, p2, p3, zz1, zz2]) rfl ⟨_, rfl, ⟨t1, t2, ss1, ss2, a1, a2, n1, n2, by rw [HN2.out]; rfl, X1, X2, hs1.2, hs2.2, by rw [HN2.out]; rfl⟩, hBF⟩
      · have hge : ¬ (k : Int) < (E2.length : Int) := by omega
        have HN2 : Hid (firstUn (wayP wd p) (wayP wd q) = none) := by
          show _ = _
          rw [HU.out]
          exact fu_end _ _ k (by rw [← HL1.out, ← HL2.out]; omega)
        clear HU
        have rX1 := r1.below hbw r1.lt
        have rX2 := r2.below hbw r2.lt
        have p0 := (rX1.cell 0).trans rfl
        have p1 := (rX1.cell 1).trans rfl
        have p2 := (rX2.cell 0).trans rfl
        have p3 := (rX2.cell 1).trans rfl
        have f0 := rX1.frozen 0
        have f1 := rX1.frozen 1
        have f2 := rX2.frozen 0
        have f3 := rX2.frozen 1
        have zr1 := rX1.lt
        have zr2 := rX2.lt
        have hBw := B2.trans (hbw.mono B2.size)
        have hBF := (((hBw.setCell (p := ⟨w.heap.size + 2, 0, none⟩) (by show w.heap.size ≤ w.heap.size + 2; omega) (.int .i64 0)).setCell (p := ⟨w.heap.size + 2, 1, none⟩) (by show w.heap.size ≤ w.heap.size + 2; omega) (.slice none 0 0)).setCell (p := ⟨w.heap.size + 3, 0, none⟩) (by show w.heap.size ≤ w.heap.size + 3; omega) (.int .i64 0)).setCell (p := ⟨w.heap.size + 3, 1, none⟩) (by show w.heap.size ≤ w.heap.size + 3; omega) (.slice none 0 0)
        go_wp2
        exact bodyPost_ret (v := .tuple #[.agg #[.int .i64 0, .slice none 0 0], .agg #[.int .i64 0, .slice none 0 0], .bool false]) (by simp [results, Try.results14, go_sem, p0, p1, p2, p3, f0, f1, f2, f3, zr1, zr2]) rfl ⟨_, rfl, ⟨0, 0, [], [], none, none, 0, 0, by rw [HN2.out]; rfl, strs_nil _, strs_nil _, by simp, by simp, by rw [HN2.out]; rfl⟩, hBF⟩
  · go_wp2_with fail
    have HU0 : Hid (firstUn (wayP wd p) (wayP wd q) = firstUn ((wayP wd p).drop 0) ((wayP wd q).drop 0)) := rfl
    go_loopw [56] (fun iv wv => ∃ k : Nat, k ≤ E1.length ∧ iv = .int .i64 k ∧ Hid (firstUn (wayP wd p) (wayP wd q) = firstUn ((wayP wd p).drop k) ((wayP wd q).drop k)) ∧ Below w2.heap.size w2 wv) (fun iv _ => E1.length - (intOf iv).toNat)
    case atStart => exact ⟨0, Nat.zero_le _, rfl, HU0, Below.refl _ _⟩
    case round =>
      obtain ⟨k, hk0, rfl, HU, hbw⟩ := hrel
      clear HU0
      by_cases hlt : k < E1.length
      · have hlt' : (k : Int) < (E1.length : Int) := by omega
        have hk1 : k < E1.length := by omega
        have hk2 : k < E2.length := by omega
        have hk1' : (k : Int) < (E1.length : Int) := by omega
        have hk2' : (k : Int) < (E2.length : Int) := by omega
        have hW1 := hJ1.below hbw
        have hW2 := hI2.below hbw
        obtain ⟨_, _, ea, zA, D1', D2'⟩ := hW1.at k hk1
        obtain ⟨_, _, eb, zB, D3', D4'⟩ := hW2.at k hk2
        injection ea with ea _ _; injection ea with ea; injection ea with ea _
        injection eb with eb _ _; injection eb with eb; injection eb with eb _
        subst ea
        subst eb
        have hs1 := hW1.1 _ (List.getElem_mem hk1)
        have hs2 := hW2.1 _ (List.getElem_mem hk2)
        obtain ⟨⟨t1, a1, n1, ss1⟩, ex1⟩ : ∃ x, E1[k] = x := ⟨_, rfl⟩
        obtain ⟨⟨t2, a2, n2, ss2⟩, ex2⟩ : ∃ x, E2[k] = x := ⟨_, rfl⟩
        have hi1 : (wayP wd p)[k]? = some (t1, ss1) := by rw [← HM1.out, List.getElem?_map, List.getElem?_eq_getElem hk1, ex1]; rfl
        have hi2 : (wayP wd q)[k]? = some (t2, ss2) := by rw [← HM2.out, List.getElem?_map, List.getElem?_eq_getElem hk2, ex2]; rfl
        have HF := fu_of (wayP wd p) (wayP wd q) k _ _ hi1 hi2
        rw [← HU.out] at HF
        rw [ex1] at D1' D2' hs1
        rw [ex2] at D3' D4' hs2
        simp only at D1' D2' D3' D4' hs1 hs2
        have HFU := show Hid (_ = _) from HF
        have D1 : ∀ w', Below wr.heap.size wr w' → w'.cell? ⟨g1, k * 2, none⟩ = some (.int .i64 t1) := fun w' hb => (hb.cell (p := ⟨g1, k * 2, none⟩) zA).trans D1'
        have D2 : ∀ w', Below wr.heap.size wr w' → w'.cell? ⟨g1, k * 2 + 1, none⟩ = some (.slice a1 ss1.length n1) := fun w' hb => (hb.cell (p := ⟨g1, k * 2 + 1, none⟩) zA).trans D2'
        have D3 : ∀ w', Below wr.heap.size wr w' → w'.cell? ⟨g2, k * 2, none⟩ = some (.int .i64 t2) := fun w' hb => (hb.cell (p := ⟨g2, k * 2, none⟩) zB).trans D3'
        have D4 : ∀ w', Below wr.heap.size wr w' → w'.cell? ⟨g2, k * 2 + 1, none⟩ = some (.slice a2 ss2.length n2) := fun w' hb => (hb.cell (p := ⟨g2, k * 2 + 1, none⟩) zB).trans D4'
        have KE : ∀ w', Below wr.heap.size wr w' → Calls Try.prog 31 #[.slice a1 ss1.length n1, .slice a2 ss2.length n2] w' fun e w'' => e = .returned (.bool (decide (ss1 = ss2))) ∧ Below w'.heap.size w' w'' := fun w' hb => equal_any a1 a2 n1 n2 ss1 ss2 w' (hs1.1.below hb) (hs2.1.below hb) (by omega) (by omega)
        have hHeld : Below wr.heap.size wr wr.drew := (Below.refl _ _).drew
        clear HF HU hi1 hi2 ex1 ex2 D1' D2' D3' D4' hW1 hW2
        by_cases htt : t1 = t2
        · have htb : (t1 != t2) = false := by simp [htt]
          go_upto_region 8 with fail
          refine wp_region_held (S := fun w' => Below wr.heap.size wr w') (by kernel_rfl) ?_
          refine wpAnyH_take (i := 0) (v := ?_) rfl (by kernel_rfl) (by kernel_rfl) (by kernel_rfl) (fun _ _ _ h => h) (Or.inl ⟨by kernel_rfl, ?_⟩) (by assumption) ?_
          rotate_left
          · intro w' hSw
            have y1 := D1 _ hSw
            have y2 := D2 _ hSw
            have y3 := D3 _ hSw
            have y4 := D4 _ hSw
            go_simp
            try (with_reducible rfl)
          simp only [Act.put, List.getElem_toArray, List.getElem_cons_succ, List.getElem_cons_zero, List.setIfInBounds_toArray, List.set_cons_zero, List.set_cons_succ]
          refine wpAnyH_take (i := 1) (v := ?_) rfl (by kernel_rfl) (by kernel_rfl) (by kernel_rfl) (fun _ _ _ h => h) (Or.inl ⟨by kernel_rfl, ?_⟩) (by assumption) ?_
          rotate_left
          · intro w' hSw
            have y1 := D1 _ hSw
            have y2 := D2 _ hSw
            have y3 := D3 _ hSw
            have y4 := D4 _ hSw
            go_simp
            try (with_reducible rfl)
          simp only [Act.put, List.getElem_toArray, List.getElem_cons_succ, List.getElem_cons_zero, List.setIfInBounds_toArray, List.set_cons_zero, List.set_cons_succ]
          refine wpAnyH_take (i := 2) (v := ?_) rfl (by kernel_rfl) (by kernel_rfl) (by kernel_rfl) (fun _ _ _ h => h) (Or.inl ⟨by kernel_rfl, ?_⟩) (by assumption) ?_
          rotate_left
          · intro w' hSw
            have y1 := D1 _ hSw
            have y2 := D2 _ hSw
            have y3 := D3 _ hSw
            have y4 := D4 _ hSw
            go_simp
            try (with_reducible rfl)
          simp only [Act.put, List.getElem_toArray, List.getElem_cons_succ, List.getElem_cons_zero, List.setIfInBounds_toArray, List.set_cons_zero, List.set_cons_succ]
          refine wpAnyH_take (i := 3) (v := ?_) rfl (by kernel_rfl) (by kernel_rfl) (by kernel_rfl) (fun _ _ _ h => h) (Or.inl ⟨by kernel_rfl, ?_⟩) (by assumption) ?_
          rotate_left
          · intro w' hSw
            have y1 := D1 _ hSw
            have y2 := D2 _ hSw
            have y3 := D3 _ hSw
            have y4 := D4 _ hSw
            go_simp
            try (with_reducible rfl)
          simp only [Act.put, List.getElem_toArray, List.getElem_cons_succ, List.getElem_cons_zero, List.setIfInBounds_toArray, List.set_cons_zero, List.set_cons_succ]
          refine wpAnyH_take (i := 4) (v := ?_) rfl (by kernel_rfl) (by kernel_rfl) (by kernel_rfl) (fun _ _ _ h => h) (Or.inl ⟨by kernel_rfl, ?_⟩) (by assumption) ?_
          rotate_left
          · intro w' hSw
            have y1 := D1 _ hSw
            have y2 := D2 _ hSw
            have y3 := D3 _ hSw
            have y4 := D4 _ hSw
            go_simp
            try (with_reducible rfl)
          simp only [Act.put, List.getElem_toArray, List.getElem_cons_succ, List.getElem_cons_zero, List.setIfInBounds_toArray, List.set_cons_zero, List.set_cons_succ]
          refine wpAnyH_take (i := 5) (v := ?_) rfl (by kernel_rfl) (by kernel_rfl) (by kernel_rfl) (fun _ _ _ h => h) (Or.inl ⟨by kernel_rfl, ?_⟩) (by assumption) ?_
          rotate_left
          · intro w' hSw
            have y1 := D1 _ hSw
            have y2 := D2 _ hSw
            have y3 := D3 _ hSw
            have y4 := D4 _ hSw
            go_simp
            try (with_reducible rfl)
          simp only [Act.put, List.getElem_toArray, List.getElem_cons_succ, List.getElem_cons_zero, List.setIfInBounds_toArray, List.set_cons_zero, List.set_cons_succ]
          refine wpAnyH_take (i := 6) (v := ?_) rfl (by kernel_rfl) (by kernel_rfl) (by kernel_rfl) (fun _ _ _ h => h) (Or.inl ⟨by kernel_rfl, ?_⟩) (by assumption) ?_
          rotate_left
          · intro w' hSw
            have y1 := D1 _ hSw
            have y2 := D2 _ hSw
            have y3 := D3 _ hSw
            have y4 := D4 _ hSw
            go_simp
            try (with_reducible rfl)
          simp only [Act.put, List.getElem_toArray, List.getElem_cons_succ, List.getElem_cons_zero, List.setIfInBounds_toArray, List.set_cons_zero, List.set_cons_succ]
          refine wpAnyH_take (i := 7) (v := ?_) rfl (by kernel_rfl) (by kernel_rfl) (by kernel_rfl) (fun _ _ _ h => h) (Or.inl ⟨by kernel_rfl, ?_⟩) (by assumption) ?_
          rotate_left
          · intro w' hSw
            have y1 := D1 _ hSw
            have y2 := D2 _ hSw
            have y3 := D3 _ hSw
            have y4 := D4 _ hSw
            go_simp
            try (with_reducible rfl)
          simp only [Act.put, List.getElem_toArray, List.getElem_cons_succ, List.getElem_cons_zero, List.setIfInBounds_toArray, List.set_cons_zero, List.set_cons_succ]
          refine wpAnyH_take (i := 8) (v := ?_) rfl (by kernel_rfl) (by kernel_rfl) (by kernel_rfl) (fun _ _ _ h => h) (Or.inl ⟨by kernel_rfl, ?_⟩) (by assumption) ?_
          rotate_left
          · intro w' hSw
            have y1 := D1 _ hSw
            have y2 := D2 _ hSw
            have y3 := D3 _ hSw
            have y4 := D4 _ hSw
            go_simp
            try (with_reducible rfl)
          simp only [Act.put, List.getElem_toArray, List.getElem_cons_succ, List.getElem_cons_zero, List.setIfInBounds_toArray, List.set_cons_zero, List.set_cons_succ]
          refine wpAnyH_take (i := 9) (v := ?_) rfl (by kernel_rfl) (by kernel_rfl) (by kernel_rfl) (fun _ _ _ h => h) (Or.inl ⟨by kernel_rfl, ?_⟩) (by assumption) ?_
          rotate_left
          · intro w' hSw
            have y1 := D1 _ hSw
            have y2 := D2 _ hSw
            have y3 := D3 _ hSw
            have y4 := D4 _ hSw
            go_simp
            try (with_reducible rfl)
          simp only [Act.put, List.getElem_toArray, List.getElem_cons_succ, List.getElem_cons_zero, List.setIfInBounds_toArray, List.set_cons_zero, List.set_cons_succ]
          refine wpAnyH_take (i := 10) (v := .bool false) rfl (by kernel_rfl) (by kernel_rfl) (by kernel_rfl) (fun _ _ _ h => h) (Or.inl ⟨by kernel_rfl, ?_⟩) (by assumption) ?_
          · intro w' hSw
            have y1 := D1 _ hSw
            have y2 := D2 _ hSw
            have y3 := D3 _ hSw
            have y4 := D4 _ hSw
            go_simp
            try (with_reducible rfl)
          simp only [Act.put, List.getElem_toArray, List.getElem_cons_succ, List.getElem_cons_zero, List.setIfInBounds_toArray, List.set_cons_zero, List.set_cons_succ]
          refine wpAnyH_take (i := 11) (v := .bool false) rfl (by kernel_rfl) (by kernel_rfl) (by kernel_rfl) (fun _ _ _ h => h) (Or.inl ⟨by kernel_rfl, ?_⟩) (by assumption) ?_
          · intro w' hSw
            have y1 := D1 _ hSw
            have y2 := D2 _ hSw
            have y3 := D3 _ hSw
            have y4 := D4 _ hSw
            go_simp
            try (with_reducible rfl)
          simp only [Act.put, List.getElem_toArray, List.getElem_cons_succ, List.getElem_cons_zero, List.setIfInBounds_toArray, List.set_cons_zero, List.set_cons_succ]
          refine wpAnyH_take (i := 12) (v := ?_) rfl (by kernel_rfl) (by kernel_rfl) (by kernel_rfl) (fun _ _ _ h => h) (Or.inl ⟨by kernel_rfl, ?_⟩) (by assumption) ?_
          rotate_left
          · intro w' hSw
            have y1 := D1 _ hSw
            have y2 := D2 _ hSw
            have y3 := D3 _ hSw
            have y4 := D4 _ hSw
            go_simp
            try (with_reducible rfl)
          simp only [Act.put, List.getElem_toArray, List.getElem_cons_succ, List.getElem_cons_zero, List.setIfInBounds_toArray, List.set_cons_zero, List.set_cons_succ]
          refine wpAnyH_take (i := 13) (v := ?_) rfl (by kernel_rfl) (by kernel_rfl) (by kernel_rfl) (fun _ _ _ h => h) (Or.inl ⟨by kernel_rfl, ?_⟩) (by assumption) ?_
          rotate_left
          · intro w' hSw
            have y1 := D1 _ hSw
            have y2 := D2 _ hSw
            have y3 := D3 _ hSw
            have y4 := D4 _ hSw
            go_simp
            try (with_reducible rfl)
          simp only [Act.put, List.getElem_toArray, List.getElem_cons_succ, List.getElem_cons_zero, List.setIfInBounds_toArray, List.set_cons_zero, List.set_cons_succ]
          refine wpAnyH_take (i := 14) (v := ?_) rfl (by kernel_rfl) (by kernel_rfl) (by kernel_rfl) (fun _ _ _ h => h) (Or.inl ⟨by kernel_rfl, ?_⟩) (by assumption) ?_
          rotate_left
          · intro w' hSw
            have y1 := D1 _ hSw
            have y2 := D2 _ hSw
            have y3 := D3 _ hSw
            have y4 := D4 _ hSw
            go_simp
            try (with_reducible rfl)
          simp only [Act.put, List.getElem_toArray, List.getElem_cons_succ, List.getElem_cons_zero, List.setIfInBounds_toArray, List.set_cons_zero, List.set_cons_succ]
          refine wpAnyH_take (i := 15) (v := ?_) rfl (by kernel_rfl) (by kernel_rfl) (by kernel_rfl) (fun _ _ _ h => h) (Or.inl ⟨by kernel_rfl, ?_⟩) (by assumption) ?_
          rotate_left
          · intro w' hSw
            have y1 := D1 _ hSw
            have y2 := D2 _ hSw
            have y3 := D3 _ hSw
            have y4 := D4 _ hSw
            go_simp
            try (with_reducible rfl)
          simp only [Act.put, List.getElem_toArray, List.getElem_cons_succ, List.getElem_cons_zero, List.setIfInBounds_toArray, List.set_cons_zero, List.set_cons_succ]
          refine wpAnyH_take (i := 16) (v := ?_) rfl (by kernel_rfl) (by kernel_rfl) (by kernel_rfl) (fun _ _ _ h => h) (Or.inl ⟨by kernel_rfl, ?_⟩) (by assumption) ?_
          rotate_left
          · intro w' hSw
            have y1 := D1 _ hSw
            have y2 := D2 _ hSw
            have y3 := D3 _ hSw
            have y4 := D4 _ hSw
            go_simp
            try (with_reducible rfl)
          simp only [Act.put, List.getElem_toArray, List.getElem_cons_succ, List.getElem_cons_zero, List.setIfInBounds_toArray, List.set_cons_zero, List.set_cons_succ]
          refine wpAnyH_take (i := 17) (v := ?_) rfl (by kernel_rfl) (by kernel_rfl) (by kernel_rfl) (fun _ _ _ h => h) (Or.inl ⟨by kernel_rfl, ?_⟩) (by assumption) ?_
          rotate_left
          · intro w' hSw
            have y1 := D1 _ hSw
            have y2 := D2 _ hSw
            have y3 := D3 _ hSw
            have y4 := D4 _ hSw
            go_simp
            try (with_reducible rfl)
          simp only [Act.put, List.getElem_toArray, List.getElem_cons_succ, List.getElem_cons_zero, List.setIfInBounds_toArray, List.set_cons_zero, List.set_cons_succ]
          refine wpAnyH_take (i := 18) (v := ?_) rfl (by kernel_rfl) (by kernel_rfl) (by kernel_rfl) (fun _ _ _ h => h) (Or.inl ⟨by kernel_rfl, ?_⟩) (by assumption) ?_
          rotate_left
          · intro w' hSw
            have y1 := D1 _ hSw
            have y2 := D2 _ hSw
            have y3 := D3 _ hSw
            have y4 := D4 _ hSw
            go_simp
            try (with_reducible rfl)
          simp only [Act.put, List.getElem_toArray, List.getElem_cons_succ, List.getElem_cons_zero, List.setIfInBounds_toArray, List.set_cons_zero, List.set_cons_succ]
          refine wpAnyH_take (i := 19) (v := ?_) rfl (by kernel_rfl) (by kernel_rfl) (by kernel_rfl) (fun _ _ _ h => h) (Or.inl ⟨by kernel_rfl, ?_⟩) (by assumption) ?_
          rotate_left
          · intro w' hSw
            have y1 := D1 _ hSw
            have y2 := D2 _ hSw
            have y3 := D3 _ hSw
            have y4 := D4 _ hSw
            go_simp
            try (with_reducible rfl)
          simp only [Act.put, List.getElem_toArray, List.getElem_cons_succ, List.getElem_cons_zero, List.setIfInBounds_toArray, List.set_cons_zero, List.set_cons_succ]
          refine wpAnyH_take (i := 20) (v := ?_) rfl (by kernel_rfl) (by kernel_rfl) (by kernel_rfl) (fun _ _ _ h => h) (Or.inl ⟨by kernel_rfl, ?_⟩) (by assumption) ?_
          rotate_left
          · intro w' hSw
            have y1 := D1 _ hSw
            have y2 := D2 _ hSw
            have y3 := D3 _ hSw
            have y4 := D4 _ hSw
            go_simp
            try (with_reducible rfl)
          simp only [Act.put, List.getElem_toArray, List.getElem_cons_succ, List.getElem_cons_zero, List.setIfInBounds_toArray, List.set_cons_zero, List.set_cons_succ]
          refine wpAnyH_take (i := 21) (v := ?_) rfl (by kernel_rfl) (by kernel_rfl) (by kernel_rfl) (fun _ _ _ h => h) (Or.inl ⟨by kernel_rfl, ?_⟩) (by assumption) ?_
          rotate_left
          · intro w' hSw
            have y1 := D1 _ hSw
            have y2 := D2 _ hSw
            have y3 := D3 _ hSw
            have y4 := D4 _ hSw
            go_simp
            try (with_reducible rfl)
          simp only [Act.put, List.getElem_toArray, List.getElem_cons_succ, List.getElem_cons_zero, List.setIfInBounds_toArray, List.set_cons_zero, List.set_cons_succ]
          refine wpAnyH_ready (rs := [22]) (by kernel_rfl) (by simp) ?_
          refine AllReadyH.cons rfl (fun K hK => ?_) AllReadyH.nil
          go_simp
          refine (KE _ (by assumption)).mono ?_
          rintro e w5 ⟨rfl, b5⟩
          have hN : Below wr.heap.size wr w5 := hHeld.trans (b5.mono hHeld.size)
          refine hK.out _ _ hN (fun _ => ?_)
          clear hK K
          try simp only [Act.put, List.getElem_toArray, List.getElem_cons_succ, List.getElem_cons_zero, List.setIfInBounds_toArray, List.set_cons_zero, List.set_cons_succ]
          refine wpAnyH_take (i := 23) (v := ?_) rfl (by kernel_rfl) (by kernel_rfl) (by kernel_rfl) (fun _ _ _ h => h) (Or.inl ⟨by kernel_rfl, ?_⟩) (by assumption) ?_
          rotate_left
          · intro w' hSw
            have y1 := D1 _ hSw
            have y2 := D2 _ hSw
            have y3 := D3 _ hSw
            have y4 := D4 _ hSw
            go_simp
            try (with_reducible rfl)
          simp only [Act.put, List.getElem_toArray, List.getElem_cons_succ, List.getElem_cons_zero, List.setIfInBounds_toArray, List.set_cons_zero, List.set_cons_succ]
          refine wpAnyH_take (i := 24) (v := ?_) rfl (by kernel_rfl) (by kernel_rfl) (by kernel_rfl) (fun _ _ _ h => h) (Or.inl ⟨by kernel_rfl, ?_⟩) (by assumption) ?_
          rotate_left
          · intro w' hSw
            have y1 := D1 _ hSw
            have y2 := D2 _ hSw
            have y3 := D3 _ hSw
            have y4 := D4 _ hSw
            go_simp
            try (with_reducible rfl)
          simp only [Act.put, List.getElem_toArray, List.getElem_cons_succ, List.getElem_cons_zero, List.setIfInBounds_toArray, List.set_cons_zero, List.set_cons_succ]
          refine wpAnyH_done (by kernel_rfl) ?_ _
          by_cases hss : ss1 = ss2
          · have HN2 : Hid (firstUn (wayP wd p) (wayP wd q) = firstUn ((wayP wd p).drop (k + 1)) ((wayP wd q).drop (k + 1))) := by
              show _ = _
              rw [HFU.out, htt, hss, if_pos rfl]
            have hsd : decide (ss1 = ss2) = true := decide_eq_true hss
            rw [hsd]
            clear HFU D1 D2 D3 D4 KE hsd hss
            go_wp2
            exact ⟨⟨_, _, _, ⟨k + 1, by omega, rfl, HN2, hbw.trans (hN.mono hbw.size)⟩, rfl, rfl, by go_num⟩, by simp [intOf]; omega⟩
          · have HN2 : Hid (firstUn (wayP wd p) (wayP wd q) = some ((t1, ss1), (t2, ss2))) := by
              show _ = _
              rw [HFU.out, if_neg (by intro e0; exact hss (Prod.mk.inj e0).2)]
            have hsd : decide (ss1 = ss2) = false := decide_eq_false hss
            rw [hsd]
            clear htt htb
            have wS := hN
            generalize w5 = wX at *
            have d1 := D1 wX wS
            have d2 := D2 wX wS
            have d3 := D3 wX wS
            have d4 := D4 wX wS
            have hBX := hbw.trans (wS.mono hbw.size)
            have rX1 := r1.below hBX r1.lt
            have rX2 := r2.below hBX r2.lt
            have p0 := (rX1.cell 0).trans rfl
            have p1 := (rX1.cell 1).trans rfl
            have p2 := (rX2.cell 0).trans rfl
            have p3 := (rX2.cell 1).trans rfl
            have f0 := rX1.frozen 0
            have f1 := rX1.frozen 1
            have f2 := rX2.frozen 0
            have f3 := rX2.frozen 1
            have zr1 := rX1.lt
            have zr2 := rX2.lt
            have zX1 := Nat.lt_of_lt_of_le zA wS.size
            have zX2 := Nat.lt_of_lt_of_le zB wS.size
            have ne1 : g1 ≠ w.heap.size + 2 := by omega
            have ne2 : g1 ≠ w.heap.size + 3 := by omega
            have ne3 : g2 ≠ w.heap.size + 2 := by omega
            have ne4 : g2 ≠ w.heap.size + 3 := by omega
            clear HFU D1 D2 D3 D4 KE
            have hq1 := hs1.1.below wS
            have hq2 := hs2.1.below wS
            go_upto_region 9 with fail
            go_region
            have u1 := (rX1.set 0 (.int .i64 t1)).set 1 (.slice a1 ss1.length n1)
            have u2 := (rX2.setOther ⟨w.heap.size + 2, 0, none⟩ (by show w.heap.size + 3 ≠ w.heap.size + 2; omega) (.int .i64 t1)).setOther ⟨w.heap.size + 2, 1, none⟩ (by show w.heap.size + 3 ≠ w.heap.size + 2; omega) (.slice a1 ss1.length n1)
            have x1 := strs_seti (strs_seti hq1 rX1 (.int .i64 t1) (.slice a1 ss1.length n1)) u2 (.int .i64 t2) (.slice a2 ss2.length n2)
            have x2 := strs_seti (strs_seti hq2 rX1 (.int .i64 t1) (.slice a1 ss1.length n1)) u2 (.int .i64 t2) (.slice a2 ss2.length n2)
            have v1 := ((u1.setOther ⟨w.heap.size + 3, 0, none⟩ (by show w.heap.size + 2 ≠ w.heap.size + 3; omega) (.int .i64 t2)).setOther ⟨w.heap.size + 3, 1, none⟩ (by show w.heap.size + 2 ≠ w.heap.size + 3; omega) (.slice a2 ss2.length n2)).drew
            have v2 := ((u2.set 0 (.int .i64 t2)).set 1 (.slice a2 ss2.length n2)).drew
            have hBw := B2.trans (hBX.mono B2.size)
            have hBF := ((((hBw.setCell (p := ⟨w.heap.size + 2, 0, none⟩) (by show w.heap.size ≤ w.heap.size + 2; omega) (.int .i64 t1)).setCell (p := ⟨w.heap.size + 2, 1, none⟩) (by show w.heap.size ≤ w.heap.size + 2; omega) (.slice a1 ss1.length n1)).setCell (p := ⟨w.heap.size + 3, 0, none⟩) (by show w.heap.size ≤ w.heap.size + 3; omega) (.int .i64 t2)).setCell (p := ⟨w.heap.size + 3, 1, none⟩) (by show w.heap.size ≤ w.heap.size + 3; omega) (.slice a2 ss2.length n2)).drew
            have X1 := x1.below ((Below.refl _ _).drew)
            have X2 := x2.below ((Below.refl _ _).drew)
            clear p0 p1 p2 p3 f0 f1 f2 f3 d1 d2 d3 d4 u1 u2 x1 x2
            generalize ((((wX.setCell ⟨w.heap.size + 2, 0, none⟩ (.int .i64 t1)).setCell ⟨w.heap.size + 2, 1, none⟩ (.slice a1 ss1.length n1)).setCell ⟨w.heap.size + 3, 0, none⟩ (.int .i64 t2)).setCell ⟨w.heap.size + 3, 1, none⟩ (.slice a2 ss2.length n2)).drew = wF at *
            have p0 := (v1.cell 0).trans rfl
            have p1 := (v1.cell 1).trans rfl
            have p2 := (v2.cell 0).trans rfl
            have p3 := (v2.cell 1).trans rfl
            have zz1 := v1.lt
            have zz2 := v2.lt
            go_wp2
            exact bodyPost_ret (v := .tuple #[.agg #[.int .i64 t1, .slice a1 ss1.length n1], .agg #[.int .i64 t2, .slice a2 ss2.length n2], .bool true]) (by simp [results, Try.results14, go_sem, p0, p1, p2, p3, zz1, zz2]) rfl ⟨_, rfl, ⟨t1, t2, ss1, ss2, a1, a2, n1, n2, by rw [HN2.out]; rfl, X1, X2, hs1.2, hs2.2, by rw [HN2.out]; rfl⟩, hBF⟩
        · have htb : (t1 != t2) = true := by simpa using htt
          go_upto_region 8 with fail
          refine wp_region_held (S := fun w' => Below wr.heap.size wr w') (by kernel_rfl) ?_
          refine wpAnyH_take (i := 0) (v := ?_) rfl (by kernel_rfl) (by kernel_rfl) (by kernel_rfl) (fun _ _ _ h => h) (Or.inl ⟨by kernel_rfl, ?_⟩) (by assumption) ?_
          rotate_left
          · intro w' hSw
            have y1 := D1 _ hSw
            have y2 := D2 _ hSw
            have y3 := D3 _ hSw
            have y4 := D4 _ hSw
            go_simp
            try (with_reducible rfl)
          simp only [Act.put, List.getElem_toArray, List.getElem_cons_succ, List.getElem_cons_zero, List.setIfInBounds_toArray, List.set_cons_zero, List.set_cons_succ]
          refine wpAnyH_take (i := 1) (v := ?_) rfl (by kernel_rfl) (by kernel_rfl) (by kernel_rfl) (fun _ _ _ h => h) (Or.inl ⟨by kernel_rfl, ?_⟩) (by assumption) ?_
          rotate_left
          · intro w' hSw
            have y1 := D1 _ hSw
            have y2 := D2 _ hSw
            have y3 := D3 _ hSw
            have y4 := D4 _ hSw
            go_simp
            try (with_reducible rfl)
          simp only [Act.put, List.getElem_toArray, List.getElem_cons_succ, List.getElem_cons_zero, List.setIfInBounds_toArray, List.set_cons_zero, List.set_cons_succ]
          refine wpAnyH_take (i := 2) (v := ?_) rfl (by kernel_rfl) (by kernel_rfl) (by kernel_rfl) (fun _ _ _ h => h) (Or.inl ⟨by kernel_rfl, ?_⟩) (by assumption) ?_
          rotate_left
          · intro w' hSw
            have y1 := D1 _ hSw
            have y2 := D2 _ hSw
            have y3 := D3 _ hSw
            have y4 := D4 _ hSw
            go_simp
            try (with_reducible rfl)
          simp only [Act.put, List.getElem_toArray, List.getElem_cons_succ, List.getElem_cons_zero, List.setIfInBounds_toArray, List.set_cons_zero, List.set_cons_succ]
          refine wpAnyH_take (i := 3) (v := ?_) rfl (by kernel_rfl) (by kernel_rfl) (by kernel_rfl) (fun _ _ _ h => h) (Or.inl ⟨by kernel_rfl, ?_⟩) (by assumption) ?_
          rotate_left
          · intro w' hSw
            have y1 := D1 _ hSw
            have y2 := D2 _ hSw
            have y3 := D3 _ hSw
            have y4 := D4 _ hSw
            go_simp
            try (with_reducible rfl)
          simp only [Act.put, List.getElem_toArray, List.getElem_cons_succ, List.getElem_cons_zero, List.setIfInBounds_toArray, List.set_cons_zero, List.set_cons_succ]
          refine wpAnyH_take (i := 4) (v := ?_) rfl (by kernel_rfl) (by kernel_rfl) (by kernel_rfl) (fun _ _ _ h => h) (Or.inl ⟨by kernel_rfl, ?_⟩) (by assumption) ?_
          rotate_left
          · intro w' hSw
            have y1 := D1 _ hSw
            have y2 := D2 _ hSw
            have y3 := D3 _ hSw
            have y4 := D4 _ hSw
            go_simp
            try (with_reducible rfl)
          simp only [Act.put, List.getElem_toArray, List.getElem_cons_succ, List.getElem_cons_zero, List.setIfInBounds_toArray, List.set_cons_zero, List.set_cons_succ]
          refine wpAnyH_take (i := 5) (v := ?_) rfl (by kernel_rfl) (by kernel_rfl) (by kernel_rfl) (fun _ _ _ h => h) (Or.inl ⟨by kernel_rfl, ?_⟩) (by assumption) ?_
          rotate_left
          · intro w' hSw
            have y1 := D1 _ hSw
            have y2 := D2 _ hSw
            have y3 := D3 _ hSw
            have y4 := D4 _ hSw
            go_simp
            try (with_reducible rfl)
          simp only [Act.put, List.getElem_toArray, List.getElem_cons_succ, List.getElem_cons_zero, List.setIfInBounds_toArray, List.set_cons_zero, List.set_cons_succ]
          refine wpAnyH_take (i := 6) (v := ?_) rfl (by kernel_rfl) (by kernel_rfl) (by kernel_rfl) (fun _ _ _ h => h) (Or.inl ⟨by kernel_rfl, ?_⟩) (by assumption) ?_
          rotate_left
          · intro w' hSw
            have y1 := D1 _ hSw
            have y2 := D2 _ hSw
            have y3 := D3 _ hSw
            have y4 := D4 _ hSw
            go_simp
            try (with_reducible rfl)
          simp only [Act.put, List.getElem_toArray, List.getElem_cons_succ, List.getElem_cons_zero, List.setIfInBounds_toArray, List.set_cons_zero, List.set_cons_succ]
          refine wpAnyH_take (i := 7) (v := ?_) rfl (by kernel_rfl) (by kernel_rfl) (by kernel_rfl) (fun _ _ _ h => h) (Or.inl ⟨by kernel_rfl, ?_⟩) (by assumption) ?_
          rotate_left
          · intro w' hSw
            have y1 := D1 _ hSw
            have y2 := D2 _ hSw
            have y3 := D3 _ hSw
            have y4 := D4 _ hSw
            go_simp
            try (with_reducible rfl)
          simp only [Act.put, List.getElem_toArray, List.getElem_cons_succ, List.getElem_cons_zero, List.setIfInBounds_toArray, List.set_cons_zero, List.set_cons_succ]
          refine wpAnyH_take (i := 8) (v := ?_) rfl (by kernel_rfl) (by kernel_rfl) (by kernel_rfl) (fun _ _ _ h => h) (Or.inl ⟨by kernel_rfl, ?_⟩) (by assumption) ?_
          rotate_left
          · intro w' hSw
            have y1 := D1 _ hSw
            have y2 := D2 _ hSw
            have y3 := D3 _ hSw
            have y4 := D4 _ hSw
            go_simp
            try (with_reducible rfl)
          simp only [Act.put, List.getElem_toArray, List.getElem_cons_succ, List.getElem_cons_zero, List.setIfInBounds_toArray, List.set_cons_zero, List.set_cons_succ]
          refine wpAnyH_take (i := 9) (v := ?_) rfl (by kernel_rfl) (by kernel_rfl) (by kernel_rfl) (fun _ _ _ h => h) (Or.inl ⟨by kernel_rfl, ?_⟩) (by assumption) ?_
          rotate_left
          · intro w' hSw
            have y1 := D1 _ hSw
            have y2 := D2 _ hSw
            have y3 := D3 _ hSw
            have y4 := D4 _ hSw
            go_simp
            try (with_reducible rfl)
          simp only [Act.put, List.getElem_toArray, List.getElem_cons_succ, List.getElem_cons_zero, List.setIfInBounds_toArray, List.set_cons_zero, List.set_cons_succ]
          refine wpAnyH_take (i := 10) (v := .bool true) rfl (by kernel_rfl) (by kernel_rfl) (by kernel_rfl) (fun _ _ _ h => h) (Or.inl ⟨by kernel_rfl, ?_⟩) (by assumption) ?_
          · intro w' hSw
            have y1 := D1 _ hSw
            have y2 := D2 _ hSw
            have y3 := D3 _ hSw
            have y4 := D4 _ hSw
            go_simp
            try (with_reducible rfl)
          simp only [Act.put, List.getElem_toArray, List.getElem_cons_succ, List.getElem_cons_zero, List.setIfInBounds_toArray, List.set_cons_zero, List.set_cons_succ]
          refine wpAnyH_take (i := 11) (v := .bool true) rfl (by kernel_rfl) (by kernel_rfl) (by kernel_rfl) (fun _ _ _ h => h) (Or.inl ⟨by kernel_rfl, ?_⟩) (by assumption) ?_
          · intro w' hSw
            have y1 := D1 _ hSw
            have y2 := D2 _ hSw
            have y3 := D3 _ hSw
            have y4 := D4 _ hSw
            go_simp
            try (with_reducible rfl)
          simp only [Act.put, List.getElem_toArray, List.getElem_cons_succ, List.getElem_cons_zero, List.setIfInBounds_toArray, List.set_cons_zero, List.set_cons_succ]
          refine wpAnyH_take (i := 12) (v := undef) rfl (by kernel_rfl) (by kernel_rfl) (by kernel_rfl) (fun _ _ _ h => h) (Or.inr ⟨by kernel_rfl, rfl⟩) (by assumption) ?_
          simp only [Act.put, List.getElem_toArray, List.getElem_cons_succ, List.getElem_cons_zero, List.setIfInBounds_toArray, List.set_cons_zero, List.set_cons_succ]
          refine wpAnyH_take (i := 13) (v := undef) rfl (by kernel_rfl) (by kernel_rfl) (by kernel_rfl) (fun _ _ _ h => h) (Or.inr ⟨by kernel_rfl, rfl⟩) (by assumption) ?_
          simp only [Act.put, List.getElem_toArray, List.getElem_cons_succ, List.getElem_cons_zero, List.setIfInBounds_toArray, List.set_cons_zero, List.set_cons_succ]
          refine wpAnyH_take (i := 14) (v := undef) rfl (by kernel_rfl) (by kernel_rfl) (by kernel_rfl) (fun _ _ _ h => h) (Or.inr ⟨by kernel_rfl, rfl⟩) (by assumption) ?_
          simp only [Act.put, List.getElem_toArray, List.getElem_cons_succ, List.getElem_cons_zero, List.setIfInBounds_toArray, List.set_cons_zero, List.set_cons_succ]
          refine wpAnyH_take (i := 15) (v := undef) rfl (by kernel_rfl) (by kernel_rfl) (by kernel_rfl) (fun _ _ _ h => h) (Or.inr ⟨by kernel_rfl, rfl⟩) (by assumption) ?_
          simp only [Act.put, List.getElem_toArray, List.getElem_cons_succ, List.getElem_cons_zero, List.setIfInBounds_toArray, List.set_cons_zero, List.set_cons_succ]
          refine wpAnyH_take (i := 16) (v := undef) rfl (by kernel_rfl) (by kernel_rfl) (by kernel_rfl) (fun _ _ _ h => h) (Or.inr ⟨by kernel_rfl, rfl⟩) (by assumption) ?_
          simp only [Act.put, List.getElem_toArray, List.getElem_cons_succ, List.getElem_cons_zero, List.setIfInBounds_toArray, List.set_cons_zero, List.set_cons_succ]
          refine wpAnyH_take (i := 17) (v := undef) rfl (by kernel_rfl) (by kernel_rfl) (by kernel_rfl) (fun _ _ _ h => h) (Or.inr ⟨by kernel_rfl, rfl⟩) (by assumption) ?_
          simp only [Act.put, List.getElem_toArray, List.getElem_cons_succ, List.getElem_cons_zero, List.setIfInBounds_toArray, List.set_cons_zero, List.set_cons_succ]
          refine wpAnyH_take (i := 18) (v := undef) rfl (by kernel_rfl) (by kernel_rfl) (by kernel_rfl) (fun _ _ _ h => h) (Or.inr ⟨by kernel_rfl, rfl⟩) (by assumption) ?_
          simp only [Act.put, List.getElem_toArray, List.getElem_cons_succ, List.getElem_cons_zero, List.setIfInBounds_toArray, List.set_cons_zero, List.set_cons_succ]
          refine wpAnyH_take (i := 19) (v := undef) rfl (by kernel_rfl) (by kernel_rfl) (by kernel_rfl) (fun _ _ _ h => h) (Or.inr ⟨by kernel_rfl, rfl⟩) (by assumption) ?_
          simp only [Act.put, List.getElem_toArray, List.getElem_cons_succ, List.getElem_cons_zero, List.setIfInBounds_toArray, List.set_cons_zero, List.set_cons_succ]
          refine wpAnyH_take (i := 20) (v := undef) rfl (by kernel_rfl) (by kernel_rfl) (by kernel_rfl) (fun _ _ _ h => h) (Or.inr ⟨by kernel_rfl, rfl⟩) (by assumption) ?_
          simp only [Act.put, List.getElem_toArray, List.getElem_cons_succ, List.getElem_cons_zero, List.setIfInBounds_toArray, List.set_cons_zero, List.set_cons_succ]
          refine wpAnyH_take (i := 21) (v := undef) rfl (by kernel_rfl) (by kernel_rfl) (by kernel_rfl) (fun _ _ _ h => h) (Or.inr ⟨by kernel_rfl, rfl⟩) (by assumption) ?_
          simp only [Act.put, List.getElem_toArray, List.getElem_cons_succ, List.getElem_cons_zero, List.setIfInBounds_toArray, List.set_cons_zero, List.set_cons_succ]
          refine wpAnyH_take (i := 22) (v := undef) rfl (by kernel_rfl) (by kernel_rfl) (by kernel_rfl) (fun _ _ _ h => h) (Or.inr ⟨by kernel_rfl, rfl⟩) (by assumption) ?_
          simp only [Act.put, List.getElem_toArray, List.getElem_cons_succ, List.getElem_cons_zero, List.setIfInBounds_toArray, List.set_cons_zero, List.set_cons_succ]
          refine wpAnyH_take (i := 23) (v := undef) rfl (by kernel_rfl) (by kernel_rfl) (by kernel_rfl) (fun _ _ _ h => h) (Or.inr ⟨by kernel_rfl, rfl⟩) (by assumption) ?_
          simp only [Act.put, List.getElem_toArray, List.getElem_cons_succ, List.getElem_cons_zero, List.setIfInBounds_toArray, List.set_cons_zero, List.set_cons_succ]
          refine wpAnyH_take (i := 24) (v := ?_) rfl (by kernel_rfl) (by kernel_rfl) (by kernel_rfl) (fun _ _ _ h => h) (Or.inl ⟨by kernel_rfl, ?_⟩) (by assumption) ?_
          rotate_left
          · intro w' hSw
            have y1 := D1 _ hSw
            have y2 := D2 _ hSw
            have y3 := D3 _ hSw
            have y4 := D4 _ hSw
            go_simp
            try (with_reducible rfl)
          simp only [Act.put, List.getElem_toArray, List.getElem_cons_succ, List.getElem_cons_zero, List.setIfInBounds_toArray, List.set_cons_zero, List.set_cons_succ]
          refine wpAnyH_done (by kernel_rfl) ?_ _
          · have HN2 : Hid (firstUn (wayP wd p) (wayP wd q) = some ((t1, ss1), (t2, ss2))) := by
              show _ = _
              rw [HFU.out, if_neg (by intro e0; exact htt (Prod.mk.inj e0).1)]
            obtain ⟨wX, HwX⟩ : ∃ x, Hid (x = wr.drew) := ⟨_, rfl⟩
            have wS : Below wr.heap.size wr wX := by rw [HwX.out]; exact hHeld
            show Exit.then _ _ _ _ wr.drew
            rw [← HwX.out]
            have d1 := D1 wX wS
            have d2 := D2 wX wS
            have d3 := D3 wX wS
            have d4 := D4 wX wS
            have hBX := hbw.trans (wS.mono hbw.size)
            have rX1 := r1.below hBX r1.lt
            have rX2 := r2.below hBX r2.lt
            have p0 := (rX1.cell 0).trans rfl
            have p1 := (rX1.cell 1).trans rfl
            have p2 := (rX2.cell 0).trans rfl
            have p3 := (rX2.cell 1).trans rfl
            have f0 := rX1.frozen 0
            have f1 := rX1.frozen 1
            have f2 := rX2.frozen 0
            have f3 := rX2.frozen 1
            have zr1 := rX1.lt
            have zr2 := rX2.lt
            have zX1 := Nat.lt_of_lt_of_le zA wS.size
            have zX2 := Nat.lt_of_lt_of_le zB wS.size
            have ne1 : g1 ≠ w.heap.size + 2 := by omega
            have ne2 : g1 ≠ w.heap.size + 3 := by omega
            have ne3 : g2 ≠ w.heap.size + 2 := by omega
            have ne4 : g2 ≠ w.heap.size + 3 := by omega
            clear HFU D1 D2 D3 D4 KE
            have hq1 := hs1.1.below wS
            have hq2 := hs2.1.below wS
            go_upto_region 9 with fail
            go_region
            have u1 := (rX1.set 0 (.int .i64 t1)).set 1 (.slice a1 ss1.length n1)
            have u2 := (rX2.setOther ⟨w.heap.size + 2, 0, none⟩ (by show w.heap.size + 3 ≠ w.heap.size + 2; omega) (.int .i64 t1)).setOther ⟨w.heap.size + 2, 1, none⟩ (by show w.heap.size + 3 ≠ w.heap.size + 2; omega) (.slice a1 ss1.length n1)
            have x1 := strs_seti (strs_seti hq1 rX1 (.int .i64 t1) (.slice a1 ss1.length n1)) u2 (.int .i64 t2) (.slice a2 ss2.length n2)
            have x2 := strs_seti (strs_seti hq2 rX1 (.int .i64 t1) (.slice a1 ss1.length n1)) u2 (.int .i64 t2) (.slice a2 ss2.length n2)
            have v1 := ((u1.setOther ⟨w.heap.size + 3, 0, none⟩ (by show w.heap.size + 2 ≠ w.heap.size + 3; omega) (.int .i64 t2)).setOther ⟨w.heap.size + 3, 1, none⟩ (by show w.heap.size + 2 ≠ w.heap.size + 3; omega) (.slice a2 ss2.length n2)).drew
            have v2 := ((u2.set 0 (.int .i64 t2)).set 1 (.slice a2 ss2.length n2)).drew
            have hBw := B2.trans (hBX.mono B2.size)
            have hBF := ((((hBw.setCell (p := ⟨w.heap.size + 2, 0, none⟩) (by show w.heap.size ≤ w.heap.size + 2; omega) (.int .i64 t1)).setCell (p := ⟨w.heap.size + 2, 1, none⟩) (by show w.heap.size ≤ w.heap.size + 2; omega) (.slice a1 ss1.length n1)).setCell (p := ⟨w.heap.size + 3, 0, none⟩) (by show w.heap.size ≤ w.heap.size + 3; omega) (.int .i64 t2)).setCell (p := ⟨w.heap.size + 3, 1, none⟩) (by show w.heap.size ≤ w.heap.size + 3; omega) (.slice a2 ss2.length n2)).drew
            have X1 := x1.below ((Below.refl _ _).drew)
            have X2 := x2.below ((Below.refl _ _).drew)
            clear p0 p1 p2 p3 f0 f1 f2 f3 d1 d2 d3 d4 u1 u2 x1 x2
            generalize ((((wX.setCell ⟨w.heap.size + 2, 0, none⟩ (.int .i64 t1)).setCell ⟨w.heap.size + 2, 1, none⟩ (.slice a1 ss1.length n1)).setCell ⟨w.heap.size + 3, 0, none⟩ (.int .i64 t2)).setCell ⟨w.heap.size + 3, 1, none⟩ (.slice a2 ss2.length n2)).drew = wF at *
            have p0 := (v1.cell 0).trans rfl
            have p1 := (v1.cell 1).trans rfl
            have p2 := (v2.cell 0).trans rfl
            have p3 := (v2.cell 1).trans rfl
            have zz1 := v1.lt
            have zz2 := v2.lt
            go_wp2
            exact bodyPost_ret (v := .tuple #[.agg #[.int .i64 t1, .slice a1 ss1.length n1], .agg #[.int .i64 t2, .slice a2 ss2.length n2], .bool true]) (by simp [results, Try.results14, go_sem, p0, p1, p2, p3, zz1, zz2]) rfl ⟨_, rfl, ⟨t1, t2, ss1, ss2, a1, a2, n1, n2, by rw [HN2.out]; rfl, X1, X2, hs1.2, hs2.2, by rw [HN2.out]; rfl⟩, hBF⟩
      · have hge : ¬ (k : Int) < (E1.length : Int) := by omega
        have HN2 : Hid (firstUn (wayP wd p) (wayP wd q) = none) := by
          show _ = _
          rw [HU.out]
          exact fu_end _ _ k (by rw [← HL1.out, ← HL2.out]; omega)
        clear HU
        have rX1 := r1.below hbw r1.lt
        have rX2 := r2.below hbw r2.lt
        have p0 := (rX1.cell 0).trans rfl
        have p1 := (rX1.cell 1).trans rfl
        have p2 := (rX2.cell 0).trans rfl
        have p3 := (rX2.cell 1).trans rfl
        have f0 := rX1.frozen 0
        have f1 := rX1.frozen 1
        have f2 := rX2.frozen 0
        have f3 := rX2.frozen 1
        have zr1 := rX1.lt
        have zr2 := rX2.lt
        have hBw := B2.trans (hbw.mono B2.size)
        have hBF := (((hBw.setCell (p := ⟨w.heap.size + 2, 0, none⟩) (by show w.heap.size ≤ w.heap.size + 2; omega) (.int .i64 0)).setCell (p := ⟨w.heap.size + 2, 1, none⟩) (by show w.heap.size ≤ w.heap.size + 2; omega) (.slice none 0 0)).setCell (p := ⟨w.heap.size + 3, 0, none⟩) (by show w.heap.size ≤ w.heap.size + 3; omega) (.int .i64 0)).setCell (p := ⟨w.heap.size + 3, 1, none⟩) (by show w.heap.size ≤ w.heap.size + 3; omega) (.slice none 0 0)
        go_wp2
        exact bodyPost_ret (v := .tuple #[.agg #[.int .i64 0, .slice none 0 0], .agg #[.int .i64 0, .slice none 0 0], .bool false]) (by simp [results, Try.results14, go_sem, p0, p1, p2, p3, f0, f1, f2, f3, zr1, zr2]) rfl ⟨_, rfl, ⟨0, 0, [], [], none, none, 0, 0, by rw [HN2.out]; rfl, strs_nil _, strs_nil _, by simp, by simp, by rw [HN2.out]; rfl⟩, hBF⟩
end Go.Proofs.Ytcpjcjonlkgblaa
