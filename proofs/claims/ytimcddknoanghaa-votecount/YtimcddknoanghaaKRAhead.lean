/- The greatest round beyond one, in which or beyond which more than a third voted: the answer's. -/
import Derived.Test.YtimcddknoanghaaKFor
namespace Go.Proofs.Ytimcddknoanghaa
open Go.RowKit Go.Maps
set_option linter.unusedVariables false
set_option linter.unusedSimpArgs false

theorem rmore_any (la na : Option Addr) (ca cn : Nat) (l : List (Int × Int)) (named : List Int) (w : World) (hl : l.length ≤ 64) (hn : named.length ≤ maxLen) (hw : ∀ x ∈ l, 0 ≤ x.2 ∧ x.2 ≤ 1099511627775) (h1 : SeatsAt w la l) (h2 : IntsAt w na named) :
    Calls Try.prog 40 #[.slice la l.length ca, .slice na named.length cn] w fun e w' => e = .returned (.bool (decide (totP l < 3 * wtP l named))) ∧ Below w.heap.size w w' := by
  obtain ⟨p1, p2⟩ := totP_bound hw
  obtain ⟨p4, p5⟩ := wtP_bound named hw
  have p3 : totP l ≤ 1099511627775 * 64 := by omega
  go_enter Try.func40, Try.ntmps40
  go_wp2_with fail
  refine (rweight_any la na ca cn l named w hl hn hw h1 h2).mono ?_
  rintro e w1 ⟨rfl, b1⟩
  go_wp2_with fail
  refine (rtotal_any la ca l w1 hl hw (h1.below b1)).mono ?_
  rintro e w2 ⟨rfl, b2⟩
  go_wp2
  go_ret
  exact ⟨rfl, b1.trans (b2.mono b1.size)⟩

/-- Those who voted in a round or beyond it. -/
def fromOn (L : List Vt) (r : Int) : List Int := (L.filter fun v => decide (r ≤ v.r)).map Vt.f
theorem fromOn_len (L : List Vt) (r : Int) : (fromOn L r).length ≤ L.length := by unfold fromOn; rw [List.length_map]; exact List.length_filter_le _ _
theorem fromOn_snoc (T : List Vt) (z : Vt) (r : Int) : fromOn (T ++ [z]) r = fromOn T r ++ (if r ≤ z.r then [z.f] else []) := by
  unfold fromOn
  rw [List.filter_append, List.map_append]
  congr 1
  by_cases h : r ≤ z.r <;> simp [h]
/-- From the last vote down. -/
def raheadGo (x : List (Int × Int)) (L : List Vt) (rd : Int) : List Vt → Int
  | [] => rd
  | v :: rest => if v.r ≤ rd then rd else if totP x < 3 * wtP x (fromOn L v.r) then v.r else raheadGo x L rd rest
theorem raheadGo_skip {x : List (Int × Int)} {L : List Vt} {rd : Int} {l : List Vt} {k : Nat} (hk : k < l.length) (hr : ¬ l[k].r ≤ rd) (hn : ¬ totP x < 3 * wtP x (fromOn L l[k].r)) : raheadGo x L rd ((l.take (k + 1)).reverse) = raheadGo x L rd ((l.take k).reverse) := by
  rw [List.take_succ_eq_append_getElem hk, List.reverse_append]
  simp only [List.reverse_singleton, List.singleton_append, raheadGo, if_neg hr, if_neg hn]
theorem raheadGo_at {x : List (Int × Int)} {L : List Vt} {rd : Int} {l : List Vt} {k : Nat} (hk : k < l.length) (hr : ¬ l[k].r ≤ rd) (hn : totP x < 3 * wtP x (fromOn L l[k].r)) : raheadGo x L rd ((l.take (k + 1)).reverse) = l[k].r := by
  rw [List.take_succ_eq_append_getElem hk, List.reverse_append]
  simp only [List.reverse_singleton, List.singleton_append, raheadGo, if_neg hr, if_pos hn]
theorem raheadGo_stop {x : List (Int × Int)} {L : List Vt} {rd : Int} {l : List Vt} {k : Nat} (hk : k < l.length) (hr : l[k].r ≤ rd) : raheadGo x L rd ((l.take (k + 1)).reverse) = rd := by
  rw [List.take_succ_eq_append_getElem hk, List.reverse_append]
  simp only [List.reverse_singleton, List.singleton_append, raheadGo, if_pos hr]

set_option maxRecDepth 8000 in
set_option maxHeartbeats 6400000 in
theorem rahead_any (rb : Nat) (rd : Int) (sa : Option Addr) (sc : Nat) (x : List (Int × Int)) (ht : Int) (la : Option Addr) (lc : Nat) (L : List Vt) (w : World) (H : RcAt w rb sa sc x ht la lc L) (hx : x.length ≤ 64) (hw : ∀ z ∈ x, 0 ≤ z.2 ∧ z.2 ≤ 1099511627775) (hL : L.length ≤ 100000) :
    Calls Try.prog 18 #[.pointer (some ⟨rb, 0, none⟩), .int .i64 rd] w fun e w' => e = .returned (.int .i64 (raheadGo x L rd L.reverse)) ∧ Below w.heap.size w w' := by
  obtain ⟨F, HF⟩ : ∃ F, Hid (raheadGo x L rd L.reverse = F) := ⟨_, rfl⟩
  rw [HF.out]
  have C0 : ∀ w', Below w.heap.size w w' → w'.cell? ⟨rb, 0, none⟩ = some (.slice sa x.length sc) := fun w' hb => ((H.below hb).k.cell 0).trans rfl
  have C2 : ∀ w', Below w.heap.size w w' → w'.cell? ⟨rb, 2, none⟩ = some (.slice la L.length lc) := fun w' hb => ((H.below hb).k.cell 2).trans rfl
  have zC : ∀ w', Below w.heap.size w w' → rb < w'.heap.size := fun w' hb => (H.below hb).k.lt
  have HS : ∀ w', Below w.heap.size w w' → SeatsAt w' sa x := fun w' hb => (H.below hb).seats
  have HV : ∀ w', Below w.heap.size w w' → VotesAt w' la L := fun w' hb => (H.below hb).votes
  have d2 := C2 _ (Below.refl _ _)
  have zd := zC _ (Below.refl _ _)
  clear H
  go_enter Try.func18, Try.ntmps18
  go_wp2_with fail
  clear d2 zd
  go_loopw [5] (fun iv wv => ∃ k : Nat, k ≤ L.length ∧ iv = .int .i64 ((k : Int) - 1) ∧ Hid (raheadGo x L rd ((L.take k).reverse) = F) ∧ Below w.heap.size w wv) (fun iv _ => (intOf iv + 1).toNat)
  case atStart => exact ⟨L.length, Nat.le_refl _, rfl, by show _ = _; rw [List.take_length]; exact HF.out, Below.refl _ _⟩
  case round =>
    obtain ⟨k, hk, rfl, HG, hB⟩ := hrel
    have g2 := C2 _ hB
    have zg := zC _ hB
    cases k with
    | zero =>
      have HE : rd = F := by rw [← HG.out]; rfl
      subst HE
      clear HG HF
      go_wp2
      go_ret
      exact ⟨rfl, hB⟩
    | succ i =>
      have hlt : i < L.length := by omega
      have hji : ((i + 1 : Nat) : Int) - 1 = (i : Int) := by omega
      rw [hji]
      clear hji
      have hlt' : (i : Int) < (L.length : Int) := by omega
      have h0i : (0 : Int) ≤ (i : Int) := by omega
      obtain ⟨b1, o1, e1, z1, c0, c1, c2, c3, c4, c5⟩ := (HV _ hB).one hlt
      subst e1
      have HS1 := show Hid (L[i].r ≤ rd → F = rd) from fun h => by rw [← HG.out]; exact raheadGo_stop hlt h
      have HS2 := show Hid (¬ L[i].r ≤ rd → totP x < 3 * wtP x (fromOn L L[i].r) → F = L[i].r) from fun h1 h2 => by rw [← HG.out]; exact raheadGo_at hlt h1 h2
      have HS3 := show Hid (¬ L[i].r ≤ rd → ¬ totP x < 3 * wtP x (fromOn L L[i].r) → raheadGo x L rd ((L.take i).reverse) = F) from fun h1 h2 => by rw [← HG.out]; exact (raheadGo_skip hlt h1 h2).symm
      generalize L[i] = y at *
      obtain ⟨yh, yr, ys, yhas, ybl, yf⟩ := y
      simp only at c0 c1 c2 c3 c4 c5 HS1 HS2 HS3
      clear c0 c2 c3 c4 c5 hk HG HF
      by_cases hle : yr ≤ rd
      · have HE : F = rd := HS1.out hle
        subst HE
        have m1 : ¬ F < yr := by omega
        clear HS1 HS2 HS3 hle
        go_wp2
        go_ret
        exact ⟨rfl, hB⟩
      · have m1 : rd < yr := by omega
        have HT2 : Hid (totP x < 3 * wtP x (fromOn L yr) → F = yr) := fun h => HS2.out hle h
        have HT3 : Hid (¬ totP x < 3 * wtP x (fromOn L yr) → raheadGo x L rd ((L.take i).reverse) = F) := fun h => HS3.out hle h
        clear HS1 HS2 HS3 hle
        go_wp2_with fail
        generalize wr = wq at *
        go_loopw [6, 7] (fun lv kv wv => ∃ (k : Nat) (q : List Int), k ≤ L.length ∧ kv = .int .i64 k ∧ Hid (q = fromOn (L.take k) yr) ∧ q.length ≤ k ∧ wv.ownsRow wq.heap.size 3 1 lv q.length (flatI q) ∧ Below wq.heap.size wq wv) (fun _ kv _ => L.length - (intOf kv).toNat)
        case atStart => exact ⟨0, [], Nat.zero_le _, rfl, rfl, Nat.zero_le _, World.ownsRow_nil _ _ _ _, Below.refl _ _⟩
        case round =>
          obtain ⟨k, q, hk, rfl, HQ, hql, hown, hbq⟩ := hrel
          have hBk := hB.trans (hbq.mono hB.size)
          have g3 := C2 _ hBk
          have zg3 := zC _ hBk
          by_cases hlk : k < L.length
          · have hlk' : (k : Int) < (L.length : Int) := by omega
            obtain ⟨b2, o2, e2, z2, a0, a1, a2, a3, a4, a5⟩ := (HV _ hBk).one hlk
            obtain ⟨rfl, rfl⟩ : b1 = b2 ∧ o1 = o2 := by simpa using e2
            clear e2
            have htk := List.take_succ_eq_append_getElem hlk
            generalize L[k] = z at *
            obtain ⟨zh, zr, zs, zhas, zbl, zf⟩ := z
            simp only at a0 a1 a2 a3 a4 a5
            have D2 : ∀ w', Below wr.heap.size wr w' → w'.cell? ⟨rb, 2, none⟩ = some (.slice (some ⟨b1, o1, none⟩) L.length lc) := fun w' h => C2 _ (hBk.trans (h.mono hBk.size))
            have D1 : ∀ w', Below wr.heap.size wr w' → w'.cell? ⟨b1, o1 + i * 6 + 1, none⟩ = some (.int .i64 yr) := fun w' h => ((hbq.trans (h.mono hbq.size)).cell (p := ⟨b1, o1 + i * 6 + 1, none⟩) z1).trans c1
            have DK : ∀ w', Below wr.heap.size wr w' → w'.cell? ⟨b1, o1 + k * 6 + 1, none⟩ = some (.int .i64 zr) := fun w' h => (h.cell (p := ⟨b1, o1 + k * 6 + 1, none⟩) z2).trans a1
            have hqd := hbq.drew
            have hod := hown.drew
            by_cases hge : yr ≤ zr
            · have HN : Hid (q ++ [zf] = fromOn (L.take (k + 1)) yr) := by
                show _ = _
                rw [htk, fromOn_snoc, if_pos hge, HQ.out]
              have hz1 := hqd.alloc hqd.size (.cells #[.int .i64 zf] 3)
              have hownA := hod.alloc (.cells #[.int .i64 zf] 3)
              obtain ⟨v2, w2, hr2, ho2, hgr2⟩ := app_ints _ wq.heap.size _ q hownA (some ⟨wr.drew.heap.size, 0, none⟩) 1 [zf] (IntsAt.blk (Blk.new _ _ _)) (by omega) (by simp) hz1.size 1 rfl
              have b2 : Below wq.heap.size wq w2 := hz1.grown hgr2 hz1.size (fun k e => (hownA.lt k e).1)
              have hBd := hBk.drew
              have g5 := C2 _ hBd
              have zg5 := zC _ hBd
              have a5d : wr.drew.cell? ⟨b1, o1 + k * 6 + 5, none⟩ = some (.int .i64 zf) := a5
              clear hownA hgr2 hz1 HQ htk HT2 HT3
              go_upto_region 8 with fail
              have bd : Below wr.heap.size wr wr.drew := (Below.refl _ _).drew
              refine wp_region_held (S := fun w' => Below wr.heap.size wr w') (by kernel_rfl) ?_
              refine wpAnyH_take (i := 0) (v := ?_) rfl (by kernel_rfl) (by kernel_rfl) (by kernel_rfl) (fun _ _ _ h => h) (Or.inl ⟨by kernel_rfl, ?_⟩) (by assumption) ?_
              rotate_left
              · intro w' hSw
                have e2 := D2 _ hSw
                have e1 := D1 _ hSw
                have ek := DK _ hSw
                go_simp
                first | (with_reducible rfl) | done | assumption | skip
              simp only [Act.put, List.getElem_toArray, List.getElem_cons_succ, List.getElem_cons_zero, List.setIfInBounds_toArray, List.set_cons_zero, List.set_cons_succ]
              refine wpAnyH_take (i := 1) (v := ?_) rfl (by kernel_rfl) (by kernel_rfl) (by kernel_rfl) (fun _ _ _ h => h) (Or.inl ⟨by kernel_rfl, ?_⟩) (by assumption) ?_
              rotate_left
              · intro w' hSw
                have e2 := D2 _ hSw
                have e1 := D1 _ hSw
                have ek := DK _ hSw
                go_simp
                first | (with_reducible rfl) | done | assumption | skip
              simp only [Act.put, List.getElem_toArray, List.getElem_cons_succ, List.getElem_cons_zero, List.setIfInBounds_toArray, List.set_cons_zero, List.set_cons_succ]
              refine wpAnyH_take (i := 2) (v := ?_) rfl (by kernel_rfl) (by kernel_rfl) (by kernel_rfl) (fun _ _ _ h => h) (Or.inl ⟨by kernel_rfl, ?_⟩) (by assumption) ?_
              rotate_left
              · intro w' hSw
                have e2 := D2 _ hSw
                have e1 := D1 _ hSw
                have ek := DK _ hSw
                go_simp
                first | (with_reducible rfl) | done | assumption | skip
              simp only [Act.put, List.getElem_toArray, List.getElem_cons_succ, List.getElem_cons_zero, List.setIfInBounds_toArray, List.set_cons_zero, List.set_cons_succ]
              refine wpAnyH_take (i := 3) (v := ?_) rfl (by kernel_rfl) (by kernel_rfl) (by kernel_rfl) (fun _ _ _ h => h) (Or.inl ⟨by kernel_rfl, ?_⟩) (by assumption) ?_
              rotate_left
              · intro w' hSw
                have e2 := D2 _ hSw
                have e1 := D1 _ hSw
                have ek := DK _ hSw
                go_simp
                first | (with_reducible rfl) | done | assumption | skip
              simp only [Act.put, List.getElem_toArray, List.getElem_cons_succ, List.getElem_cons_zero, List.setIfInBounds_toArray, List.set_cons_zero, List.set_cons_succ]
              refine wpAnyH_take (i := 4) (v := ?_) rfl (by kernel_rfl) (by kernel_rfl) (by kernel_rfl) (fun _ _ _ h => h) (Or.inl ⟨by kernel_rfl, ?_⟩) (by assumption) ?_
              rotate_left
              · intro w' hSw
                have e2 := D2 _ hSw
                have e1 := D1 _ hSw
                have ek := DK _ hSw
                go_simp
                first | (with_reducible rfl) | done | assumption | skip
              simp only [Act.put, List.getElem_toArray, List.getElem_cons_succ, List.getElem_cons_zero, List.setIfInBounds_toArray, List.set_cons_zero, List.set_cons_succ]
              refine wpAnyH_take (i := 5) (v := ?_) rfl (by kernel_rfl) (by kernel_rfl) (by kernel_rfl) (fun _ _ _ h => h) (Or.inl ⟨by kernel_rfl, ?_⟩) (by assumption) ?_
              rotate_left
              · intro w' hSw
                have e2 := D2 _ hSw
                have e1 := D1 _ hSw
                have ek := DK _ hSw
                go_simp
                first | (with_reducible rfl) | done | assumption | skip
              simp only [Act.put, List.getElem_toArray, List.getElem_cons_succ, List.getElem_cons_zero, List.setIfInBounds_toArray, List.set_cons_zero, List.set_cons_succ]
              refine wpAnyH_take (i := 6) (v := ?_) rfl (by kernel_rfl) (by kernel_rfl) (by kernel_rfl) (fun _ _ _ h => h) (Or.inl ⟨by kernel_rfl, ?_⟩) (by assumption) ?_
              rotate_left
              · intro w' hSw
                have e2 := D2 _ hSw
                have e1 := D1 _ hSw
                have ek := DK _ hSw
                go_simp
                first | (with_reducible rfl) | done | assumption | skip
              simp only [Act.put, List.getElem_toArray, List.getElem_cons_succ, List.getElem_cons_zero, List.setIfInBounds_toArray, List.set_cons_zero, List.set_cons_succ]
              refine wpAnyH_take (i := 7) (v := ?_) rfl (by kernel_rfl) (by kernel_rfl) (by kernel_rfl) (fun _ _ _ h => h) (Or.inl ⟨by kernel_rfl, ?_⟩) (by assumption) ?_
              rotate_left
              · intro w' hSw
                have e2 := D2 _ hSw
                have e1 := D1 _ hSw
                have ek := DK _ hSw
                go_simp
                first | (with_reducible rfl) | done | assumption | skip
              simp only [Act.put, List.getElem_toArray, List.getElem_cons_succ, List.getElem_cons_zero, List.setIfInBounds_toArray, List.set_cons_zero, List.set_cons_succ]
              refine wpAnyH_take (i := 8) (v := ?_) rfl (by kernel_rfl) (by kernel_rfl) (by kernel_rfl) (fun _ _ _ h => h) (Or.inl ⟨by kernel_rfl, ?_⟩) (by assumption) ?_
              rotate_left
              · intro w' hSw
                have e2 := D2 _ hSw
                have e1 := D1 _ hSw
                have ek := DK _ hSw
                go_simp
                first | (with_reducible rfl) | done | assumption | skip
              simp only [Act.put, List.getElem_toArray, List.getElem_cons_succ, List.getElem_cons_zero, List.setIfInBounds_toArray, List.set_cons_zero, List.set_cons_succ]
              refine wpAnyH_take (i := 9) (v := ?_) rfl (by kernel_rfl) (by kernel_rfl) (by kernel_rfl) (fun _ _ _ h => h) (Or.inl ⟨by kernel_rfl, ?_⟩) (by assumption) ?_
              rotate_left
              · intro w' hSw
                have e2 := D2 _ hSw
                have e1 := D1 _ hSw
                have ek := DK _ hSw
                go_simp
                first | (with_reducible rfl) | done | assumption | skip
              simp only [Act.put, List.getElem_toArray, List.getElem_cons_succ, List.getElem_cons_zero, List.setIfInBounds_toArray, List.set_cons_zero, List.set_cons_succ]
              refine wpAnyH_take (i := 10) (v := ?_) rfl (by kernel_rfl) (by kernel_rfl) (by kernel_rfl) (fun _ _ _ h => h) (Or.inl ⟨by kernel_rfl, ?_⟩) (by assumption) ?_
              rotate_left
              · intro w' hSw
                have e2 := D2 _ hSw
                have e1 := D1 _ hSw
                have ek := DK _ hSw
                go_simp
                first | (with_reducible rfl) | done | assumption | skip
              simp only [Act.put, List.getElem_toArray, List.getElem_cons_succ, List.getElem_cons_zero, List.setIfInBounds_toArray, List.set_cons_zero, List.set_cons_succ]
              refine wpAnyH_take (i := 11) (v := ?_) rfl (by kernel_rfl) (by kernel_rfl) (by kernel_rfl) (fun _ _ _ h => h) (Or.inl ⟨by kernel_rfl, ?_⟩) (by assumption) ?_
              rotate_left
              · intro w' hSw
                have e2 := D2 _ hSw
                have e1 := D1 _ hSw
                have ek := DK _ hSw
                go_simp
                first | (with_reducible rfl) | done | assumption | skip
              simp only [Act.put, List.getElem_toArray, List.getElem_cons_succ, List.getElem_cons_zero, List.setIfInBounds_toArray, List.set_cons_zero, List.set_cons_succ]
              refine wpAnyH_take (i := 12) (v := ?_) rfl (by kernel_rfl) (by kernel_rfl) (by kernel_rfl) (fun _ _ _ h => h) (Or.inl ⟨by kernel_rfl, ?_⟩) (by assumption) ?_
              rotate_left
              · intro w' hSw
                have e2 := D2 _ hSw
                have e1 := D1 _ hSw
                have ek := DK _ hSw
                go_simp
                first | (with_reducible rfl) | done | assumption | skip
              simp only [Act.put, List.getElem_toArray, List.getElem_cons_succ, List.getElem_cons_zero, List.setIfInBounds_toArray, List.set_cons_zero, List.set_cons_succ]
              refine wpAnyH_take (i := 13) (v := ?_) rfl (by kernel_rfl) (by kernel_rfl) (by kernel_rfl) (fun _ _ _ h => h) (Or.inl ⟨by kernel_rfl, ?_⟩) (by assumption) ?_
              rotate_left
              · intro w' hSw
                have e2 := D2 _ hSw
                have e1 := D1 _ hSw
                have ek := DK _ hSw
                go_simp
                first | (with_reducible rfl) | done | assumption | skip
              simp only [Act.put, List.getElem_toArray, List.getElem_cons_succ, List.getElem_cons_zero, List.setIfInBounds_toArray, List.set_cons_zero, List.set_cons_succ]
              refine wpAnyH_take (i := 14) (v := ?_) rfl (by kernel_rfl) (by kernel_rfl) (by kernel_rfl) (fun _ _ _ h => h) (Or.inl ⟨by kernel_rfl, ?_⟩) (by assumption) ?_
              rotate_left
              · intro w' hSw
                have e2 := D2 _ hSw
                have e1 := D1 _ hSw
                have ek := DK _ hSw
                go_simp
                first | (with_reducible rfl) | done | assumption | skip
              simp only [Act.put, List.getElem_toArray, List.getElem_cons_succ, List.getElem_cons_zero, List.setIfInBounds_toArray, List.set_cons_zero, List.set_cons_succ]
              refine wpAnyH_take (i := 15) (v := ?_) rfl (by kernel_rfl) (by kernel_rfl) (by kernel_rfl) (fun _ _ _ h => h) (Or.inl ⟨by kernel_rfl, ?_⟩) (by assumption) ?_
              rotate_left
              · intro w' hSw
                have e2 := D2 _ hSw
                have e1 := D1 _ hSw
                have ek := DK _ hSw
                go_simp
                first | (with_reducible rfl) | done | assumption | skip
              simp only [Act.put, List.getElem_toArray, List.getElem_cons_succ, List.getElem_cons_zero, List.setIfInBounds_toArray, List.set_cons_zero, List.set_cons_succ]
              refine wpAnyH_take (i := 16) (v := .bool true) rfl (by kernel_rfl) (by kernel_rfl) (by kernel_rfl) (fun _ _ _ h => h) (Or.inl ⟨by kernel_rfl, ?_⟩) (by assumption) ?_
              · intro w' hSw
                have e2 := D2 _ hSw
                have e1 := D1 _ hSw
                have ek := DK _ hSw
                go_simp
                first | (with_reducible rfl) | done | assumption | skip
              simp only [Act.put, List.getElem_toArray, List.getElem_cons_succ, List.getElem_cons_zero, List.setIfInBounds_toArray, List.set_cons_zero, List.set_cons_succ]
              refine wpAnyH_done (by kernel_rfl) ?_ _
              clear D1 D2 DK hge
              go_wp2_with (at_builtin; refine wpList_append_run rfl _ _ 24 rfl _ _ v2 w2 rfl rfl hr2 ?_)
              exact ⟨⟨k + 1, q ++ [zf], by omega, by go_num, HN, by simp; omega, ho2, b2⟩, by simp [intOf]; omega⟩
            · have HN : Hid (q = fromOn (L.take (k + 1)) yr) := by
                show _ = _
                rw [htk, fromOn_snoc, if_neg hge, HQ.out, List.append_nil]
              clear HQ htk HT2 HT3
              go_upto_region 8 with fail
              have bd : Below wr.heap.size wr wr.drew := (Below.refl _ _).drew
              refine wp_region_held (S := fun w' => Below wr.heap.size wr w') (by kernel_rfl) ?_
              refine wpAnyH_take (i := 0) (v := ?_) rfl (by kernel_rfl) (by kernel_rfl) (by kernel_rfl) (fun _ _ _ h => h) (Or.inl ⟨by kernel_rfl, ?_⟩) (by assumption) ?_
              rotate_left
              · intro w' hSw
                have e2 := D2 _ hSw
                have e1 := D1 _ hSw
                have ek := DK _ hSw
                go_simp
                first | (with_reducible rfl) | done | assumption | skip
              simp only [Act.put, List.getElem_toArray, List.getElem_cons_succ, List.getElem_cons_zero, List.setIfInBounds_toArray, List.set_cons_zero, List.set_cons_succ]
              refine wpAnyH_take (i := 1) (v := ?_) rfl (by kernel_rfl) (by kernel_rfl) (by kernel_rfl) (fun _ _ _ h => h) (Or.inl ⟨by kernel_rfl, ?_⟩) (by assumption) ?_
              rotate_left
              · intro w' hSw
                have e2 := D2 _ hSw
                have e1 := D1 _ hSw
                have ek := DK _ hSw
                go_simp
                first | (with_reducible rfl) | done | assumption | skip
              simp only [Act.put, List.getElem_toArray, List.getElem_cons_succ, List.getElem_cons_zero, List.setIfInBounds_toArray, List.set_cons_zero, List.set_cons_succ]
              refine wpAnyH_take (i := 2) (v := ?_) rfl (by kernel_rfl) (by kernel_rfl) (by kernel_rfl) (fun _ _ _ h => h) (Or.inl ⟨by kernel_rfl, ?_⟩) (by assumption) ?_
              rotate_left
              · intro w' hSw
                have e2 := D2 _ hSw
                have e1 := D1 _ hSw
                have ek := DK _ hSw
                go_simp
                first | (with_reducible rfl) | done | assumption | skip
              simp only [Act.put, List.getElem_toArray, List.getElem_cons_succ, List.getElem_cons_zero, List.setIfInBounds_toArray, List.set_cons_zero, List.set_cons_succ]
              refine wpAnyH_take (i := 3) (v := ?_) rfl (by kernel_rfl) (by kernel_rfl) (by kernel_rfl) (fun _ _ _ h => h) (Or.inl ⟨by kernel_rfl, ?_⟩) (by assumption) ?_
              rotate_left
              · intro w' hSw
                have e2 := D2 _ hSw
                have e1 := D1 _ hSw
                have ek := DK _ hSw
                go_simp
                first | (with_reducible rfl) | done | assumption | skip
              simp only [Act.put, List.getElem_toArray, List.getElem_cons_succ, List.getElem_cons_zero, List.setIfInBounds_toArray, List.set_cons_zero, List.set_cons_succ]
              refine wpAnyH_take (i := 4) (v := ?_) rfl (by kernel_rfl) (by kernel_rfl) (by kernel_rfl) (fun _ _ _ h => h) (Or.inl ⟨by kernel_rfl, ?_⟩) (by assumption) ?_
              rotate_left
              · intro w' hSw
                have e2 := D2 _ hSw
                have e1 := D1 _ hSw
                have ek := DK _ hSw
                go_simp
                first | (with_reducible rfl) | done | assumption | skip
              simp only [Act.put, List.getElem_toArray, List.getElem_cons_succ, List.getElem_cons_zero, List.setIfInBounds_toArray, List.set_cons_zero, List.set_cons_succ]
              refine wpAnyH_take (i := 5) (v := ?_) rfl (by kernel_rfl) (by kernel_rfl) (by kernel_rfl) (fun _ _ _ h => h) (Or.inl ⟨by kernel_rfl, ?_⟩) (by assumption) ?_
              rotate_left
              · intro w' hSw
                have e2 := D2 _ hSw
                have e1 := D1 _ hSw
                have ek := DK _ hSw
                go_simp
                first | (with_reducible rfl) | done | assumption | skip
              simp only [Act.put, List.getElem_toArray, List.getElem_cons_succ, List.getElem_cons_zero, List.setIfInBounds_toArray, List.set_cons_zero, List.set_cons_succ]
              refine wpAnyH_take (i := 6) (v := ?_) rfl (by kernel_rfl) (by kernel_rfl) (by kernel_rfl) (fun _ _ _ h => h) (Or.inl ⟨by kernel_rfl, ?_⟩) (by assumption) ?_
              rotate_left
              · intro w' hSw
                have e2 := D2 _ hSw
                have e1 := D1 _ hSw
                have ek := DK _ hSw
                go_simp
                first | (with_reducible rfl) | done | assumption | skip
              simp only [Act.put, List.getElem_toArray, List.getElem_cons_succ, List.getElem_cons_zero, List.setIfInBounds_toArray, List.set_cons_zero, List.set_cons_succ]
              refine wpAnyH_take (i := 7) (v := ?_) rfl (by kernel_rfl) (by kernel_rfl) (by kernel_rfl) (fun _ _ _ h => h) (Or.inl ⟨by kernel_rfl, ?_⟩) (by assumption) ?_
              rotate_left
              · intro w' hSw
                have e2 := D2 _ hSw
                have e1 := D1 _ hSw
                have ek := DK _ hSw
                go_simp
                first | (with_reducible rfl) | done | assumption | skip
              simp only [Act.put, List.getElem_toArray, List.getElem_cons_succ, List.getElem_cons_zero, List.setIfInBounds_toArray, List.set_cons_zero, List.set_cons_succ]
              refine wpAnyH_take (i := 8) (v := ?_) rfl (by kernel_rfl) (by kernel_rfl) (by kernel_rfl) (fun _ _ _ h => h) (Or.inl ⟨by kernel_rfl, ?_⟩) (by assumption) ?_
              rotate_left
              · intro w' hSw
                have e2 := D2 _ hSw
                have e1 := D1 _ hSw
                have ek := DK _ hSw
                go_simp
                first | (with_reducible rfl) | done | assumption | skip
              simp only [Act.put, List.getElem_toArray, List.getElem_cons_succ, List.getElem_cons_zero, List.setIfInBounds_toArray, List.set_cons_zero, List.set_cons_succ]
              refine wpAnyH_take (i := 9) (v := ?_) rfl (by kernel_rfl) (by kernel_rfl) (by kernel_rfl) (fun _ _ _ h => h) (Or.inl ⟨by kernel_rfl, ?_⟩) (by assumption) ?_
              rotate_left
              · intro w' hSw
                have e2 := D2 _ hSw
                have e1 := D1 _ hSw
                have ek := DK _ hSw
                go_simp
                first | (with_reducible rfl) | done | assumption | skip
              simp only [Act.put, List.getElem_toArray, List.getElem_cons_succ, List.getElem_cons_zero, List.setIfInBounds_toArray, List.set_cons_zero, List.set_cons_succ]
              refine wpAnyH_take (i := 10) (v := ?_) rfl (by kernel_rfl) (by kernel_rfl) (by kernel_rfl) (fun _ _ _ h => h) (Or.inl ⟨by kernel_rfl, ?_⟩) (by assumption) ?_
              rotate_left
              · intro w' hSw
                have e2 := D2 _ hSw
                have e1 := D1 _ hSw
                have ek := DK _ hSw
                go_simp
                first | (with_reducible rfl) | done | assumption | skip
              simp only [Act.put, List.getElem_toArray, List.getElem_cons_succ, List.getElem_cons_zero, List.setIfInBounds_toArray, List.set_cons_zero, List.set_cons_succ]
              refine wpAnyH_take (i := 11) (v := ?_) rfl (by kernel_rfl) (by kernel_rfl) (by kernel_rfl) (fun _ _ _ h => h) (Or.inl ⟨by kernel_rfl, ?_⟩) (by assumption) ?_
              rotate_left
              · intro w' hSw
                have e2 := D2 _ hSw
                have e1 := D1 _ hSw
                have ek := DK _ hSw
                go_simp
                first | (with_reducible rfl) | done | assumption | skip
              simp only [Act.put, List.getElem_toArray, List.getElem_cons_succ, List.getElem_cons_zero, List.setIfInBounds_toArray, List.set_cons_zero, List.set_cons_succ]
              refine wpAnyH_take (i := 12) (v := ?_) rfl (by kernel_rfl) (by kernel_rfl) (by kernel_rfl) (fun _ _ _ h => h) (Or.inl ⟨by kernel_rfl, ?_⟩) (by assumption) ?_
              rotate_left
              · intro w' hSw
                have e2 := D2 _ hSw
                have e1 := D1 _ hSw
                have ek := DK _ hSw
                go_simp
                first | (with_reducible rfl) | done | assumption | skip
              simp only [Act.put, List.getElem_toArray, List.getElem_cons_succ, List.getElem_cons_zero, List.setIfInBounds_toArray, List.set_cons_zero, List.set_cons_succ]
              refine wpAnyH_take (i := 13) (v := ?_) rfl (by kernel_rfl) (by kernel_rfl) (by kernel_rfl) (fun _ _ _ h => h) (Or.inl ⟨by kernel_rfl, ?_⟩) (by assumption) ?_
              rotate_left
              · intro w' hSw
                have e2 := D2 _ hSw
                have e1 := D1 _ hSw
                have ek := DK _ hSw
                go_simp
                first | (with_reducible rfl) | done | assumption | skip
              simp only [Act.put, List.getElem_toArray, List.getElem_cons_succ, List.getElem_cons_zero, List.setIfInBounds_toArray, List.set_cons_zero, List.set_cons_succ]
              refine wpAnyH_take (i := 14) (v := ?_) rfl (by kernel_rfl) (by kernel_rfl) (by kernel_rfl) (fun _ _ _ h => h) (Or.inl ⟨by kernel_rfl, ?_⟩) (by assumption) ?_
              rotate_left
              · intro w' hSw
                have e2 := D2 _ hSw
                have e1 := D1 _ hSw
                have ek := DK _ hSw
                go_simp
                first | (with_reducible rfl) | done | assumption | skip
              simp only [Act.put, List.getElem_toArray, List.getElem_cons_succ, List.getElem_cons_zero, List.setIfInBounds_toArray, List.set_cons_zero, List.set_cons_succ]
              refine wpAnyH_take (i := 15) (v := ?_) rfl (by kernel_rfl) (by kernel_rfl) (by kernel_rfl) (fun _ _ _ h => h) (Or.inl ⟨by kernel_rfl, ?_⟩) (by assumption) ?_
              rotate_left
              · intro w' hSw
                have e2 := D2 _ hSw
                have e1 := D1 _ hSw
                have ek := DK _ hSw
                go_simp
                first | (with_reducible rfl) | done | assumption | skip
              simp only [Act.put, List.getElem_toArray, List.getElem_cons_succ, List.getElem_cons_zero, List.setIfInBounds_toArray, List.set_cons_zero, List.set_cons_succ]
              refine wpAnyH_take (i := 16) (v := .bool false) rfl (by kernel_rfl) (by kernel_rfl) (by kernel_rfl) (fun _ _ _ h => h) (Or.inl ⟨by kernel_rfl, ?_⟩) (by assumption) ?_
              · intro w' hSw
                have e2 := D2 _ hSw
                have e1 := D1 _ hSw
                have ek := DK _ hSw
                go_simp
                first | (with_reducible rfl) | done | assumption | skip
              simp only [Act.put, List.getElem_toArray, List.getElem_cons_succ, List.getElem_cons_zero, List.setIfInBounds_toArray, List.set_cons_zero, List.set_cons_succ]
              refine wpAnyH_done (by kernel_rfl) ?_ _
              clear D1 D2 DK hge
              go_wp2
              exact ⟨⟨k + 1, q, by omega, by go_num, HN, by omega, hod, hqd⟩, by simp [intOf]; omega⟩
          · have hgk : ¬ (k : Int) < (L.length : Int) := by omega
            have hke : k = L.length := by omega
            have HE : Hid (fromOn L yr = q) := by show _ = _; rw [HQ.out, hke, List.take_length]
            clear HQ hke
            obtain ⟨qa, qc, rfl, hqI⟩ := IntsAt.of_owns hown
            have KM := rmore_any sa qa sc qc x q wr hx (by unfold maxLen; omega) hw (HS _ hBk) hqI
            have g0 := C0 _ hBk
            have HZ2 : Hid (totP x < 3 * wtP x q → F = yr) := fun h => HT2.out (by rw [HE.out]; exact h)
            have HZ3 : Hid (¬ totP x < 3 * wtP x q → raheadGo x L rd ((L.take i).reverse) = F) := fun h => HT3.out (by rw [HE.out]; first | exact h | omega)
            obtain ⟨Z, hZ⟩ : ∃ Z, decide (totP x < 3 * wtP x q) = Z := ⟨_, rfl⟩
            rw [hZ] at KM
            have HZ := show Hid (_ = _) from hZ
            clear hZ HT2 HT3 HE hown hqI
            go_wp2_with fail
            refine KM.mono ?_
            rintro e w3 ⟨rfl, b3⟩
            have hB3 := hBk.trans (b3.mono hBk.size)
            cases Z with
            | true =>
              have HE : F = yr := HZ2.out (by have h := of_decide_eq_true HZ.out; first | exact h | omega)
              subst HE
              have d3 := C2 _ hB3
              have zd3 := zC _ hB3
              have d1 := ((hbq.trans (b3.mono hbq.size)).cell (p := ⟨b1, o1 + i * 6 + 1, none⟩) z1).trans c1
              clear HZ HZ2 HZ3
              go_wp2
              go_ret
              exact ⟨rfl, hB3⟩
            | false =>
              have HN : Hid (raheadGo x L rd ((L.take i).reverse) = F) := HZ3.out (by have h := of_decide_eq_false HZ.out; first | exact h | omega)
              clear HZ HZ2 HZ3
              go_wp2
              exact ⟨⟨i, by omega, by go_num, HN, hB3⟩, by simp [intOf]⟩
end Go.Proofs.Ytimcddknoanghaa
