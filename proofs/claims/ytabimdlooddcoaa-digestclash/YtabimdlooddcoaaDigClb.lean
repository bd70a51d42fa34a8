/- Clashes (chapter 2, D5): the program's. -/
import Derived.Test.YtabimdlooddcoaaDigCla
namespace Go.Proofs.Ytabimdlooddcoaa
open Go.RowKit
set_option linter.unusedVariables false

/-- A way's cells are not an empty image's. -/
theorem Imgs.ne {w : World} {n cap g H : Nat} {E : List Ent} {t : TypeId} {x : Int} (h : Imgs w (.slice (some ⟨g, 0, none⟩) n cap) E) (hpos : 0 < E.length) (hB : Blk w H #[.int .i64 x, .slice none 0 0] t) : g ≠ H := by
  obtain ⟨g', e, _, _, q, _⟩ := h.at 0 hpos
  obtain ⟨b, off, ea, _⟩ := (h.1 E[0] (List.getElem_mem hpos)).2
  obtain rfl : g = g' := congrArg Addr.block (Option.some.inj e)
  intro hh
  subst hh
  rw [hB.cell, ea] at q
  simp at q

set_option maxHeartbeats 6400000 in
theorem clash_any (wd root c i c' i' : Int) (s t : ByteArray) (v v' : Value) (w : World) (ds ds' : List Int) (hw : -9223372036854775808 ≤ wd ∧ wd ≤ 9223372036854775807) (hss : s.size ≤ maxLen) (hst : t.size ≤ maxLen)
    (hr : Row w v (ds.map (Value.int .u64))) (hd : ∀ d ∈ ds, 0 ≤ d ∧ d ≤ 18446744073709551615) (hr' : Row w v' (ds'.map (Value.int .u64))) (hd' : ∀ d ∈ ds', 0 ≤ d ∧ d ≤ 18446744073709551615) :
    Calls Try.prog 19 #[.int .i64 wd, .int .u64 root, .string s, .agg #[.int .i64 c, .int .i64 i, v], .string t, .agg #[.int .i64 c', .int .i64 i', v']] w fun e w' => ∃ u, e = .returned u ∧ Told w' (clashP wd root s c i ds t c' i' ds') u ∧ Below w.heap.size w w' := by
  obtain ⟨va, vc, hv⟩ := hr.form
  obtain ⟨va', vc', hv'⟩ := hr'.form
  subst hv hv'
  rw [List.length_map] at *
  rw [List.length_map] at *
  have bA := below_four w (.cells #[.int .i64 c, .int .i64 i, .slice va ds.length vc] 34) (.cells #[.int .i64 c', .int .i64 i', .slice va' ds'.length vc'] 34) (.cells #[.int .i64 0, .slice none 0 0] 30) (.cells #[.int .i64 0, .slice none 0 0] 30)
  obtain ⟨kP, kQ, kR1, kR2⟩ := blk_four w #[.int .i64 c, .int .i64 i, .slice va ds.length vc] #[.int .i64 c', .int .i64 i', .slice va' ds'.length vc'] #[.int .i64 0, .slice none 0 0] #[.int .i64 0, .slice none 0 0] 34 34 30 30
  by_cases e1 : s = t
  · have t1 : (s.toList == t.toList) = true := by simp [e1]
    have HC : Hid (clashP wd root s c i ds t c' i' ds' = none) := clashP_none _ _ _ _ _ _ _ _ _ _ (.inl e1)
    clear e1
    go_enter Try.func19, Try.ntmps19
    go_wp2_with fail
    have q0 := kR1.cell 0
    have q1 := kR1.cell 1
    have q2 := kR2.cell 0
    have q3 := kR2.cell 1
    simp only [List.getElem?_toArray, List.getElem?_cons_succ, List.getElem?_cons_zero] at q0 q1 q2 q3
    generalize ((((w.alloc (.cells #[.int .i64 c, .int .i64 i, .slice va ds.length vc] 34)).alloc (.cells #[.int .i64 c', .int .i64 i', .slice va' ds'.length vc'] 34)).alloc (.cells #[.int .i64 0, .slice none 0 0] 30)).alloc (.cells #[.int .i64 0, .slice none 0 0] 30)) = wF at *
    refine bodyPost_ret (v := .tuple #[.agg #[.int .i64 0, .slice none 0 0], .agg #[.int .i64 0, .slice none 0 0], .bool false]) (by simp [results, Try.results19, go_sem, q0, q1, q2, q3]) rfl ?_
    exact ⟨_, rfl, by rw [HC.out]; exact told_none _, bA⟩
  · have t1 : (s.toList == t.toList) = false := by simp only [beq_eq_false_iff_ne, ne_eq]; exact fun e => e1 (bytes_eq e)
    by_cases e2 : i = i'
    · have t2 : (i != i') = false := by simp [e2]
      have rA := hr.below bA
      have rA' := hr'.below bA
      have E1 : Hid (s ≠ t) := e1
      have E2 : Hid (i = i') := e2
      clear e1 e2
      go_enter Try.func19, Try.ntmps19
      go_wp2_with fail
      generalize ((((w.alloc (.cells #[.int .i64 c, .int .i64 i, .slice va ds.length vc] 34)).alloc (.cells #[.int .i64 c', .int .i64 i', .slice va' ds'.length vc'] 34)).alloc (.cells #[.int .i64 0, .slice none 0 0] 30)).alloc (.cells #[.int .i64 0, .slice none 0 0] 30)) = wA at *
      have c0 := kP.cell 0
      have c1 := kP.cell 1
      have c2 := kP.cell 2
      have d0 := kQ.cell 0
      have d1 := kQ.cell 1
      have d2 := kQ.cell 2
      simp only [List.getElem?_toArray, List.getElem?_cons_succ, List.getElem?_cons_zero] at c0 c1 c2 d0 d1 d2
      have z1 := kP.lt
      have z2 := kQ.lt
      go_region_held3 (fun w' => w'.cell? ⟨w.heap.size, 0, none⟩ = some (.int .i64 c) ∧ w'.cell? ⟨w.heap.size, 1, none⟩ = some (.int .i64 i) ∧ w'.cell? ⟨w.heap.size, 2, none⟩ = some (.slice va ds.length vc) ∧ w'.cell? ⟨w.heap.size + 1, 0, none⟩ = some (.int .i64 c') ∧ w'.cell? ⟨w.heap.size + 1, 1, none⟩ = some (.int .i64 i') ∧ w'.cell? ⟨w.heap.size + 1, 2, none⟩ = some (.slice va' ds'.length vc')) (go_keep)
        (first
        | (go_at_call 37
           with_reducible refine (way_all wd c i s _ _ ds hw hss ?_ hd).mono ?_
           · exact row_drew rA
           rintro e w1 ⟨a3, cp3, E, rfl, hI3, HM3, b1'⟩
           have b1 : Below wA.heap.size wA w1 := ((Below.refl _ _).drew).trans b1'
           have x0 : w1.cell? ⟨w.heap.size, 0, none⟩ = some (.int .i64 c) := by rw [b1.cell (p := ⟨w.heap.size, 0, none⟩) z1]; exact c0
           have x1 : w1.cell? ⟨w.heap.size, 1, none⟩ = some (.int .i64 i) := by rw [b1.cell (p := ⟨w.heap.size, 1, none⟩) z1]; exact c1
           have x2 : w1.cell? ⟨w.heap.size, 2, none⟩ = some (.slice va ds.length vc) := by rw [b1.cell (p := ⟨w.heap.size, 2, none⟩) z1]; exact c2
           have y0 : w1.cell? ⟨w.heap.size + 1, 0, none⟩ = some (.int .i64 c') := by rw [b1.cell (p := ⟨w.heap.size + 1, 0, none⟩) z2]; exact d0
           have y1 : w1.cell? ⟨w.heap.size + 1, 1, none⟩ = some (.int .i64 i') := by rw [b1.cell (p := ⟨w.heap.size + 1, 1, none⟩) z2]; exact d1
           have y2 : w1.cell? ⟨w.heap.size + 1, 2, none⟩ = some (.slice va' ds'.length vc') := by rw [b1.cell (p := ⟨w.heap.size + 1, 2, none⟩) z2]; exact d2)
        | (go_at_call 37
           with_reducible refine (way_all wd c' i' t _ _ ds' hw hst ?_ hd').mono ?_
           · exact rA'.below b1
           rintro e w2 ⟨a4, cp4, F, rfl, hI4, HM4, b2'⟩
           have b2 : Below wA.heap.size wA w2 := b1.trans (b2'.mono b1.size)
           have x0' : w2.cell? ⟨w.heap.size, 0, none⟩ = some (.int .i64 c) := by rw [b2.cell (p := ⟨w.heap.size, 0, none⟩) z1]; exact c0
           have x1' : w2.cell? ⟨w.heap.size, 1, none⟩ = some (.int .i64 i) := by rw [b2.cell (p := ⟨w.heap.size, 1, none⟩) z1]; exact c1
           have x2' : w2.cell? ⟨w.heap.size, 2, none⟩ = some (.slice va ds.length vc) := by rw [b2.cell (p := ⟨w.heap.size, 2, none⟩) z1]; exact c2
           have y0' : w2.cell? ⟨w.heap.size + 1, 0, none⟩ = some (.int .i64 c') := by rw [b2.cell (p := ⟨w.heap.size + 1, 0, none⟩) z2]; exact d0
           have y1' : w2.cell? ⟨w.heap.size + 1, 1, none⟩ = some (.int .i64 i') := by rw [b2.cell (p := ⟨w.heap.size + 1, 1, none⟩) z2]; exact d1
           have y2' : w2.cell? ⟨w.heap.size + 1, 2, none⟩ = some (.slice va' ds'.length vc') := by rw [b2.cell (p := ⟨w.heap.size + 1, 2, none⟩) z2]; exact d2))
      clear x0 x1 x2 y0 y1 y2 x0' x1' x2' y0' y1' y2' c0 c1 c2 d0 d1 d2 rA rA'
      have hI3' := hI3.below b2'
      go_wp2_with fail
      refine (leads_any wd root _ E _ hw hI3' (img_small HM3.out (wayZ_small _ _ _ _ _))).mono ?_
      rintro e w3 ⟨rfl, b3'⟩
      rw [HM3.out, leads_wayZ]
      have b3 := b2.trans (b3'.mono b2.size)
      by_cases h3 : holdsP wd root s c i ds = true
      · have H3 := show Hid (_ = _) from h3
        rw [h3]
        clear h3
        go_wp2_with fail
        refine (leads_any wd root _ F _ hw (hI4.below b3') (img_small HM4.out (wayZ_small _ _ _ _ _))).mono ?_
        rintro e w4 ⟨rfl, b4'⟩
        rw [HM4.out, leads_wayZ]
        have b4 := b3.trans (b4'.mono b3.size)
        have hE := (hI3'.below b3').below b4'
        have hF := (hI4.below b3').below b4'
        by_cases h4 : holdsP wd root t c' i' ds' = true
        · have HC : Hid (clashP wd root s c i ds t c' i' ds' = firstUn (wayZ wd s c i ds) (wayZ wd t c' i' ds')) := clashP_yes _ _ _ _ _ _ _ _ _ _ E1.out E2.out H3.out h4
          have g3 : E.length ≤ 1099511627780 := by
            have h := wayZ_length wd s c i ds
            rw [← HM3.out, List.length_map] at h
            exact h
          have g4 : F.length ≤ 1099511627780 := by
            have h := wayZ_length wd t c' i' ds'
            rw [← HM4.out, List.length_map] at h
            exact h
          rw [h4]
          clear h4
          have HsE : Hid (∀ e ∈ E, e.ss.length ≤ 2) := img_small HM3.out (wayZ_small _ _ _ _ _)
          have HsF : Hid (∀ e ∈ F, e.ss.length ≤ 2) := img_small HM4.out (wayZ_small _ _ _ _ _)
          have HC2 : Hid (clashP wd root s c i ds t c' i' ds' = firstUn (E.map Ent.img) (F.map Ent.img)) := by
            have h := HC.out
            rw [← HM3.out, ← HM4.out] at h
            exact h
          have k1 := kR1.below b4 kR1.lt
          have k2 := kR2.below b4 kR2.lt
          have bb := bA.trans (b4.mono bA.size)
          clear hI3 hI4 hI3' b1 b1' b2 b2' b3 b3' b4 b4' kP kQ kR1 kR2 bA z1 z2 hr hr' HM3 HM4 HC
          have zz : (0 : Int) ≤ (E.length : Int) := by omega
          have zz2 : (0 : Int) ≤ (F.length : Int) := by omega
          go_wp2_with fail
          all_goals
            go_loopw [17, 57] (fun _ iv wv => ∃ k : Nat, k ≤ E.length ∧ k ≤ F.length ∧ iv = .int .i64 (k : Int) ∧ Hid (firstUn (E.map Ent.img) (F.map Ent.img) = firstUn ((E.map Ent.img).drop k) ((F.map Ent.img).drop k)) ∧ Below w4.heap.size w4 wv) (fun _ iv _ => E.length - (intOf iv).toNat)
            case atStart => exact ⟨0, Nat.zero_le _, Nat.zero_le _, rfl, rfl, Below.refl _ _⟩
            case round =>
              obtain ⟨k, hk, hk2, rfl, HA, hb⟩ := hrel
              have p1 := k1.below hb k1.lt
              have p2 := k2.below hb k2.lt
              have l1 := p1.lt
              have l2 := p2.lt
              by_cases hlt : k < E.length ∧ k < F.length
              · obtain ⟨hlt1, hlt2⟩ := hlt
                obtain ⟨g1, rfl, hg1, e0, e1, hS1⟩ := (hE.below hb).at k hlt1
                obtain ⟨g2, rfl, hg2, e2, e3, hS2⟩ := (hF.below hb).at k hlt2
                have x1 : (k : Int) < (E.length : Int) := by omega
                have x2 : (k : Int) < (F.length : Int) := by omega
                have HU : Hid (firstUn (E.map Ent.img) (F.map Ent.img) = if (E[k].tag, E[k].ss) = (F[k].tag, F[k].ss) then firstUn ((E.map Ent.img).drop (k + 1)) ((F.map Ent.img).drop (k + 1)) else some ((E[k].tag, E[k].ss), (F[k].tag, F[k].ss))) := by
                  refine HA.out.trans ?_
                  rw [firstUn_at _ _ k (by simpa using hlt1) (by simpa using hlt2)]
                  simp only [List.getElem_map]
                  rfl
                have Z1 : Hid (E[k].ss.length ≤ 2) := HsE.out _ (List.getElem_mem _)
                have Z2 : Hid (F[k].ss.length ≤ 2) := HsF.out _ (List.getElem_mem _)
                clear HA
                generalize hx : E[k] = ex at *
                generalize hy : F[k] = ey at *
                clear hx hy
                obtain ⟨tx, ax, cx, sx⟩ := ex
                obtain ⟨ty, ay, cy, sy⟩ := ey
                simp only at e0 e1 e2 e3 hS1 hS2 HU Z1 Z2
                go_wp2_with fail
                go_region_held3 (fun w' => w'.cell? ⟨g1, k * 2, none⟩ = some (.int .i64 tx) ∧ w'.cell? ⟨g1, k * 2 + 1, none⟩ = some (.slice ax sx.length cx) ∧ w'.cell? ⟨g2, k * 2, none⟩ = some (.int .i64 ty) ∧ w'.cell? ⟨g2, k * 2 + 1, none⟩ = some (.slice ay sy.length cy)) (go_keep)
                  (first
                  | (go_at_call 40
                     with_reducible refine (alike_any tx ty ax ay cx cy sx sy _ ?_ ?_ (Nat.le_trans Z1.out (by omega)) (Nat.le_trans Z2.out (by omega))).mono ?_
                     · exact hS1.below (Below.refl _ _).drew
                     · exact hS2.below (Below.refl _ _).drew
                     rintro e w5 ⟨rfl, b5'⟩
                     have b5 : Below wr.heap.size wr w5 := ((Below.refl _ _).drew).trans b5'
                     have m0 : w5.cell? ⟨g1, k * 2, none⟩ = some (.int .i64 tx) := by rw [b5.cell (p := ⟨g1, k * 2, none⟩) hg1]; exact e0
                     have m1 : w5.cell? ⟨g1, k * 2 + 1, none⟩ = some (.slice ax sx.length cx) := by rw [b5.cell (p := ⟨g1, k * 2 + 1, none⟩) hg1]; exact e1
                     have m2 : w5.cell? ⟨g2, k * 2, none⟩ = some (.int .i64 ty) := by rw [b5.cell (p := ⟨g2, k * 2, none⟩) hg2]; exact e2
                     have m3 : w5.cell? ⟨g2, k * 2 + 1, none⟩ = some (.slice ay sy.length cy) := by rw [b5.cell (p := ⟨g2, k * 2 + 1, none⟩) hg2]; exact e3))
                have n1 := p1.below b5 l1
                have n2 := p2.below b5 l2
                have ne1 := (hE.below hb).ne (by omega) p1
                have ne2 := (hE.below hb).ne (by omega) p2
                have ne3 := (hF.below hb).ne (by omega) p1
                have ne4 := (hF.below hb).ne (by omega) p2
                have hb5 := hb.trans (b5.mono hb.size)
                have hS1' := hS1.below b5
                have hS2' := hS2.below b5
                have bb5 := bb.trans (hb5.mono bb.size)
                clear p1 p2 e0 e1 e2 e3 hS1 hS2 b5'
                by_cases hne : (tx, sx) = (ty, sy)
                · have HU2 : Hid (firstUn (E.map Ent.img) (F.map Ent.img) = firstUn ((E.map Ent.img).drop (k + 1)) ((F.map Ent.img).drop (k + 1))) := by
                    have h := HU.out
                    rw [if_pos hne] at h
                    exact h
                  rw [show alikeP (tx, sx) (ty, sy) = true by simp [alikeP, hne]]
                  clear hne HU
                  go_wp2
                  exact ⟨⟨k + 1, hlt1, hlt2, by go_num, HU2.out, hb5⟩, by simp [intOf]; omega⟩
                · have HU2 : Hid (firstUn (E.map Ent.img) (F.map Ent.img) = some ((tx, sx), (ty, sy))) := by
                    have h := HU.out
                    rw [if_neg hne] at h
                    exact h
                  rw [show alikeP (tx, sx) (ty, sy) = false by simp [alikeP]; simpa using hne]
                  clear hne HU
                  have r0 := n1.cell 0
                  have r1 := n1.cell 1
                  have r2 := n2.cell 0
                  have r3 := n2.cell 1
                  have f0 := n1.frozen 0
                  have f1 := n1.frozen 1
                  have f2 := n2.frozen 0
                  have f3 := n2.frozen 1
                  simp only [List.getElem?_toArray, List.getElem?_cons_succ, List.getElem?_cons_zero] at r0 r1 r2 r3
                  have l1' := n1.lt
                  have l2' := n2.lt
                  obtain ⟨bF, q0, q1, q2, q3⟩ := four_stores (w := w) (B := w.heap.size) (show w.heap.size + 1 + 1 ≠ w.heap.size + 1 + 1 + 1 by omega) (by omega) (by omega) (.int .i64 tx) (.slice ax sx.length cx) (.int .i64 ty) (.slice ay sy.length cy) n1 n2 bb5
                  have hT1 := strs_four hS1' n1 n2 (.int .i64 tx) (.slice ax sx.length cx) (.int .i64 ty) (.slice ay sy.length cy)
                  have hT2 := strs_four hS2' n1 n2 (.int .i64 tx) (.slice ax sx.length cx) (.int .i64 ty) (.slice ay sy.length cy)
                  have M0 : ((w5.setCell ⟨w.heap.size + 1 + 1, 0, none⟩ (.int .i64 tx)).setCell ⟨w.heap.size + 1 + 1, 1, none⟩ (.slice ax sx.length cx)).cell? ⟨g1, k * 2, none⟩ = some (.int .i64 tx) := by rw [cell_off _ _ _ (Ne.symm ne1), cell_off _ _ _ (Ne.symm ne1)]; exact m0
                  have M1 : ((w5.setCell ⟨w.heap.size + 1 + 1, 0, none⟩ (.int .i64 tx)).setCell ⟨w.heap.size + 1 + 1, 1, none⟩ (.slice ax sx.length cx)).cell? ⟨g1, k * 2 + 1, none⟩ = some (.slice ax sx.length cx) := by rw [cell_off _ _ _ (Ne.symm ne1), cell_off _ _ _ (Ne.symm ne1)]; exact m1
                  have M2 : ((w5.setCell ⟨w.heap.size + 1 + 1, 0, none⟩ (.int .i64 tx)).setCell ⟨w.heap.size + 1 + 1, 1, none⟩ (.slice ax sx.length cx)).cell? ⟨g2, k * 2, none⟩ = some (.int .i64 ty) := by rw [cell_off _ _ _ (Ne.symm ne3), cell_off _ _ _ (Ne.symm ne3)]; exact m2
                  have M3 : ((w5.setCell ⟨w.heap.size + 1 + 1, 0, none⟩ (.int .i64 tx)).setCell ⟨w.heap.size + 1 + 1, 1, none⟩ (.slice ax sx.length cx)).cell? ⟨g2, k * 2 + 1, none⟩ = some (.slice ay sy.length cy) := by rw [cell_off _ _ _ (Ne.symm ne3), cell_off _ _ _ (Ne.symm ne3)]; exact m3
                  have N0 : ((((w5.setCell ⟨w.heap.size + 1 + 1, 0, none⟩ (.int .i64 tx)).setCell ⟨w.heap.size + 1 + 1, 1, none⟩ (.slice ax sx.length cx)).setCell ⟨w.heap.size + 1 + 1 + 1, 0, none⟩ (.int .i64 ty)).setCell ⟨w.heap.size + 1 + 1 + 1, 1, none⟩ (.slice ay sy.length cy)).cell? ⟨g1, k * 2, none⟩ = some (.int .i64 tx) := by rw [cell_off _ _ _ (Ne.symm ne2), cell_off _ _ _ (Ne.symm ne2)]; exact M0
                  have N1 : ((((w5.setCell ⟨w.heap.size + 1 + 1, 0, none⟩ (.int .i64 tx)).setCell ⟨w.heap.size + 1 + 1, 1, none⟩ (.slice ax sx.length cx)).setCell ⟨w.heap.size + 1 + 1 + 1, 0, none⟩ (.int .i64 ty)).setCell ⟨w.heap.size + 1 + 1 + 1, 1, none⟩ (.slice ay sy.length cy)).cell? ⟨g1, k * 2 + 1, none⟩ = some (.slice ax sx.length cx) := by rw [cell_off _ _ _ (Ne.symm ne2), cell_off _ _ _ (Ne.symm ne2)]; exact M1
                  have N2 : ((((w5.setCell ⟨w.heap.size + 1 + 1, 0, none⟩ (.int .i64 tx)).setCell ⟨w.heap.size + 1 + 1, 1, none⟩ (.slice ax sx.length cx)).setCell ⟨w.heap.size + 1 + 1 + 1, 0, none⟩ (.int .i64 ty)).setCell ⟨w.heap.size + 1 + 1 + 1, 1, none⟩ (.slice ay sy.length cy)).cell? ⟨g2, k * 2, none⟩ = some (.int .i64 ty) := by rw [cell_off _ _ _ (Ne.symm ne4), cell_off _ _ _ (Ne.symm ne4)]; exact M2
                  have N3 : ((((w5.setCell ⟨w.heap.size + 1 + 1, 0, none⟩ (.int .i64 tx)).setCell ⟨w.heap.size + 1 + 1, 1, none⟩ (.slice ax sx.length cx)).setCell ⟨w.heap.size + 1 + 1 + 1, 0, none⟩ (.int .i64 ty)).setCell ⟨w.heap.size + 1 + 1 + 1, 1, none⟩ (.slice ay sy.length cy)).cell? ⟨g2, k * 2 + 1, none⟩ = some (.slice ay sy.length cy) := by rw [cell_off _ _ _ (Ne.symm ne4), cell_off _ _ _ (Ne.symm ne4)]; exact M3
                  have HB : Hid (Below w.heap.size w ((((w5.setCell ⟨w.heap.size + 1 + 1, 0, none⟩ (.int .i64 tx)).setCell ⟨w.heap.size + 1 + 1, 1, none⟩ (.slice ax sx.length cx)).setCell ⟨w.heap.size + 1 + 1 + 1, 0, none⟩ (.int .i64 ty)).setCell ⟨w.heap.size + 1 + 1 + 1, 1, none⟩ (.slice ay sy.length cy)).drew ∧ Told ((((w5.setCell ⟨w.heap.size + 1 + 1, 0, none⟩ (.int .i64 tx)).setCell ⟨w.heap.size + 1 + 1, 1, none⟩ (.slice ax sx.length cx)).setCell ⟨w.heap.size + 1 + 1 + 1, 0, none⟩ (.int .i64 ty)).setCell ⟨w.heap.size + 1 + 1 + 1, 1, none⟩ (.slice ay sy.length cy)).drew (clashP wd root s c i ds t c' i' ds') (.tuple #[.agg #[.int .i64 tx, .slice ax sx.length cx], .agg #[.int .i64 ty, .slice ay sy.length cy], .bool true])) := by
                    refine ⟨bF.drew, ?_⟩
                    rw [HC2.out, HU2.out]
                    exact ⟨tx, ty, sx, sy, ax, ay, cx, cy, rfl, hT1.below (Below.refl _ _).drew, hT2.below (Below.refl _ _).drew, Z1.out, Z2.out, rfl⟩
                  have HQ : Hid (((((w5.setCell ⟨w.heap.size + 1 + 1, 0, none⟩ (.int .i64 tx)).setCell ⟨w.heap.size + 1 + 1, 1, none⟩ (.slice ax sx.length cx)).setCell ⟨w.heap.size + 1 + 1 + 1, 0, none⟩ (.int .i64 ty)).setCell ⟨w.heap.size + 1 + 1 + 1, 1, none⟩ (.slice ay sy.length cy)).cell? ⟨w.heap.size + 1 + 1, 0, none⟩ = some (.int .i64 tx) ∧ ((((w5.setCell ⟨w.heap.size + 1 + 1, 0, none⟩ (.int .i64 tx)).setCell ⟨w.heap.size + 1 + 1, 1, none⟩ (.slice ax sx.length cx)).setCell ⟨w.heap.size + 1 + 1 + 1, 0, none⟩ (.int .i64 ty)).setCell ⟨w.heap.size + 1 + 1 + 1, 1, none⟩ (.slice ay sy.length cy)).cell? ⟨w.heap.size + 1 + 1, 1, none⟩ = some (.slice ax sx.length cx) ∧ ((((w5.setCell ⟨w.heap.size + 1 + 1, 0, none⟩ (.int .i64 tx)).setCell ⟨w.heap.size + 1 + 1, 1, none⟩ (.slice ax sx.length cx)).setCell ⟨w.heap.size + 1 + 1 + 1, 0, none⟩ (.int .i64 ty)).setCell ⟨w.heap.size + 1 + 1 + 1, 1, none⟩ (.slice ay sy.length cy)).cell? ⟨w.heap.size + 1 + 1 + 1, 0, none⟩ = some (.int .i64 ty) ∧ ((((w5.setCell ⟨w.heap.size + 1 + 1, 0, none⟩ (.int .i64 tx)).setCell ⟨w.heap.size + 1 + 1, 1, none⟩ (.slice ax sx.length cx)).setCell ⟨w.heap.size + 1 + 1 + 1, 0, none⟩ (.int .i64 ty)).setCell ⟨w.heap.size + 1 + 1 + 1, 1, none⟩ (.slice ay sy.length cy)).cell? ⟨w.heap.size + 1 + 1 + 1, 1, none⟩ = some (.slice ay sy.length cy)) := ⟨q0, q1, q2, q3⟩
                  have HM : Hid (((w5.setCell ⟨w.heap.size + 1 + 1, 0, none⟩ (.int .i64 tx)).setCell ⟨w.heap.size + 1 + 1, 1, none⟩ (.slice ax sx.length cx)).cell? ⟨g1, k * 2, none⟩ = some (.int .i64 tx) ∧ ((w5.setCell ⟨w.heap.size + 1 + 1, 0, none⟩ (.int .i64 tx)).setCell ⟨w.heap.size + 1 + 1, 1, none⟩ (.slice ax sx.length cx)).cell? ⟨g1, k * 2 + 1, none⟩ = some (.slice ax sx.length cx) ∧ ((w5.setCell ⟨w.heap.size + 1 + 1, 0, none⟩ (.int .i64 tx)).setCell ⟨w.heap.size + 1 + 1, 1, none⟩ (.slice ax sx.length cx)).cell? ⟨g2, k * 2, none⟩ = some (.int .i64 ty) ∧ ((w5.setCell ⟨w.heap.size + 1 + 1, 0, none⟩ (.int .i64 tx)).setCell ⟨w.heap.size + 1 + 1, 1, none⟩ (.slice ax sx.length cx)).cell? ⟨g2, k * 2 + 1, none⟩ = some (.slice ay sy.length cy)) := ⟨M0, M1, M2, M3⟩
                  have HN : Hid (((((w5.setCell ⟨w.heap.size + 1 + 1, 0, none⟩ (.int .i64 tx)).setCell ⟨w.heap.size + 1 + 1, 1, none⟩ (.slice ax sx.length cx)).setCell ⟨w.heap.size + 1 + 1 + 1, 0, none⟩ (.int .i64 ty)).setCell ⟨w.heap.size + 1 + 1 + 1, 1, none⟩ (.slice ay sy.length cy)).cell? ⟨g1, k * 2, none⟩ = some (.int .i64 tx) ∧ ((((w5.setCell ⟨w.heap.size + 1 + 1, 0, none⟩ (.int .i64 tx)).setCell ⟨w.heap.size + 1 + 1, 1, none⟩ (.slice ax sx.length cx)).setCell ⟨w.heap.size + 1 + 1 + 1, 0, none⟩ (.int .i64 ty)).setCell ⟨w.heap.size + 1 + 1 + 1, 1, none⟩ (.slice ay sy.length cy)).cell? ⟨g1, k * 2 + 1, none⟩ = some (.slice ax sx.length cx) ∧ ((((w5.setCell ⟨w.heap.size + 1 + 1, 0, none⟩ (.int .i64 tx)).setCell ⟨w.heap.size + 1 + 1, 1, none⟩ (.slice ax sx.length cx)).setCell ⟨w.heap.size + 1 + 1 + 1, 0, none⟩ (.int .i64 ty)).setCell ⟨w.heap.size + 1 + 1 + 1, 1, none⟩ (.slice ay sy.length cy)).cell? ⟨g2, k * 2, none⟩ = some (.int .i64 ty) ∧ ((((w5.setCell ⟨w.heap.size + 1 + 1, 0, none⟩ (.int .i64 tx)).setCell ⟨w.heap.size + 1 + 1, 1, none⟩ (.slice ax sx.length cx)).setCell ⟨w.heap.size + 1 + 1 + 1, 0, none⟩ (.int .i64 ty)).setCell ⟨w.heap.size + 1 + 1 + 1, 1, none⟩ (.slice ay sy.length cy)).cell? ⟨g2, k * 2 + 1, none⟩ = some (.slice ay sy.length cy)) := ⟨N0, N1, N2, N3⟩
                  clear M0 M1 M2 M3 N0 N1 N2 N3 q0 q1 q2 q3 bF hT1 hT2 HU2 HC2 Z1 Z2 hS1' hS2' n1 n2 hb5 bb5 ne1 ne2 ne3 ne4 b5 hb bb k1 k2 hE hF HsE HsF hw hss hst hd hd' t1 t2 E1 E2 H3 zz zz2 hk hk2 l1 l2 hg1 hg2
                  go_wp2_with fail
                  go_region_held3 (fun w' => w'.cell? ⟨g1, k * 2, none⟩ = some (.int .i64 tx) ∧ w'.cell? ⟨g1, k * 2 + 1, none⟩ = some (.slice ax sx.length cx) ∧ w'.cell? ⟨g2, k * 2, none⟩ = some (.int .i64 ty) ∧ w'.cell? ⟨g2, k * 2 + 1, none⟩ = some (.slice ay sy.length cy)) (first | exact ⟨m0, m1, m2, m3⟩ | exact HM | exact HN) (fail)
                  go_wp2
                  obtain ⟨q0, q1, q2, q3⟩ := HQ
                  refine bodyPost_ret (v := .tuple #[.agg #[.int .i64 tx, .slice ax sx.length cx], .agg #[.int .i64 ty, .slice ay sy.length cy], .bool true]) (by simp [results, Try.results19, go_sem, q0, q1, q2, q3]) rfl ?_
                  exact ⟨_, rfl, HB.2, HB.1⟩
              · have HU2 : Hid (clashP wd root s c i ds t c' i' ds' = none) := HC2.out.trans (HA.out.trans (firstUn_end _ _ k (by simp only [List.length_map]; omega)))
                have bbr := bb.trans (hb.mono bb.size)
                have f0 := p1.frozen 0
                have f1 := p1.frozen 1
                have f2 := p2.frozen 0
                have f3 := p2.frozen 1
                have r0 := p1.cell 0
                have r1 := p1.cell 1
                have r2 := p2.cell 0
                have r3 := p2.cell 1
                simp only [List.getElem?_toArray, List.getElem?_cons_succ, List.getElem?_cons_zero] at r0 r1 r2 r3
                obtain ⟨bF, q0, q1, q2, q3⟩ := four_stores (w := w) (B := w.heap.size) (show w.heap.size + 1 + 1 ≠ w.heap.size + 1 + 1 + 1 by omega) (by omega) (by omega) (.int .i64 0) (.slice none 0 0) (.int .i64 0) (.slice none 0 0) p1 p2 bbr
                first
                | (have x : ¬ (k : Int) < (E.length : Int) := by omega)
                | (have x : ¬ (k : Int) < (F.length : Int) := by omega)
                clear hlt
                go_wp2
                generalize ((((wr.setCell ⟨w.heap.size + 1 + 1, 0, none⟩ (.int .i64 0)).setCell ⟨w.heap.size + 1 + 1, 1, none⟩ (.slice none 0 0)).setCell ⟨w.heap.size + 1 + 1 + 1, 0, none⟩ (.int .i64 0)).setCell ⟨w.heap.size + 1 + 1 + 1, 1, none⟩ (.slice none 0 0)) = wF at *
                refine bodyPost_ret (v := .tuple #[.agg #[.int .i64 0, .slice none 0 0], .agg #[.int .i64 0, .slice none 0 0], .bool false]) (by simp [results, Try.results19, go_sem, q0, q1, q2, q3]) rfl ?_
                exact ⟨_, rfl, by rw [HU2.out]; exact told_none _, bF⟩
        · have h4' : holdsP wd root t c' i' ds' = false := by simpa using h4
          have HC : Hid (clashP wd root s c i ds t c' i' ds' = none) := clashP_none _ _ _ _ _ _ _ _ _ _ (.inr (.inr (.inr h4')))
          rw [h4']
          clear h4 h4'
          have bb := bA.trans (b4.mono bA.size)
          have k1 := kR1.below b4 kR1.lt
          have k2 := kR2.below b4 kR2.lt
          have z3 := k1.lt
          have z4 := k2.lt
          have r0 := k1.cell 0
          have r1 := k1.cell 1
          have r2 := k2.cell 0
          have r3 := k2.cell 1
          have f0 := k1.frozen 0
          have f1 := k1.frozen 1
          have f2 := k2.frozen 0
          have f3 := k2.frozen 1
          simp only [List.getElem?_toArray, List.getElem?_cons_succ, List.getElem?_cons_zero] at r0 r1 r2 r3
          obtain ⟨bF, q0, q1, q2, q3⟩ := four_stores (w := w) (B := w.heap.size) (show w.heap.size + 1 + 1 ≠ w.heap.size + 1 + 1 + 1 by omega) (by omega) (by omega) (.int .i64 0) (.slice none 0 0) (.int .i64 0) (.slice none 0 0) k1 k2 bb
          go_wp2_with fail
          generalize ((((w4.setCell ⟨w.heap.size + 1 + 1, 0, none⟩ (.int .i64 0)).setCell ⟨w.heap.size + 1 + 1, 1, none⟩ (.slice none 0 0)).setCell ⟨w.heap.size + 1 + 1 + 1, 0, none⟩ (.int .i64 0)).setCell ⟨w.heap.size + 1 + 1 + 1, 1, none⟩ (.slice none 0 0)) = wF at *
          refine bodyPost_ret (v := .tuple #[.agg #[.int .i64 0, .slice none 0 0], .agg #[.int .i64 0, .slice none 0 0], .bool false]) (by simp [results, Try.results19, go_sem, q0, q1, q2, q3]) rfl ?_
          exact ⟨_, rfl, by rw [HC.out]; exact told_none _, bF⟩
      · have h3' : holdsP wd root s c i ds = false := by simpa using h3
        have HC : Hid (clashP wd root s c i ds t c' i' ds' = none) := clashP_none _ _ _ _ _ _ _ _ _ _ (.inr (.inr (.inl h3')))
        rw [h3']
        clear h3 h3'
        have bb := bA.trans (b3.mono bA.size)
        have k1 := kR1.below b3 kR1.lt
        have k2 := kR2.below b3 kR2.lt
        have z3 := k1.lt
        have z4 := k2.lt
        have r0 := k1.cell 0
        have r1 := k1.cell 1
        have r2 := k2.cell 0
        have r3 := k2.cell 1
        have f0 := k1.frozen 0
        have f1 := k1.frozen 1
        have f2 := k2.frozen 0
        have f3 := k2.frozen 1
        simp only [List.getElem?_toArray, List.getElem?_cons_succ, List.getElem?_cons_zero] at r0 r1 r2 r3
        obtain ⟨bF, q0, q1, q2, q3⟩ := four_stores (w := w) (B := w.heap.size) (show w.heap.size + 1 + 1 ≠ w.heap.size + 1 + 1 + 1 by omega) (by omega) (by omega) (.int .i64 0) (.slice none 0 0) (.int .i64 0) (.slice none 0 0) k1 k2 bb
        go_wp2_with fail
        generalize ((((w3.setCell ⟨w.heap.size + 1 + 1, 0, none⟩ (.int .i64 0)).setCell ⟨w.heap.size + 1 + 1, 1, none⟩ (.slice none 0 0)).setCell ⟨w.heap.size + 1 + 1 + 1, 0, none⟩ (.int .i64 0)).setCell ⟨w.heap.size + 1 + 1 + 1, 1, none⟩ (.slice none 0 0)) = wF at *
        refine bodyPost_ret (v := .tuple #[.agg #[.int .i64 0, .slice none 0 0], .agg #[.int .i64 0, .slice none 0 0], .bool false]) (by simp [results, Try.results19, go_sem, q0, q1, q2, q3]) rfl ?_
        exact ⟨_, rfl, by rw [HC.out]; exact told_none _, bF⟩
    · have t2 : (i != i') = true := by simp [e2]
      have HC : Hid (clashP wd root s c i ds t c' i' ds' = none) := clashP_none _ _ _ _ _ _ _ _ _ _ (.inr (.inl e2))
      clear e1 e2
      go_enter Try.func19, Try.ntmps19
      go_wp2_with fail
      have q0 := kR1.cell 0
      have q1 := kR1.cell 1
      have q2 := kR2.cell 0
      have q3 := kR2.cell 1
      simp only [List.getElem?_toArray, List.getElem?_cons_succ, List.getElem?_cons_zero] at q0 q1 q2 q3
      generalize ((((w.alloc (.cells #[.int .i64 c, .int .i64 i, .slice va ds.length vc] 34)).alloc (.cells #[.int .i64 c', .int .i64 i', .slice va' ds'.length vc'] 34)).alloc (.cells #[.int .i64 0, .slice none 0 0] 30)).alloc (.cells #[.int .i64 0, .slice none 0 0] 30)) = wF at *
      refine bodyPost_ret (v := .tuple #[.agg #[.int .i64 0, .slice none 0 0], .agg #[.int .i64 0, .slice none 0 0], .bool false]) (by simp [results, Try.results19, go_sem, q0, q1, q2, q3]) rfl ?_
      exact ⟨_, rfl, by rw [HC.out]; exact told_none _, bA⟩
end Go.Proofs.Ytabimdlooddcoaa
