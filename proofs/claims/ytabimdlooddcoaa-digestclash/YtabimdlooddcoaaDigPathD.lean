/- Paths (chapter 2, D3): the program's way, of a leaf that is there. -/
import Derived.Test.YtabimdlooddcoaaDigPath
import Derived.Deep.RegionLaw
import Derived.WalkSmall
namespace Go.Proofs.Ytabimdlooddcoaa
open Go.RowKit
set_option linter.unusedVariables false

theorem turns_cons (m j : Nat) (h : 2 ≤ m) : turnsP m j = decide (firstP m ≤ j) :: (if firstP m ≤ j then turnsP (m - firstP m) (j - firstP m) else turnsP (firstP m) j) := by
  by_cases hk : firstP m ≤ j
  · rw [turnsP_right m j h hk, if_pos hk]; simp [hk]
  · rw [turnsP_left m j h hk, if_neg hk]; simp [hk]

set_option maxHeartbeats 3200000 in
theorem path_some (wd : Int) (b off n cap i : Nat) (ss : List ByteArray) (w : World) (hw : -9223372036854775808 ≤ wd ∧ wd ≤ 9223372036854775807) (hn : n ≤ 1099511627776) (hl : ss.length = n) (hcap : n ≤ cap) (hm : cap ≤ maxLen) (hs : Strs w (some ⟨b, off, none⟩) ss) (hi : i < n) :
    Calls Try.prog 12 #[.int .i64 wd, .slice (some ⟨b, off, none⟩) n cap, .int .i64 i] w fun e w' =>
      ∃ v, e = .returned (.tuple #[.agg #[.int .i64 n, .int .i64 i, v], .int .i64 0]) ∧ Row w' v ((sidesP wd ss i).map (Value.int .u64)) ∧ Below w.heap.size w w' := by
  obtain ⟨i0, hinf, hz0, hz1, hz2⟩ := info_parts infoDig
  have hm' := hm
  unfold maxLen at hm'
  have hi1 : (i : Int) < (n : Int) := by omega
  have hi2 : decide ((i : Int) < 0) = false := by simp
  have hi3 : decide (n ≤ i) = false := by simpa using hi
  have HL := show Hid (_ = _) from hl
  clear hl
  go_enter Try.func12, Try.ntmps12
  go_wp2_with fail
  refine (turns_any n i _ hi hn).mono ?_
  rintro e w1 ⟨vd, rfl, hdn, b1⟩
  have kB1 : Blk w1 w.heap.size #[.int .i64 0, .int .i64 0, .slice none 0 0] 34 := ((Blk.new w _ _).alloc _).below b1 (by simp; omega)
  have kP1 : Blk w1 (w.heap.size + 1) #[.int .i64 n, .int .i64 i, .slice none 0 0] 34 := by
    have h := Blk.new (w.alloc (.cells #[.int .i64 0, .int .i64 0, .slice none 0 0] 34)) #[.int .i64 n, .int .i64 i, .slice none 0 0] 34
    rw [World.size_alloc] at h; exact h.below b1 (by simp)
  have hb1 : Below w.heap.size w w1 := (((Below.refl _ _).alloc (Nat.le_refl _) _).alloc (by simp) _).trans (b1.mono (by simp; omega))
  rw [World.size_alloc, World.size_alloc] at hdn
  clear b1
  obtain ⟨da, dc, rfl⟩ := owns_form hdn
  have hdlt : ∀ k, (Value.slice da (turnsP n i).length dc).ownBlock = some k → k < w1.heap.size := fun k e => (hdn.lt k e).2
  have hB1 := kP1.lt
  generalize hH : w1.heap.size = H at *
  generalize hLn : (turnsP n i).length = L at *
  have HLn := show Hid (_ = _) from hLn
  have HH := show Hid (_ = _) from hH
  clear hLn hH
  go_wp2_with fail
  go_loopw [1, 32] (fun lv tv wv => ∃ (t m o cp j : Nat) (cur : List ByteArray) (pre : List Int) (sv : Value), tv = .int .i64 t ∧ lv = .slice (some ⟨b, o, none⟩) m cp ∧ Hid (cur.length = m) ∧ m ≤ cp ∧ cp ≤ cap ∧ Strs w (some ⟨b, o, none⟩) cur ∧ j < m ∧ t + m ≤ n ∧ t ≤ L ∧
      Hid (pre.length = t) ∧ Hid ((turnsP n i).drop t = turnsP m j) ∧ Hid (sidesP wd ss i = pre ++ sidesP wd cur j) ∧ wv.ownsRow H 25 1 sv t (pre.map (Value.int .u64)) ∧ H ≤ wv.heap.size ∧
      Blk wv w.heap.size #[.int .i64 0, .int .i64 0, .slice none 0 0] 34 ∧ Blk wv (w.heap.size + 1) #[.int .i64 n, .int .i64 i, sv] 34 ∧ wv.ownsRow (w.heap.size + 2) 4 1 (.slice da L dc) L ((turnsP n i).map Value.bool) ∧ Below w.heap.size w wv) (fun _ tv _ => (L - (intOf tv).toNat))
  case atStart =>
    exact ⟨0, n, off, cap, i, ss, [], .slice none 0 0, rfl, rfl, HL, hcap, Nat.le_refl _, hs, hi, by omega, by omega, rfl, rfl, rfl, World.ownsRow_nil _ _ _ _, Nat.le_of_eq HH.out.symm, kB1, kP1, hdn, hb1⟩
  case round =>
    obtain ⟨t, m, o, cp, j, cur, pre, sv, rfl, rfl, Hcl, hmc, hcc, hcs, hjm, htm, htL, Hpl, Htd, Hsd, hown, hHw, kB, kP, hdn', hb⟩ := hrel
    by_cases htl : t < L
    · have hm2 : 2 ≤ m := by
        rcases Nat.lt_or_ge m 2 with h | h
        · exfalso
          have e1 := Htd.out
          rw [turnsP_one m j (by omega)] at e1
          have e2 := congrArg List.length e1
          rw [List.length_drop, HLn.out] at e2
          simp at e2; omega
        · exact h
      have htc := turns_cons m j hm2
      have hd : (turnsP n i)[t]? = some (decide (firstP m ≤ j)) := by
        have e1 := Htd.out
        rw [htc] at e1
        have e2 := congrArg (fun l => l[0]?) e1
        simpa using e2
      have Htd1 : Hid ((turnsP n i).drop (t + 1) = if firstP m ≤ j then turnsP (m - firstP m) (j - firstP m) else turnsP (firstP m) j) := by
        have e1 := Htd.out
        rw [htc] at e1
        have e2 := congrArg List.tail e1
        show _ = _
        rw [List.tail_drop] at e2
        simpa using e2
      obtain ⟨dg, rfl⟩ : ∃ dg, da = some ⟨dg, 0, none⟩ := by
        rcases hdn'.2 with ⟨_, h⟩ | ⟨g, c, cu, h, _⟩
        · omega
        · simp at h; exact ⟨g, h.1⟩
      have hdc : wr.cell? ⟨dg, t, none⟩ = some (.bool (decide (firstP m ≤ j))) := by
        rw [hdn'.cellAt t (by omega), List.getElem?_map, hd]; rfl
      have hf := firstP_spec m hm2
      have hR := sidesP_right wd cur j
      have hL := sidesP_left wd cur j
      rw [Hcl.out] at hR hL
      have HR := show Hid (_ → _) from hR hm2
      have HL' := show Hid (_ → _) from hL hm2
      clear hR hL hd htc
      by_cases hk : firstP m ≤ j
      · skip
        have HT := show Hid (_ = _) from HR.out hk
        have Htd2 : Hid (_ = _) := Htd1.out.trans (if_pos hk)
        rw [decide_eq_true hk] at hdc
        clear HR HL' Htd1
        go_wp2_with fail
        refine (first_any m _ hm2 (by omega)).mono ?_
        rintro e w2 ⟨rfl, rfl⟩
        have hS := hcs.take (firstP m)
        have hD := hcs.drop (firstP m)
        have HlS : Hid ((cur.take (firstP m)).length = firstP m) := by show _ = _; have := Hcl.out; simp; omega
        have HlD : Hid ((cur.drop (firstP m)).length = m - firstP m) := by show _ = _; have := Hcl.out; simp; omega
        generalize firstP m = k at *
        generalize cur.take k = sub at *
        generalize cur.drop k = rst at *
        have g1 : k ≤ cp := by omega
        have g2 : k ≤ m := by omega
        have g3 : ¬ cp = k := by omega
        go_wp2_with fail
        go_quiet (fail)
        go_wp2_with fail
        have hq : Below wr.heap.size wr (wr.drewN nq) := below_drewN (Below.refl _ _) nq
        have kP2 := kP.below hq kP.lt
        have kB2 := kB.below hq kB.lt
        have hown2 := owns_below hown hq
        have hdn2 := owns_below hdn' hq
        have hb2 := hb.trans (hq.mono hb.size)
        have hHw2 : H ≤ (wr.drewN nq).heap.size := hHw
        generalize wr.drewN nq = w2 at *
        clear kP kB hown hdn' hb hHw hcs hdc hs hq kB1 kP1 hb1 hdn
        have c2 := kP2.cell 2
        simp only [List.getElem?_toArray, List.getElem?_cons_succ, List.getElem?_cons_zero] at c2
        have l2 := kP2.lt
        go_region_law
          (first
          | (refine step_append_lies _ (by rfl) _ _ _ (by rfl) H 25 i0 (.int .u64 0) 1 8 Try.underlying32 hinf hz0 hz1 hz2 rfl (by omega) sv t (pre.map (Value.int .u64)) (by rfl) (hown3.alloc _) ⟨w3.heap.size, 0, none⟩ 1 1 [.int .u64 (aboveP wd sub)] (by rfl) (by rfl) (cell_one_new _ _ _) (by simp [Value.oneCell']) (by omega) (by unfold maxLen; omega) (by omega) (by simp; omega) (w3.heap.size + 1) (by simp) ?_
             intro g cg w4 hown4 hgrow hat hlt
             have kP4 := (kP3.alloc (.cells #[.int .u64 (aboveP wd sub)] 25)).grown hgrow (fun e => by have := (hown3.lt _ e).1; omega)
             have e2 := kP4.cell 2
             have g2 := kP4.frozen 2
             simp only [List.getElem?_toArray, List.getElem?_cons_succ, List.getElem?_cons_zero] at e2)
          | (go_simp
             go_at_call 30
             refine (above_any k (by omega) wd _ cp sub _ hw HlS.out ?_ ?_ ?_).mono ?_
             · omega
             · omega
             · exact hS.below hb2.drew
             rintro e w3 ⟨rfl, b3⟩
             have b23 : Below w2.heap.size w2 w3 := ((Below.refl _ _).drew).trans b3
             have kP3 := kP2.below b23 l2
             have hown3 := owns_below hown2 b23
             have hz3 : H ≤ w3.heap.size := Nat.le_trans hHw2 b23.size
             have l3 := kP3.lt
             have d2 := kP3.cell 2
             simp only [List.getElem?_toArray, List.getElem?_cons_succ, List.getElem?_cons_zero] at d2))
        all_goals
          have kB4 := ((kB2.below b23 kB2.lt).alloc (.cells #[.int .u64 (aboveP wd sub)] 25)).grown hgrow (fun e => by have := (hown3.lt _ e).1; omega)
          have hdn4 := ((owns_below hdn2 b23).alloc (.cells #[.int .u64 (aboveP wd sub)] 25)).kept hgrow (by
            by_cases hne : (Value.slice (some ⟨dg, 0, none⟩) L dc).ownBlock = sv.ownBlock
            · exfalso
              have h1 := hdlt dg rfl
              have h2 := (hown3.lt dg (hne.symm.trans rfl)).1
              omega
            · exact .inr hne)
          have hb3 : Below w.heap.size w w3 := hb2.trans (b23.mono hb2.size)
          have hb4 : Below w.heap.size w w4 := (hb3.alloc hb3.size _).grown hgrow (by have := hb3.size; simp; omega) (fun k e => by have := (hown3.lt k e).1; omega)
          have hown5 := ownsRow_setCell_below hown4 (a := ⟨w.heap.size + 1, 2, none⟩) (by simp; omega) (.slice (some ⟨g, 0, none⟩) (t + 1) cg)
          have hdn5 := ownsRow_setCell_below hdn4 (a := ⟨w.heap.size + 1, 2, none⟩) (by simp) (.slice (some ⟨g, 0, none⟩) (t + 1) cg)
          have kP5 := kP4.set 2 (.slice (some ⟨g, 0, none⟩) (t + 1) cg)
          have kB5 := kB4.setOther ⟨w.heap.size + 1, 2, none⟩ (by simp) (.slice (some ⟨g, 0, none⟩) (t + 1) cg)
          have hb5 : Below w.heap.size w (w4.setCell ⟨w.heap.size + 1, 2, none⟩ (.slice (some ⟨g, 0, none⟩) (t + 1) cg)) := hb4.setCell (by simp) _
          have hz5 : H ≤ (w4.setCell ⟨w.heap.size + 1, 2, none⟩ (.slice (some ⟨g, 0, none⟩) (t + 1) cg)).heap.size := by
            rw [size_setCell]; have := hgrow.size; simp at this; omega
          have Hpre : Hid ((pre ++ [aboveP wd sub]).length = t + 1) := by show _ = _; rw [List.length_append, Hpl.out]; rfl
          have HP : Hid (sidesP wd ss i = (pre ++ [aboveP wd sub]) ++ sidesP wd rst (j - k)) := by
            show _ = _; rw [Hsd.out, HT.out, List.append_assoc]; rfl
          rw [← List.map_singleton, ← List.map_append] at hown5
          clear hown2 hown3 hown4 hdn2 hdn4 kP2 kP3 kP4 kB2 kB4 hgrow hat hlt hb2 hb3 hb4 b3 b23 Hpl Hsd HT c2 d2 hdlt
          go_wp2
          exact ⟨⟨t + 1, m - k, o + k, cp - k, j - k, rst, pre ++ [aboveP wd sub], _, by go_num, rfl, HlD, by omega, by omega, hD, by omega, by omega, by omega, Hpre, Htd2, HP, hown5, hz5, kB5, kP5, hdn5, hb5⟩, by simp [intOf]; omega⟩
      · skip
        have HT := show Hid (_ = _) from HL'.out hk
        have Htd2 : Hid (_ = _) := Htd1.out.trans (if_neg hk)
        rw [decide_eq_false hk] at hdc
        clear HR HL' Htd1
        go_wp2_with fail
        refine (first_any m _ hm2 (by omega)).mono ?_
        rintro e w2 ⟨rfl, rfl⟩
        have hS := hcs.take (firstP m)
        have hD := hcs.drop (firstP m)
        have HlS : Hid ((cur.take (firstP m)).length = firstP m) := by show _ = _; have := Hcl.out; simp; omega
        have HlD : Hid ((cur.drop (firstP m)).length = m - firstP m) := by show _ = _; have := Hcl.out; simp; omega
        generalize firstP m = k at *
        generalize cur.drop k = sub at *
        generalize cur.take k = rst at *
        have g1 : k ≤ cp := by omega
        have g2 : k ≤ m := by omega
        have g3 : ¬ cp = k := by omega
        go_wp2_with fail
        go_quiet (fail)
        go_wp2_with fail
        have hq : Below wr.heap.size wr (wr.drewN nq) := below_drewN (Below.refl _ _) nq
        have kP2 := kP.below hq kP.lt
        have kB2 := kB.below hq kB.lt
        have hown2 := owns_below hown hq
        have hdn2 := owns_below hdn' hq
        have hb2 := hb.trans (hq.mono hb.size)
        have hHw2 : H ≤ (wr.drewN nq).heap.size := hHw
        generalize wr.drewN nq = w2 at *
        clear kP kB hown hdn' hb hHw hcs hdc hs hq kB1 kP1 hb1 hdn
        have c2 := kP2.cell 2
        simp only [List.getElem?_toArray, List.getElem?_cons_succ, List.getElem?_cons_zero] at c2
        have l2 := kP2.lt
        go_region_law
          (first
          | (refine step_append_lies _ (by rfl) _ _ _ (by rfl) H 25 i0 (.int .u64 0) 1 8 Try.underlying32 hinf hz0 hz1 hz2 rfl (by omega) sv t (pre.map (Value.int .u64)) (by rfl) (hown3.alloc _) ⟨w3.heap.size, 0, none⟩ 1 1 [.int .u64 (aboveP wd sub)] (by rfl) (by rfl) (cell_one_new _ _ _) (by simp [Value.oneCell']) (by omega) (by unfold maxLen; omega) (by omega) (by simp; omega) (w3.heap.size + 1) (by simp) ?_
             intro g cg w4 hown4 hgrow hat hlt
             have kP4 := (kP3.alloc (.cells #[.int .u64 (aboveP wd sub)] 25)).grown hgrow (fun e => by have := (hown3.lt _ e).1; omega)
             have e2 := kP4.cell 2
             have g2 := kP4.frozen 2
             simp only [List.getElem?_toArray, List.getElem?_cons_succ, List.getElem?_cons_zero] at e2)
          | (go_simp
             go_at_call 30
             refine (above_any (m - k) (by omega) wd _ (cp - k) sub _ hw HlD.out ?_ ?_ ?_).mono ?_
             · omega
             · omega
             · exact hD.below hb2.drew
             rintro e w3 ⟨rfl, b3⟩
             have b23 : Below w2.heap.size w2 w3 := ((Below.refl _ _).drew).trans b3
             have kP3 := kP2.below b23 l2
             have hown3 := owns_below hown2 b23
             have hz3 : H ≤ w3.heap.size := Nat.le_trans hHw2 b23.size
             have l3 := kP3.lt
             have d2 := kP3.cell 2
             simp only [List.getElem?_toArray, List.getElem?_cons_succ, List.getElem?_cons_zero] at d2))
        all_goals
          have kB4 := ((kB2.below b23 kB2.lt).alloc (.cells #[.int .u64 (aboveP wd sub)] 25)).grown hgrow (fun e => by have := (hown3.lt _ e).1; omega)
          have hdn4 := ((owns_below hdn2 b23).alloc (.cells #[.int .u64 (aboveP wd sub)] 25)).kept hgrow (by
            by_cases hne : (Value.slice (some ⟨dg, 0, none⟩) L dc).ownBlock = sv.ownBlock
            · exfalso
              have h1 := hdlt dg rfl
              have h2 := (hown3.lt dg (hne.symm.trans rfl)).1
              omega
            · exact .inr hne)
          have hb3 : Below w.heap.size w w3 := hb2.trans (b23.mono hb2.size)
          have hb4 : Below w.heap.size w w4 := (hb3.alloc hb3.size _).grown hgrow (by have := hb3.size; simp; omega) (fun k e => by have := (hown3.lt k e).1; omega)
          have hown5 := ownsRow_setCell_below hown4 (a := ⟨w.heap.size + 1, 2, none⟩) (by simp; omega) (.slice (some ⟨g, 0, none⟩) (t + 1) cg)
          have hdn5 := ownsRow_setCell_below hdn4 (a := ⟨w.heap.size + 1, 2, none⟩) (by simp) (.slice (some ⟨g, 0, none⟩) (t + 1) cg)
          have kP5 := kP4.set 2 (.slice (some ⟨g, 0, none⟩) (t + 1) cg)
          have kB5 := kB4.setOther ⟨w.heap.size + 1, 2, none⟩ (by simp) (.slice (some ⟨g, 0, none⟩) (t + 1) cg)
          have hb5 : Below w.heap.size w (w4.setCell ⟨w.heap.size + 1, 2, none⟩ (.slice (some ⟨g, 0, none⟩) (t + 1) cg)) := hb4.setCell (by simp) _
          have hz5 : H ≤ (w4.setCell ⟨w.heap.size + 1, 2, none⟩ (.slice (some ⟨g, 0, none⟩) (t + 1) cg)).heap.size := by
            rw [size_setCell]; have := hgrow.size; simp at this; omega
          have Hpre : Hid ((pre ++ [aboveP wd sub]).length = t + 1) := by show _ = _; rw [List.length_append, Hpl.out]; rfl
          have HP : Hid (sidesP wd ss i = (pre ++ [aboveP wd sub]) ++ sidesP wd rst j) := by
            show _ = _; rw [Hsd.out, HT.out, List.append_assoc]; rfl
          rw [← List.map_singleton, ← List.map_append] at hown5
          clear hown2 hown3 hown4 hdn2 hdn4 kP2 kP3 kP4 kB2 kB4 hgrow hat hlt hb2 hb3 hb4 b3 b23 Hpl Hsd HT c2 d2 hdlt
          go_wp2
          exact ⟨⟨t + 1, k, o, cp, j, rst, pre ++ [aboveP wd sub], _, by go_num, rfl, HlS, by omega, by omega, hS, by omega, by omega, by omega, Hpre, Htd2, HP, hown5, hz5, kB5, kP5, hdn5, hb5⟩, by simp [intOf]; omega⟩
    · have hm1 : m ≤ 1 := by
        rcases Nat.lt_or_ge 1 m with h | h
        · exfalso
          have e1 := Htd.out
          rw [turns_cons m j h] at e1
          have e2 := congrArg List.length e1
          rw [List.length_drop, HLn.out] at e2
          simp at e2; omega
        · exact h
      have Hs : Hid (sidesP wd ss i = pre) := by
        show _ = _
        rw [Hsd.out, sidesP_one wd cur j (by rw [Hcl.out]; exact hm1), List.append_nil]
      obtain ⟨sa, sc, rfl⟩ := owns_form hown
      have c0 := kP.cell 0
      have c1 := kP.cell 1
      have c2 := kP.cell 2
      have e0 := kB.cell 0
      have e1 := kB.cell 1
      have e2 := kB.cell 2
      have f0 := kB.frozen 0
      have f1 := kB.frozen 1
      have f2 := kB.frozen 2
      simp only [List.getElem?_toArray, List.getElem?_cons_succ, List.getElem?_cons_zero] at c0 c1 c2 e0 e1 e2
      have hown3 := ownsRow_setCell_below (ownsRow_setCell_below (ownsRow_setCell_below hown (a := ⟨w.heap.size, 0, none⟩) (by simp; omega) (.int .i64 n)) (a := ⟨w.heap.size, 1, none⟩) (by simp; omega) (.int .i64 i)) (a := ⟨w.heap.size, 2, none⟩) (by simp; omega) (.slice sa t sc)
      have hb3 := ((hb.setCell (p := ⟨w.heap.size, 0, none⟩) (Nat.le_refl _) (.int .i64 n)).setCell (p := ⟨w.heap.size, 1, none⟩) (Nat.le_refl _) (.int .i64 i)).setCell (p := ⟨w.heap.size, 2, none⟩) (Nat.le_refl _) (.slice sa t sc)
      clear hown kP kB hb hdn' kB1 kP1 hdn hb1 hcs hs
      go_wp2
      exact bodyPost_ret (v := .tuple #[.agg #[.int .i64 n, .int .i64 i, .slice sa t sc], .int .i64 0]) (by simp [results, Try.results12, go_sem, e0, e1, e2]) rfl
        ⟨_, rfl, by rw [Hs.out]; exact row_of_owns hown3, hb3⟩
end Go.Proofs.Ytabimdlooddcoaa
