/- BenchMeets: two quorums share more than a third. -/
import Derived.Test.YthofmfnjlihpcaaBSeat
namespace Go.Proofs.Ythofmfnjlihpcaa
open Go.RowKit
set_option linter.unusedVariables false
set_option linter.unusedSimpArgs false

theorem wtP_none (l : List (Int × Int)) : wtP l [] = 0 := by
  unfold wtP
  induction l with
  | nil => rfl
  | cons x r ih => simp_all
theorem wtP_all : ∀ (l : List (Int × Int)) (m : List Int), (∀ x ∈ l, x.1 ∈ m) → wtP l m = totP l
  | [], m, h => rfl
  | x :: r, m, h => by
    have ih := wtP_all r m fun y hy => h y (by simp [hy])
    have hx := h x (by simp)
    simp only [wtP, totP, List.map_cons, List.sum_cons, if_pos hx] at ih ⊢
    omega
theorem wtP_meets : ∀ (l : List (Int × Int)) (a b c : List Int), (∀ x ∈ l, 0 ≤ x.2 ∧ x.2 ≤ 1099511627775) → (∀ z, z ∈ a → z ∈ b → z ∈ c) → wtP l a + wtP l b ≤ totP l + wtP l c
  | [], a, b, c, h, hc => by simp [wtP, totP]
  | x :: r, a, b, c, h, hc => by
    have ih := wtP_meets r a b c (fun y hy => h y (by simp [hy])) hc
    have hx := h x (by simp)
    have hz := hc x.1
    simp only [wtP, totP, List.map_cons, List.sum_cons] at ih ⊢
    by_cases h1 : x.1 ∈ a <;> by_cases h2 : x.1 ∈ b <;> by_cases h3 : x.1 ∈ c <;> simp only [h1, h2, h3, if_true, if_false] <;> first | omega | exact absurd (hz h1 h2) h3
theorem totP_pos {l : List (Int × Int)} (h : GoodB l) : 0 < totP l := by
  obtain ⟨x, r, rfl⟩ := List.exists_cons_of_length_pos h.pos
  have hx := (h.may x (by simp)).2.1
  have hr := (totP_bound (l := r) fun y hy => h.w y (by simp [hy])).1
  simp only [totP, List.map_cons, List.sum_cons] at hr ⊢
  omega

def valI (l : List Int) : List Value := l.map (Value.int .i64)
theorem app_int (w : World) (base : Nat) (sv : Value) (done : List Int) (hown : w.ownsRow base 3 1 sv done.length (valI done)) (b : Nat) (x : Int) (hT : Blk w b #[.int .i64 x] 3) (hd : done.length ≤ 200000) (hb : base ≤ w.heap.size) :
    ∃ v w', (Builtin.append_ #[27, 27] 27 #[sv, .slice (some ⟨b, 0, none⟩) 1 1]).run Try.prog w = .ok v w' ∧ w'.ownsRow base 3 1 v (done ++ [x]).length (valI (done ++ [x])) ∧ w.grownBy w' sv.ownBlock := by
  obtain ⟨i0, hi, hz0, hz1, hz2⟩ := info_parts infoInt
  obtain ⟨v, w', hr, h1, h2, _⟩ := run_append_own_at (P := Try.prog) w base 27 27 3 i0 (.int .i64 0) 1 8 Try.underlying27 hi hz0 hz1 hz2 rfl (by decide) _ _ _ hown ⟨b, 0, none⟩ 1 1 [.int .i64 x] rfl (fun j u hj => by
    have hj1 : j < 1 := (List.getElem?_eq_some_iff.1 hj).1
    obtain rfl : j = 0 := by omega
    simp at hj
    subst hj
    have ha : (⟨b, 0, none⟩ : Addr).add 0 = ⟨b, 0, none⟩ := by unfold Addr.add; split <;> simp_all
    rw [ha]
    exact (hT.cell 0).trans rfl) (by simp [Value.oneCell']) (by unfold maxLen; omega) (by omega) hb
  exact ⟨v, w', hr, by simpa [valI] using h1, h2⟩

set_option maxHeartbeats 1600000 in
theorem meets_any (la aa ba : Option Addr) (ca cb cc : Nat) (l : List (Int × Int)) (a b : List Int) (w : World) (hl : l.length ≤ maxLen) (hla : a.length ≤ maxLen) (hlb : b.length ≤ maxLen)
    (hw : ∀ x ∈ l, (-9223372036854775808 ≤ x.1 ∧ x.1 ≤ 9223372036854775807) ∧ -9223372036854775808 ≤ x.2 ∧ x.2 ≤ 9223372036854775807) (h1 : SeatsAt w la l) (h2 : IntsAt w aa a) (h3 : IntsAt w ba b) :
    Calls Try.prog 4 #[.slice la l.length ca, .slice aa a.length cb, .slice ba b.length cc] w fun e w' => e = .returned (.bool true) ∧ Below w.heap.size w w' := by
  have hll := hl
  unfold maxLen at hl hla hlb
  by_cases hg : 4096 < l.length ∨ 4096 < a.length ∨ 4096 < b.length
  · go_enter Try.func4, Try.ntmps4
    by_cases g1 : 4096 < l.length
    · have g1' : (4096 : Int) < (l.length : Int) := by omega
      go_wp2
      go_ret
      exact ⟨rfl, Below.refl _ _⟩
    · have g1' : ¬ (4096 : Int) < (l.length : Int) := by omega
      by_cases g2 : 4096 < a.length
      · have g2' : (4096 : Int) < (a.length : Int) := by omega
        go_wp2
        go_ret
        exact ⟨rfl, Below.refl _ _⟩
      · have g2' : ¬ (4096 : Int) < (a.length : Int) := by omega
        have g3' : (4096 : Int) < (b.length : Int) := by omega
        go_wp2
        go_ret
        exact ⟨rfl, Below.refl _ _⟩
  have g1' : ¬ (4096 : Int) < (l.length : Int) := by omega
  have g2' : ¬ (4096 : Int) < (a.length : Int) := by omega
  have g3' : ¬ (4096 : Int) < (b.length : Int) := by omega
  go_enter Try.func4, Try.ntmps4
  go_wp2_with fail
  refine (seated_any la ca l w hll hw h1).mono ?_
  rintro e w1 ⟨⟨v, x, rfl, hgd, hox⟩, b1⟩
  obtain ⟨xa, xc, rfl, hsx⟩ := SeatsAt.of_owns hox
  have hx7 := hgd.few
  clear hox h1 hw
  go_wp2_with fail
  have bA : Below w1.heap.size w1 (w1.alloc (.cells #[] 3)) := (Below.refl _ _).alloc (Nat.le_refl _) _
  have hr0 : (w1.alloc (.cells #[] 3)).ownsRow w1.heap.size 3 1 (.slice (some ⟨w1.heap.size, 0, none⟩) 0 0) ([] : List Int).length (valI []) := World.ownsRow_made w1 #[] 0 (Nat.le_refl _) (Nat.zero_le _) rfl
  generalize w1.alloc (.cells #[] 3) = wA at *
  go_loopw [8, 9] (fun sv iv wv => ∃ (i : Nat) (al : List Int), i ≤ x.length ∧ iv = .int .i64 i ∧ Hid (al = (x.take i).map (·.1)) ∧ al.length = i ∧ wv.ownsRow w1.heap.size 3 1 sv al.length (valI al) ∧ Below w1.heap.size w1 wv) (fun _ iv _ => x.length - (intOf iv).toNat)
  case atStart => exact ⟨0, [], Nat.zero_le _, rfl, rfl, rfl, hr0, bA⟩
  case round =>
    obtain ⟨i, al, hi, rfl, HA, hal, hown, hb⟩ := hrel
    clear hr0
    by_cases hlt : i < x.length
    · have hlt' : (i : Int) < (x.length : Int) := by omega
      obtain ⟨b2, o2, e2, z2, a1, a2⟩ := (hsx.below hb).one hlt
      subst e2
      have ht := List.take_succ_eq_append_getElem hlt
      generalize x[i] = y at *
      obtain ⟨yk, yv⟩ := y
      simp only at a1 a2
      have HN : Hid (al ++ [yk] = (x.take (i + 1)).map (·.1)) := by
        show _ = _
        rw [ht, List.map_append, HA.out]
        rfl
      clear ht HA hsx
      obtain ⟨v2, w2, hr2, ho2, hg2⟩ := app_int (wr.alloc (.cells #[.int .i64 yk] 3)) w1.heap.size u8 al (hown.alloc _) wr.heap.size yk (Blk.new _ _ _) (by omega) (by have := hb.size; simp; omega)
      have b2' : Below w1.heap.size w1 w2 := (hb.alloc hb.size _).grown hg2 (by have := hb.size; simp; omega) (fun k e => (hown.lt k e).1)
      go_wp2_with (at_builtin; refine wpList_append_run rfl _ _ 27 rfl _ _ v2 w2 rfl rfl hr2 ?_)
      exact ⟨⟨i + 1, al ++ [yk], by omega, by go_num, HN, by simp; omega, ho2, b2'⟩, by simp [intOf]; omega⟩
    · have hge : ¬ (i : Int) < (x.length : Int) := by omega
      have HQ : Hid (wtP x al = totP x) := wtP_all x al fun z hz => by
        rw [HA.out, List.take_of_length_le (by omega)]
        exact List.mem_map.2 ⟨z, hz, rfl⟩
      have hT := totP_pos hgd
      obtain ⟨na, nc, rfl, hna⟩ := IntsAt.of_owns hown
      have hal6 : al.length ≤ 64 := by omega
      clear HA hown hal
      have hsx1 := hsx.below hb
      have hB1 := b1.trans (hb.mono b1.size)
      go_wp2_with fail
      refine (quorum_any xa na xc nc x al wr (by omega) (by unfold maxLen; omega) hgd.w hsx1 hna).mono ?_
      rintro e w2 ⟨rfl, b2⟩
      rw [HQ.out]
      have hq1 : decide (2 * totP x < 3 * totP x) = true := by simp; omega
      rw [hq1]
      clear hna
      go_wp2_with fail
      refine (quorum_any xa none xc 0 x [] w2 (by omega) (by unfold maxLen; simp) hgd.w (hsx1.below b2) (.inl rfl)).mono ?_
      rintro e w3 ⟨rfl, b3⟩
      rw [wtP_none]
      have hq2 : decide (2 * totP x < 3 * 0) = false := by simp; omega
      rw [hq2]
      have b23 := b2.trans (b3.mono b2.size)
      have hB3 := hB1.trans (b23.mono hB1.size)
      have hsx3 := hsx1.below b23
      clear b2 b3 b23 hsx hsx1 hB1 hb
      have hia := h2.below hB3
      have hib := h3.below hB3
      go_wp2_with fail
      refine (quorum_any xa aa xc cb x a w3 (by omega) (by unfold maxLen; omega) hgd.w hsx3 hia).mono ?_
      rintro e w4 ⟨rfl, b4⟩
      have hB4 := hB3.trans (b4.mono hB3.size)
      by_cases hqa : 2 * totP x < 3 * wtP x a
      rotate_left
      · have hd := decide_eq_false hqa
        rw [hd]
        go_wp2
        go_ret
        exact ⟨rfl, hB4⟩
      have hd := decide_eq_true hqa
      rw [hd]
      go_wp2_with fail
      refine (quorum_any xa ba xc cc x b w4 (by omega) (by unfold maxLen; omega) hgd.w (hsx3.below b4) (hib.below b4)).mono ?_
      rintro e w5 ⟨rfl, b5⟩
      have hB5 := hB4.trans (b5.mono hB4.size)
      by_cases hqb : 2 * totP x < 3 * wtP x b
      rotate_left
      · have hd2 := decide_eq_false hqb
        rw [hd2]
        go_wp2
        go_ret
        exact ⟨rfl, hB5⟩
      have hd2 := decide_eq_true hqb
      rw [hd2]
      have b45 := b4.trans (b5.mono b4.size)
      have hsx5 := hsx3.below b45
      have hia5 := hia.below b45
      have hib5 := hib.below b45
      have HM : Hid (∀ c : List Int, (∀ z, z ∈ a → z ∈ b → z ∈ c) → totP x < 3 * wtP x c) := fun c hc => by
        have := wtP_meets x a b c hgd.w hc
        omega
      clear hd hd2 hqa hqb hq1 hq2 hia hib hsx3 b45 b4 b5 hB4 hB3
      go_wp2_with fail
      clear h2 h3 hT
      generalize wr = wr0 at *
      go_loopw [12, 13] (fun sv iv wv => ∃ (i : Nat) (bo : List Int), i ≤ a.length ∧ iv = .int .i64 i ∧ Hid (∀ z ∈ a.take i, z ∈ b → z ∈ bo) ∧ bo.length ≤ i ∧ wv.ownsRow w5.heap.size 3 1 sv bo.length (valI bo) ∧ Below w5.heap.size w5 wv) (fun _ iv _ => a.length - (intOf iv).toNat)
      case atStart => exact ⟨0, [], Nat.zero_le _, rfl, by show ∀ _ ∈ _, _; simp, Nat.le_refl _, World.ownsRow_nil _ _ _ _, Below.refl _ _⟩
      case round =>
        obtain ⟨j, bo, hj, rfl, HB, hbl, hown, hb⟩ := hrel
        by_cases hlt : j < a.length
        · have hlt' : (j : Int) < (a.length : Int) := by omega
          have ht := List.take_succ_eq_append_getElem hlt
          have A : ∀ w', Below w5.heap.size w5 w' → ∃ b o, aa = some ⟨b, o, none⟩ ∧ b < w'.heap.size ∧ w'.cell? ⟨b, o + j, none⟩ = some (.int .i64 a[j]) := fun w' hb => (hia5.below hb).one hlt
          generalize a[j] = y at *
          go_wp2_with fail
          generalize wr = wq at *
          generalize u12 = uo at *
          go_loopw [12, 14] (fun sv kv wv => ∃ k : Nat, sv = uo ∧ k ≤ b.length ∧ kv = .int .i64 k ∧ Hid (y ∉ b.take k) ∧ Below wq.heap.size wq wv) (fun _ kv _ => b.length - (intOf kv).toNat)
          case atStart => exact ⟨0, rfl, Nat.zero_le _, rfl, by show _ ∉ _; simp, Below.refl _ _⟩
          case round =>
            obtain ⟨k, rfl, hk, rfl, HK, hbq⟩ := hrel
            have hB := hb.trans (hbq.mono hb.size)
            by_cases hkl : k < b.length
            · have hkl' : (k : Int) < (b.length : Int) := by omega
              obtain ⟨b2, o2, e2, z2, a1⟩ := A _ hB
              obtain ⟨b3, o3, e3, z3, c1⟩ := (hib5.below hB).one hkl
              subst e2 e3
              have hk2 := List.take_succ_eq_append_getElem hkl
              have HZ : Hid (b[k] ∈ b) := List.getElem_mem hkl
              generalize b[k] = z at *
              by_cases hyz : y = z
              · subst hyz
                have HN : Hid (∀ z ∈ a.take (j + 1), z ∈ b → z ∈ bo ++ [y]) := by
                  show ∀ z ∈ _, _
                  rw [ht]
                  intro z hz hzb
                  rcases List.mem_append.1 hz with hz | hz
                  · exact List.mem_append_left _ (HB.out z hz hzb)
                  · exact List.mem_append_right _ hz
                clear ht HB HK hk2 HZ
                go_upto_region 22 with fail
                go_quiet (fail)
                have hbD := below_drewN hB nq
                have hownD := owns_drewN (owns_keep hown hbq) nq
                obtain ⟨b4, o4, e4, z4, a4⟩ := A _ hbD
                injection e4 with e4
                injection e4 with e4 e5
                rw [← e4, ← e5] at a4
                rw [← e4] at z4
                clear e4 e5 a1 c1 A
                generalize wr.drewN nq = wz at *
                go_upto_region 23 with fail
                obtain ⟨v2, w2, hr2, ho2, hg2⟩ := app_int (wz.alloc (.cells #[.int .i64 y] 3)) w5.heap.size _ bo (hownD.alloc _) wz.heap.size y (Blk.new _ _ _) (by omega) (by have := hbD.size; simp; omega)
                have b2' : Below w5.heap.size w5 w2 := (hbD.alloc hbD.size _).grown hg2 (by have := hbD.size; simp; omega) (fun k e => (hownD.lt k e).1)
                go_wp2_with (at_builtin; refine wpList_append_run rfl _ _ 27 rfl _ _ v2 w2 rfl rfl hr2 ?_)
                exact ⟨⟨j + 1, bo ++ [y], by omega, by go_num, HN, by simp; omega, ho2, b2'⟩, by simp [intOf]; omega⟩
              · have hd : (y == z) = false := by simpa using hyz
                have HN : Hid (y ∉ b.take (k + 1)) := by
                  show _ ∉ _
                  rw [hk2]
                  simp only [List.mem_append, List.mem_singleton, not_or]
                  exact ⟨HK.out, hyz⟩
                clear ht HB HK hk2 HZ A hyz
                go_upto_region 22 with fail
                go_quiet (fail)
                go_wp2
                exact ⟨⟨k + 1, rfl, by omega, by go_num, HN, below_drewN hbq _⟩, by simp [intOf]; omega⟩
            · have hkl' : ¬ (k : Int) < (b.length : Int) := by omega
              have HN : Hid (∀ z ∈ a.take (j + 1), z ∈ b → z ∈ bo) := by
                show ∀ z ∈ _, _
                rw [ht]
                intro z hz hzb
                rcases List.mem_append.1 hz with hz | hz
                · exact HB.out z hz hzb
                · simp only [List.mem_singleton] at hz
                  subst hz
                  have := HK.out
                  rw [List.take_of_length_le (by omega)] at this
                  exact absurd hzb this
              clear ht HB HK A
              go_wp2
              exact ⟨⟨j + 1, bo, by omega, by go_num, HN, by omega, owns_keep hown hbq, hB⟩, by simp [intOf]; omega⟩
        · have hge2 : ¬ (j : Int) < (a.length : Int) := by omega
          obtain ⟨oa, oc, rfl, hob⟩ := IntsAt.of_owns hown
          have HS := HM.out bo fun z hz hzb => HB.out z (by rw [List.take_of_length_le (by omega)]; exact hz) hzb
          clear HB HM hown
          have hbl6 : bo.length ≤ 4096 := by omega
          clear hbl
          go_wp2_with fail
          refine (some_any xa oa xc oc x bo wr (by omega) (by unfold maxLen; omega) hgd.w (hsx5.below hb) hob).mono ?_
          rintro e w6 ⟨rfl, b6⟩
          rw [decide_eq_true HS]
          go_wp2
          go_ret
          exact ⟨rfl, hB5.trans ((hb.trans (b6.mono hb.size)).mono hB5.size)⟩
end Go.Proofs.Ythofmfnjlihpcaa
