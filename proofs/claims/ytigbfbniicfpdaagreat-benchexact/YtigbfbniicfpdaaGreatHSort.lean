/- Seats are sorted by Who: the program's sorting. -/
import Derived.Test.YtigbfbniicfpdaaGreatHKeep
namespace Go.Proofs.YtigbfbniicfpdaaGreat
open Go.RowKit
set_option linter.unusedVariables false
set_option linter.unusedSimpArgs false

def cmpP (x y : Int) : Int := if x < y then -1 else if y < x then 1 else 0
theorem nan_any (x : Int) (w : World) : Calls Tryz.prog 44 #[.int .i64 x] w fun e w' => e = .returned (.bool false) ∧ w = w' := by
  have hd : (x != x) = false := by simp
  go_enter Tryz.func44, Tryz.ntmps44
  go_wp2
  go_ret
  exact ⟨by simp, rfl⟩
theorem cmp_any (x y : Int) (w : World) : Calls Tryz.prog 26 #[.int .i64 x, .int .i64 y] w fun e w' => e = .returned (.int .i64 (cmpP x y)) ∧ w = w' := by
  by_cases h1 : x < y
  · have HE : Hid (cmpP x y = -1) := by show _ = _; unfold cmpP; rw [if_pos h1]
    go_enter Tryz.func26, Tryz.ntmps26
    go_wp2_with fail
    refine (nan_any x _).mono ?_
    rintro e w1 ⟨rfl, rfl⟩
    go_wp2_with fail
    refine (nan_any y _).mono ?_
    rintro e w2 ⟨rfl, rfl⟩
    go_wp2
    go_ret
    exact ⟨by rw [HE.out]; rfl, rfl⟩
  · by_cases h2 : y < x
    · have HE : Hid (cmpP x y = 1) := by show _ = _; unfold cmpP; rw [if_neg h1, if_pos h2]
      go_enter Tryz.func26, Tryz.ntmps26
      go_wp2_with fail
      refine (nan_any x _).mono ?_
      rintro e w1 ⟨rfl, rfl⟩
      go_wp2_with fail
      refine (nan_any y _).mono ?_
      rintro e w2 ⟨rfl, rfl⟩
      go_wp2
      go_ret
      exact ⟨by rw [HE.out]; rfl, rfl⟩
    · have HE : Hid (cmpP x y = 0) := by show _ = _; unfold cmpP; rw [if_neg h1, if_neg h2]
      go_enter Tryz.func26, Tryz.ntmps26
      go_wp2_with fail
      refine (nan_any x _).mono ?_
      rintro e w1 ⟨rfl, rfl⟩
      go_wp2_with fail
      refine (nan_any y _).mono ?_
      rintro e w2 ⟨rfl, rfl⟩
      go_wp2
      go_ret
      exact ⟨by rw [HE.out]; rfl, rfl⟩
theorem choC_any (xk xv yk yv : Int) (w : World) : Calls Tryz.prog 25 #[.agg #[.int .i64 xk, .int .i64 xv], .agg #[.int .i64 yk, .int .i64 yv]] w fun e w' => e = .returned (.int .i64 (cmpP xk yk)) ∧ Below w.heap.size w w' := by
  have bA : Below w.heap.size w ((w.alloc (.cells #[.int .i64 xk, .int .i64 xv] 39)).alloc (.cells #[.int .i64 yk, .int .i64 yv] 39)) := ((Below.refl _ _).alloc (Nat.le_refl _) _).alloc (by simp) _
  go_enter Tryz.func25, Tryz.ntmps25
  go_wp2_with fail
  refine (cmp_any xk yk _).mono ?_
  rintro e w1 ⟨rfl, rfl⟩
  go_wp2
  go_ret
  exact ⟨rfl, bA⟩

/-- A seat goes to its place among those ahead. -/
def sinkP (l : List (Int × Int)) : Nat → List (Int × Int)
  | 0 => l
  | i + 1 => if (at2 l (i + 1)).1 < (at2 l i).1 then sinkP (swapL l (i + 1) i) i else l
theorem sinkP_len (j : Nat) : ∀ l : List (Int × Int), (sinkP l j).length = l.length := by
  induction j with
  | zero => intro l; rfl
  | succ i ih =>
    intro l
    unfold sinkP
    split
    · rw [ih, swapL_len]
    · rfl
/-- Sorted, from the place i on. -/
def srtP (l : List (Int × Int)) (i : Nat) : List (Int × Int) := if h : i < l.length then srtP (sinkP l i) (i + 1) else l
termination_by l.length - i
decreasing_by rw [sinkP_len]; omega
theorem srtP_end {l : List (Int × Int)} {i : Nat} (h : ¬ i < l.length) : srtP l i = l := by rw [srtP, dif_neg h]
theorem srtP_go {l : List (Int × Int)} {i : Nat} (h : i < l.length) : srtP l i = srtP (sinkP l i) (i + 1) := by rw [srtP, dif_pos h]

set_option maxRecDepth 8000 in
set_option maxHeartbeats 6400000 in
theorem ins_any (g sc : Nat) (l : List (Int × Int)) (hz : 0 < l.length) (hn : l.length ≤ 12) (base hb mb : Nat) (w : World) (H : HpAt w base hb mb l (some ⟨g, 0, none⟩) sc) :
    Calls Tryz.prog 61 #[.slice (some ⟨g, 0, none⟩) l.length sc, .int .i64 0, .int .i64 l.length, .func (.func 25) #[] #[]] w fun e w' => e = .returned (.tuple #[]) ∧ HpAt w' base hb mb (srtP l 1) (some ⟨g, 0, none⟩) sc ∧ Hk base mb w w' := by
  go_enter Tryz.func61, Tryz.ntmps61
  go_wp2_with fail
  go_loopw [8] (fun iv wv => ∃ (q : Nat) (m : List (Int × Int)), iv = .int .i64 q ∧ 1 ≤ q ∧ q ≤ l.length ∧ Hid (m.length = l.length) ∧ Hid (srtP m q = srtP l 1) ∧ HpAt wv base hb mb m (some ⟨g, 0, none⟩) sc ∧ Hk base mb w wv) (fun iv _ => l.length - (intOf iv).toNat)
  case atStart => exact ⟨1, l, rfl, by omega, by omega, rfl, rfl, H, Hk.refl _ _ _⟩
  case round =>
    obtain ⟨q, m, rfl, hq1, hq2, Hml, HS, G, K⟩ := hrel
    by_cases hlt : q < l.length
    rotate_left
    · have hge : ¬ (q : Int) < (l.length : Int) := by omega
      have HE : Hid (srtP l 1 = m) := by show _ = _; rw [← HS.out]; exact srtP_end (by rw [Hml.out]; omega)
      clear HS
      go_wp2
      go_end0
      exact ⟨rfl, by rw [HE.out]; exact G, K⟩
    · have hlt' : (q : Int) < (l.length : Int) := by omega
      have HS1 : Hid (srtP (sinkP m q) (q + 1) = srtP l 1) := by show _ = _; rw [← HS.out]; exact (srtP_go (by rw [Hml.out]; exact hlt)).symm
      clear HS
      generalize wr = wq at *
      go_wp2_with fail
      go_loopw [9] (fun jv wv => ∃ (k : Nat) (m2 : List (Int × Int)), jv = .int .i64 k ∧ k ≤ q ∧ Hid (m2.length = l.length) ∧ Hid (srtP (sinkP m2 k) (q + 1) = srtP l 1) ∧ HpAt wv base hb mb m2 (some ⟨g, 0, none⟩) sc ∧ Hk base mb w wv) (fun jv _ => (intOf jv).toNat)
      case atStart => exact ⟨q, m, rfl, Nat.le_refl _, Hml, HS1, G, K⟩
      case round =>
        clear HS1 G K Hml
        obtain ⟨k, m2, rfl, hkq, Hm2, HS, G, K⟩ := hrel
        cases k with
        | zero =>
          have hge : ¬ (0 : Int) < ((0 : Nat) : Int) := by omega
          have HE : Hid (srtP m2 (q + 1) = srtP l 1) := HS
          clear HS
          go_upto_region 4 with fail
          go_quiet (fail)
          go_wp2
          exact ⟨⟨q + 1, m2, by go_num, by omega, by omega, Hm2, HE, G.next (below_drewN (Below.refl _ _) _), K.trans (Hk.of (below_drewN (Below.refl _ _) _) G.hi G.mh)⟩, by simp [intOf]; omega⟩
        | succ i =>
          obtain ⟨k, hki⟩ : ∃ k, i + 1 = k := ⟨_, rfl⟩
          have HSs : Hid ((at2 m2 k).1 < (at2 m2 i).1 → srtP (sinkP (swapL m2 k i) i) (q + 1) = srtP l 1) := fun z => by rw [← HS.out, sinkP, if_pos (by rw [hki]; exact z), hki]
          have HSn : Hid (¬ (at2 m2 k).1 < (at2 m2 i).1 → srtP m2 (q + 1) = srtP l 1) := fun z => by rw [← HS.out, sinkP, if_neg (by rw [hki]; exact z)]
          rw [hki] at hkq ⊢
          have hlm := Hm2.out
          have hk1 : k < m2.length := by omega
          have hi1 : i < m2.length := by omega
          have hkn : (k : Int) < (l.length : Int) := by omega
          have hin : (i : Int) < (l.length : Int) := by omega
          have hpos : (0 : Int) < (k : Int) := by omega
          have hposd : decide ((0 : Int) < (k : Int)) = true := by simpa using hpos
          have hsub : (k : Int) - 1 = (i : Int) := by omega
          have hik : i < k := by omega
          have hpk : 0 < k := by omega
          have hwi := wrapI (i : Int) (by omega) (by omega)
          obtain ⟨g', cur, e, hg, hk, hs, hle, hm, ht⟩ := G.row (by intro e; rw [e] at hk1; simp at hk1)
          injection e with e
          injection e with e1
          subst e1
          obtain ⟨b1, o1, e1, z1, a1, a2⟩ := G.at_.one hk1
          injection e1 with e1
          injection e1 with e2 e3
          subst e2 e3
          obtain ⟨b2, o2, e1, z2, d1, d2⟩ := G.at_.one hi1
          injection e1 with e1
          injection e1 with e2 e3
          subst e2 e3
          simp only [Nat.zero_add] at a1 a2 d1 d2
          have ek := at2_get hk1
          have ei := at2_get hi1
          obtain ⟨x, hx⟩ : ∃ x, m2[k] = x := ⟨_, rfl⟩
          obtain ⟨y, hy⟩ : ∃ y, m2[i] = y := ⟨_, rfl⟩
          rw [hx] at a1 a2 ek
          rw [hy] at d1 d2 ei
          obtain ⟨xk, xv⟩ := x
          obtain ⟨yk, yv⟩ := y
          rw [ek, ei] at HSs HSn
          simp only at a1 a2 d1 d2 HSs HSn
          have HX := show Hid (_ ∧ _) from ⟨ek, ei⟩
          have hcap : l.length ≤ sc := by rw [← hlm]; exact hle
          have hzg := hk.lt
          clear HS hlm ek ei hx hy hs hle ht hki
          have SK : ∀ w', Below wr.heap.size wr w' → w'.cell? ⟨g, k * 2, none⟩ = some (.int .i64 xk) ∧ w'.cell? ⟨g, k * 2 + 1, none⟩ = some (.int .i64 xv) ∧ w'.cell? ⟨g, i * 2, none⟩ = some (.int .i64 yk) ∧ w'.cell? ⟨g, i * 2 + 1, none⟩ = some (.int .i64 yv) ∧ Below wr.heap.size wr w' := fun w' hb' => ⟨by rw [hb'.cell (p := ⟨g, k * 2, none⟩) hzg]; exact a1, by rw [hb'.cell (p := ⟨g, k * 2 + 1, none⟩) hzg]; exact a2, by rw [hb'.cell (p := ⟨g, i * 2, none⟩) hzg]; exact d1, by rw [hb'.cell (p := ⟨g, i * 2 + 1, none⟩) hzg]; exact d2, hb'⟩
          have S0 := SK wr.drew ((Below.refl _ _).drew)
          by_cases hc : xk < yk
          · have HE : Hid (srtP (sinkP (swapL m2 k i) i) (q + 1) = srtP l 1) := HSs.out hc
            have hcm : cmpP xk yk = -1 := by unfold cmpP; rw [if_pos hc]
            have hneg : decide (cmpP xk yk < 0) = true := by rw [hcm]; rfl
            clear HSs HSn hc hcm
            go_upto_region 4 with fail
            go_cut [34] (fun bv wx => bv = .bool true ∧ Below wr.heap.size wr wx)
            case first =>
              refine wp_region_held (S := fun w' => w'.cell? ⟨g, k * 2, none⟩ = some (.int .i64 xk) ∧ w'.cell? ⟨g, k * 2 + 1, none⟩ = some (.int .i64 xv) ∧ w'.cell? ⟨g, i * 2, none⟩ = some (.int .i64 yk) ∧ w'.cell? ⟨g, i * 2 + 1, none⟩ = some (.int .i64 yv) ∧ Below wr.heap.size wr w') (by kernel_rfl) ?_
              refine wpAnyH_take (i := 0) (v := ?_) rfl (by kernel_rfl) (by kernel_rfl) (by kernel_rfl) (fun _ _ _ h => h) (Or.inl ⟨by kernel_rfl, ?_⟩) (by assumption) ?_
              rotate_left
              · rintro w' ⟨y1, y2, y3, y4, _⟩
                go_simp
                first | (with_reducible rfl) | done | assumption | skip
              simp only [Act.put, List.getElem_toArray, List.getElem_cons_succ, List.getElem_cons_zero, List.setIfInBounds_toArray, List.set_cons_zero, List.set_cons_succ]
              refine wpAnyH_take (i := 1) (v := ?_) rfl (by kernel_rfl) (by kernel_rfl) (by kernel_rfl) (fun _ _ _ h => h) (Or.inl ⟨by kernel_rfl, ?_⟩) (by assumption) ?_
              rotate_left
              · rintro w' ⟨y1, y2, y3, y4, _⟩
                go_simp
                first | (with_reducible rfl) | done | assumption | skip
              simp only [Act.put, List.getElem_toArray, List.getElem_cons_succ, List.getElem_cons_zero, List.setIfInBounds_toArray, List.set_cons_zero, List.set_cons_succ]
              refine wpAnyH_take (i := 2) (v := .bool true) rfl (by kernel_rfl) (by kernel_rfl) (by kernel_rfl) (fun _ _ _ h => h) (Or.inl ⟨by kernel_rfl, ?_⟩) (by assumption) ?_
              · rintro w' ⟨y1, y2, y3, y4, _⟩
                go_simp
                first | (with_reducible rfl) | done | assumption | skip
              simp only [Act.put, List.getElem_toArray, List.getElem_cons_succ, List.getElem_cons_zero, List.setIfInBounds_toArray, List.set_cons_zero, List.set_cons_succ]
              refine wpAnyH_take (i := 3) (v := .bool true) rfl (by kernel_rfl) (by kernel_rfl) (by kernel_rfl) (fun _ _ _ h => h) (Or.inl ⟨by kernel_rfl, ?_⟩) (by assumption) ?_
              · rintro w' ⟨y1, y2, y3, y4, _⟩
                go_simp
                first | (with_reducible rfl) | done | assumption | skip
              simp only [Act.put, List.getElem_toArray, List.getElem_cons_succ, List.getElem_cons_zero, List.setIfInBounds_toArray, List.set_cons_zero, List.set_cons_succ]
              refine wpAnyH_take (i := 4) (v := ?_) rfl (by kernel_rfl) (by kernel_rfl) (by kernel_rfl) (fun _ _ _ h => h) (Or.inl ⟨by kernel_rfl, ?_⟩) (by assumption) ?_
              rotate_left
              · rintro w' ⟨y1, y2, y3, y4, _⟩
                go_simp
                first | (with_reducible rfl) | done | assumption | skip
              simp only [Act.put, List.getElem_toArray, List.getElem_cons_succ, List.getElem_cons_zero, List.setIfInBounds_toArray, List.set_cons_zero, List.set_cons_succ]
              refine wpAnyH_take (i := 5) (v := ?_) rfl (by kernel_rfl) (by kernel_rfl) (by kernel_rfl) (fun _ _ _ h => h) (Or.inl ⟨by kernel_rfl, ?_⟩) (by assumption) ?_
              rotate_left
              · rintro w' ⟨y1, y2, y3, y4, _⟩
                go_simp
                first | (with_reducible rfl) | done | assumption | skip
              simp only [Act.put, List.getElem_toArray, List.getElem_cons_succ, List.getElem_cons_zero, List.setIfInBounds_toArray, List.set_cons_zero, List.set_cons_succ]
              refine wpAnyH_take (i := 6) (v := ?_) rfl (by kernel_rfl) (by kernel_rfl) (by kernel_rfl) (fun _ _ _ h => h) (Or.inl ⟨by kernel_rfl, ?_⟩) (by assumption) ?_
              rotate_left
              · rintro w' ⟨y1, y2, y3, y4, _⟩
                go_simp
                first | (with_reducible rfl) | done | assumption | skip
              simp only [Act.put, List.getElem_toArray, List.getElem_cons_succ, List.getElem_cons_zero, List.setIfInBounds_toArray, List.set_cons_zero, List.set_cons_succ]
              refine wpAnyH_take (i := 7) (v := ?_) rfl (by kernel_rfl) (by kernel_rfl) (by kernel_rfl) (fun _ _ _ h => h) (Or.inl ⟨by kernel_rfl, ?_⟩) (by assumption) ?_
              rotate_left
              · rintro w' ⟨y1, y2, y3, y4, _⟩
                go_simp
                first | (with_reducible rfl) | done | assumption | skip
              simp only [Act.put, List.getElem_toArray, List.getElem_cons_succ, List.getElem_cons_zero, List.setIfInBounds_toArray, List.set_cons_zero, List.set_cons_succ]
              refine wpAnyH_take (i := 8) (v := .agg #[.int .i64 xk, .int .i64 xv]) rfl (by kernel_rfl) (by kernel_rfl) (by kernel_rfl) (fun _ _ _ h => h) (Or.inl ⟨by kernel_rfl, ?_⟩) (by assumption) ?_
              · rintro w' ⟨y1, y2, y3, y4, _⟩
                go_simp
                first | (with_reducible rfl) | done | assumption | skip
              simp only [Act.put, List.getElem_toArray, List.getElem_cons_succ, List.getElem_cons_zero, List.setIfInBounds_toArray, List.set_cons_zero, List.set_cons_succ]
              refine wpAnyH_take (i := 9) (v := ?_) rfl (by kernel_rfl) (by kernel_rfl) (by kernel_rfl) (fun _ _ _ h => h) (Or.inl ⟨by kernel_rfl, ?_⟩) (by assumption) ?_
              rotate_left
              · rintro w' ⟨y1, y2, y3, y4, _⟩
                go_simp
                first | (with_reducible rfl) | done | assumption | skip
              simp only [Act.put, List.getElem_toArray, List.getElem_cons_succ, List.getElem_cons_zero, List.setIfInBounds_toArray, List.set_cons_zero, List.set_cons_succ]
              refine wpAnyH_take (i := 10) (v := ?_) rfl (by kernel_rfl) (by kernel_rfl) (by kernel_rfl) (fun _ _ _ h => h) (Or.inl ⟨by kernel_rfl, ?_⟩) (by assumption) ?_
              rotate_left
              · rintro w' ⟨y1, y2, y3, y4, _⟩
                go_simp
                first | (with_reducible rfl) | done | assumption | skip
              simp only [Act.put, List.getElem_toArray, List.getElem_cons_succ, List.getElem_cons_zero, List.setIfInBounds_toArray, List.set_cons_zero, List.set_cons_succ]
              refine wpAnyH_take (i := 11) (v := .int .i64 i) rfl (by kernel_rfl) (by kernel_rfl) (by kernel_rfl) (fun _ _ _ h => h) (Or.inl ⟨by kernel_rfl, ?_⟩) (by assumption) ?_
              · rintro w' ⟨y1, y2, y3, y4, _⟩
                go_simp
                first | (with_reducible rfl) | done | assumption | skip
              simp only [Act.put, List.getElem_toArray, List.getElem_cons_succ, List.getElem_cons_zero, List.setIfInBounds_toArray, List.set_cons_zero, List.set_cons_succ]
              refine wpAnyH_take (i := 12) (v := ?_) rfl (by kernel_rfl) (by kernel_rfl) (by kernel_rfl) (fun _ _ _ h => h) (Or.inl ⟨by kernel_rfl, ?_⟩) (by assumption) ?_
              rotate_left
              · rintro w' ⟨y1, y2, y3, y4, _⟩
                go_simp
                first | (with_reducible rfl) | done | assumption | skip
              simp only [Act.put, List.getElem_toArray, List.getElem_cons_succ, List.getElem_cons_zero, List.setIfInBounds_toArray, List.set_cons_zero, List.set_cons_succ]
              refine wpAnyH_take (i := 13) (v := .agg #[.int .i64 yk, .int .i64 yv]) rfl (by kernel_rfl) (by kernel_rfl) (by kernel_rfl) (fun _ _ _ h => h) (Or.inl ⟨by kernel_rfl, ?_⟩) (by assumption) ?_
              · rintro w' ⟨y1, y2, y3, y4, _⟩
                go_simp
                first | (with_reducible rfl) | done | assumption | skip
              simp only [Act.put, List.getElem_toArray, List.getElem_cons_succ, List.getElem_cons_zero, List.setIfInBounds_toArray, List.set_cons_zero, List.set_cons_succ]
              refine wpAnyH_ready (rs := [14]) (by kernel_rfl) (by simp) ?_
              refine AllReadyH.cons rfl (fun K hK => ?_) AllReadyH.nil
              go_simp
              refine (choC_any xk xv yk yv _).mono ?_
              rintro e w3 ⟨rfl, b3⟩
              have hN3 : Below wr.heap.size wr w3 := S0.2.2.2.2.trans (b3.mono S0.2.2.2.2.size)
              have S3 := SK w3 hN3
              refine hK.out _ _ S3 (fun _ => ?_)
              clear hK K
              try simp only [Act.put, List.getElem_toArray, List.getElem_cons_succ, List.getElem_cons_zero, List.setIfInBounds_toArray, List.set_cons_zero, List.set_cons_succ]
              refine wpAnyH_take (i := 15) (v := .bool true) rfl (by kernel_rfl) (by kernel_rfl) (by kernel_rfl) (fun _ _ _ h => h) (Or.inl ⟨by kernel_rfl, ?_⟩) (by assumption) ?_
              · rintro w' ⟨y1, y2, y3, y4, _⟩
                go_simp
                first | (with_reducible rfl) | done | assumption | skip
              simp only [Act.put, List.getElem_toArray, List.getElem_cons_succ, List.getElem_cons_zero, List.setIfInBounds_toArray, List.set_cons_zero, List.set_cons_succ]
              refine wpAnyH_take (i := 16) (v := .bool true) rfl (by kernel_rfl) (by kernel_rfl) (by kernel_rfl) (fun _ _ _ h => h) (Or.inl ⟨by kernel_rfl, ?_⟩) (by assumption) ?_
              · rintro w' ⟨y1, y2, y3, y4, _⟩
                go_simp
                first | (with_reducible rfl) | done | assumption | skip
              simp only [Act.put, List.getElem_toArray, List.getElem_cons_succ, List.getElem_cons_zero, List.setIfInBounds_toArray, List.set_cons_zero, List.set_cons_succ]
              refine wpAnyH_done (by kernel_rfl) ?_ _
              go_wp2_with fail
              go_meet
              case rel => exact ⟨rfl, hN3⟩
            case rest =>
              obtain ⟨rfl, b3⟩ := hcut
              generalize wc = w3 at *
              obtain ⟨a1, a2, d1, d2, _⟩ := SK w3 b3
              have G3 := G.next b3
              have K3 := K.trans (Hk.of b3 G.hi G.mh)
              have hk := hk.below b3 hk.lt
              have F1 := hk.frozen (k * 2)
              have F2 := hk.frozen (k * 2 + 1)
              have F3 := hk.frozen (i * 2)
              have F4 := hk.frozen (i * 2 + 1)
              have S4 : w3.drew.cell? ⟨g, k * 2, none⟩ = some (.int .i64 xk) ∧ w3.drew.cell? ⟨g, k * 2 + 1, none⟩ = some (.int .i64 xv) ∧ w3.drew.cell? ⟨g, i * 2, none⟩ = some (.int .i64 yk) ∧ w3.drew.cell? ⟨g, i * 2 + 1, none⟩ = some (.int .i64 yv) := ⟨a1, a2, d1, d2⟩
              have hgm : g ≠ mb := (G.ne _ rfl).2
              have H1 := (G3.put hk1 (yk, yv)).put (i := i) (by simpa using hi1) (xk, xv)
              have HW : Hid (swapL m2 k i = (m2.set k (yk, yv)).set i (xk, xv)) := by show _ = _; unfold swapL; rw [HX.out.1, HX.out.2]
              have K4 : Hk base mb w ((((w3.setCell ⟨g, k * 2, none⟩ (.int .i64 yk)).setCell ⟨g, k * 2 + 1, none⟩ (.int .i64 yv)).setCell ⟨g, i * 2, none⟩ (.int .i64 xk)).setCell ⟨g, i * 2 + 1, none⟩ (.int .i64 xv)) := (((K3.set (p := ⟨g, k * 2, none⟩) ⟨hg, hgm⟩ _).set (p := ⟨g, k * 2 + 1, none⟩) ⟨hg, hgm⟩ _).set (p := ⟨g, i * 2, none⟩) ⟨hg, hgm⟩ _).set (p := ⟨g, i * 2 + 1, none⟩) ⟨hg, hgm⟩ _
              have HH := show Hid (_ ∧ _) from ⟨H1, K4⟩
              clear H1 K4 G3 K3 G K SK S0 HX b3
              go_upto_region 6 with fail
              refine wp_region_late (fun w' => w'.cell? ⟨g, k * 2, none⟩ = some (.int .i64 xk) ∧ w'.cell? ⟨g, k * 2 + 1, none⟩ = some (.int .i64 xv) ∧ w'.cell? ⟨g, i * 2, none⟩ = some (.int .i64 yk) ∧ w'.cell? ⟨g, i * 2 + 1, none⟩ = some (.int .i64 yv)) 15 (by kernel_rfl) ?_
              refine wpAnyM_pure (i := 0) (v := ?_) rfl (by kernel_rfl) (by kernel_rfl) (by kernel_rfl) (by decide) (fun _ _ _ h => h) (Or.inl ⟨by kernel_rfl, ?_⟩) (by assumption) ?_
              rotate_left
              · intro w' _
                go_simp
                first | (with_reducible rfl) | done | assumption | skip
              simp only [Act.put, List.getElem_toArray, List.getElem_cons_succ, List.getElem_cons_zero, List.setIfInBounds_toArray, List.set_cons_zero, List.set_cons_succ]
              refine wpAnyM_pure (i := 1) (v := ?_) rfl (by kernel_rfl) (by kernel_rfl) (by kernel_rfl) (by decide) (fun _ _ _ h => h) (Or.inl ⟨by kernel_rfl, ?_⟩) (by assumption) ?_
              rotate_left
              · intro w' _
                go_simp
                first | (with_reducible rfl) | done | assumption | skip
              simp only [Act.put, List.getElem_toArray, List.getElem_cons_succ, List.getElem_cons_zero, List.setIfInBounds_toArray, List.set_cons_zero, List.set_cons_succ]
              refine wpAnyM_pure (i := 2) (v := ?_) rfl (by kernel_rfl) (by kernel_rfl) (by kernel_rfl) (by decide) (fun _ _ _ h => h) (Or.inl ⟨by kernel_rfl, ?_⟩) (by assumption) ?_
              rotate_left
              · intro w' _
                go_simp
                first | (with_reducible rfl) | done | assumption | skip
              simp only [Act.put, List.getElem_toArray, List.getElem_cons_succ, List.getElem_cons_zero, List.setIfInBounds_toArray, List.set_cons_zero, List.set_cons_succ]
              refine wpAnyM_pure (i := 3) (v := ?_) rfl (by kernel_rfl) (by kernel_rfl) (by kernel_rfl) (by decide) (fun _ _ _ h => h) (Or.inl ⟨by kernel_rfl, ?_⟩) (by assumption) ?_
              rotate_left
              · intro w' _
                go_simp
                first | (with_reducible rfl) | done | assumption | skip
              simp only [Act.put, List.getElem_toArray, List.getElem_cons_succ, List.getElem_cons_zero, List.setIfInBounds_toArray, List.set_cons_zero, List.set_cons_succ]
              refine wpAnyM_pure (i := 4) (v := ?_) rfl (by kernel_rfl) (by kernel_rfl) (by kernel_rfl) (by decide) (fun _ _ _ h => h) (Or.inl ⟨by kernel_rfl, ?_⟩) (by assumption) ?_
              rotate_left
              · intro w' _
                go_simp
                first | (with_reducible rfl) | done | assumption | skip
              simp only [Act.put, List.getElem_toArray, List.getElem_cons_succ, List.getElem_cons_zero, List.setIfInBounds_toArray, List.set_cons_zero, List.set_cons_succ]
              refine wpAnyM_pure (i := 5) (v := ?_) rfl (by kernel_rfl) (by kernel_rfl) (by kernel_rfl) (by decide) (fun _ _ _ h => h) (Or.inl ⟨by kernel_rfl, ?_⟩) (by assumption) ?_
              rotate_left
              · intro w' _
                go_simp
                first | (with_reducible rfl) | done | assumption | skip
              simp only [Act.put, List.getElem_toArray, List.getElem_cons_succ, List.getElem_cons_zero, List.setIfInBounds_toArray, List.set_cons_zero, List.set_cons_succ]
              refine wpAnyM_pure (i := 6) (v := ?_) rfl (by kernel_rfl) (by kernel_rfl) (by kernel_rfl) (by decide) (fun _ _ _ h => h) (Or.inl ⟨by kernel_rfl, ?_⟩) (by assumption) ?_
              rotate_left
              · intro w' _
                go_simp
                first | (with_reducible rfl) | done | assumption | skip
              simp only [Act.put, List.getElem_toArray, List.getElem_cons_succ, List.getElem_cons_zero, List.setIfInBounds_toArray, List.set_cons_zero, List.set_cons_succ]
              refine wpAnyM_pure (i := 7) (v := ?_) rfl (by kernel_rfl) (by kernel_rfl) (by kernel_rfl) (by decide) (fun _ _ _ h => h) (Or.inl ⟨by kernel_rfl, ?_⟩) (by assumption) ?_
              rotate_left
              · intro w' _
                go_simp
                first | (with_reducible rfl) | done | assumption | skip
              simp only [Act.put, List.getElem_toArray, List.getElem_cons_succ, List.getElem_cons_zero, List.setIfInBounds_toArray, List.set_cons_zero, List.set_cons_succ]
              refine wpAnyM_pure (i := 8) (v := ?_) rfl (by kernel_rfl) (by kernel_rfl) (by kernel_rfl) (by decide) (fun _ _ _ h => h) (Or.inl ⟨by kernel_rfl, ?_⟩) (by assumption) ?_
              rotate_left
              · intro w' _
                go_simp
                first | (with_reducible rfl) | done | assumption | skip
              simp only [Act.put, List.getElem_toArray, List.getElem_cons_succ, List.getElem_cons_zero, List.setIfInBounds_toArray, List.set_cons_zero, List.set_cons_succ]
              refine wpAnyM_take (i := 9) (v := .agg #[.int .i64 yk, .int .i64 yv]) rfl (by kernel_rfl) (by kernel_rfl) (by kernel_rfl) (by kernel_rfl) (by decide) (by kernel_rfl) (fun _ _ _ h => h) (Or.inl ⟨by kernel_rfl, ?_⟩) (by assumption) ?_
              · rintro w' ⟨y1, y2, y3, y4⟩
                go_simp
                first | (with_reducible rfl) | done | assumption | skip
              simp only [Act.put, List.getElem_toArray, List.getElem_cons_succ, List.getElem_cons_zero, List.setIfInBounds_toArray, List.set_cons_zero, List.set_cons_succ]
              refine wpAnyM_pure (i := 10) (v := ?_) rfl (by kernel_rfl) (by kernel_rfl) (by kernel_rfl) (by decide) (fun _ _ _ h => h) (Or.inl ⟨by kernel_rfl, ?_⟩) (by assumption) ?_
              rotate_left
              · intro w' _
                go_simp
                first | (with_reducible rfl) | done | assumption | skip
              simp only [Act.put, List.getElem_toArray, List.getElem_cons_succ, List.getElem_cons_zero, List.setIfInBounds_toArray, List.set_cons_zero, List.set_cons_succ]
              refine wpAnyM_pure (i := 11) (v := ?_) rfl (by kernel_rfl) (by kernel_rfl) (by kernel_rfl) (by decide) (fun _ _ _ h => h) (Or.inl ⟨by kernel_rfl, ?_⟩) (by assumption) ?_
              rotate_left
              · intro w' _
                go_simp
                first | (with_reducible rfl) | done | assumption | skip
              simp only [Act.put, List.getElem_toArray, List.getElem_cons_succ, List.getElem_cons_zero, List.setIfInBounds_toArray, List.set_cons_zero, List.set_cons_succ]
              refine wpAnyM_pure (i := 12) (v := ?_) rfl (by kernel_rfl) (by kernel_rfl) (by kernel_rfl) (by decide) (fun _ _ _ h => h) (Or.inl ⟨by kernel_rfl, ?_⟩) (by assumption) ?_
              rotate_left
              · intro w' _
                go_simp
                first | (with_reducible rfl) | done | assumption | skip
              simp only [Act.put, List.getElem_toArray, List.getElem_cons_succ, List.getElem_cons_zero, List.setIfInBounds_toArray, List.set_cons_zero, List.set_cons_succ]
              refine wpAnyM_take (i := 13) (v := .agg #[.int .i64 xk, .int .i64 xv]) rfl (by kernel_rfl) (by kernel_rfl) (by kernel_rfl) (by kernel_rfl) (by decide) (by kernel_rfl) (fun _ _ _ h => h) (Or.inl ⟨by kernel_rfl, ?_⟩) (by assumption) ?_
              · rintro w' ⟨y1, y2, y3, y4⟩
                go_simp
                first | (with_reducible rfl) | done | assumption | skip
              simp only [Act.put, List.getElem_toArray, List.getElem_cons_succ, List.getElem_cons_zero, List.setIfInBounds_toArray, List.set_cons_zero, List.set_cons_succ]
              refine wpAnyM_pure (i := 14) (v := ?_) rfl (by kernel_rfl) (by kernel_rfl) (by kernel_rfl) (by decide) (fun _ _ _ h => h) (Or.inl ⟨by kernel_rfl, ?_⟩) (by assumption) ?_
              rotate_left
              · intro w' _
                go_simp
                first | (with_reducible rfl) | done | assumption | skip
              simp only [Act.put, List.getElem_toArray, List.getElem_cons_succ, List.getElem_cons_zero, List.setIfInBounds_toArray, List.set_cons_zero, List.set_cons_succ]
              refine wpAnyM_one (i := 15) (by kernel_rfl) ?_
              refine wpOp_step rfl (fun K hK => ?_)
              go_simp
              refine hK _ _ ⟨fun h => absurd h (by decide), ?_⟩
              clear hK K
              try simp only [Act.put, List.getElem_toArray, List.getElem_cons_succ, List.getElem_cons_zero, List.setIfInBounds_toArray, List.set_cons_zero, List.set_cons_succ]
              refine wpAnyM_behind (i := 16) (v := ?_) rfl (by kernel_rfl) (by kernel_rfl) (by kernel_rfl) (by decide) (by kernel_rfl) (fun _ _ _ h => h) (Or.inl ⟨by kernel_rfl, ?_⟩) ?_
              rotate_left
              · intro w' _
                go_simp
                first | (with_reducible rfl) | done | assumption | skip
              simp only [Act.put, List.getElem_toArray, List.getElem_cons_succ, List.getElem_cons_zero, List.setIfInBounds_toArray, List.set_cons_zero, List.set_cons_succ]
              have D1 : ((w3.setCell ⟨g, k * 2, none⟩ (.int .i64 yk)).setCell ⟨g, k * 2 + 1, none⟩ (.int .i64 yv)).cell? ⟨g, i * 2, none⟩ = some (.int .i64 yk) := by
                rw [World.cell?_setCell_other _ _ _ _ (by intro e; injection e with e1 e2; omega), World.cell?_setCell_other _ _ _ _ (by intro e; injection e with e1 e2; omega)]; exact d1
              have D2 : ((w3.setCell ⟨g, k * 2, none⟩ (.int .i64 yk)).setCell ⟨g, k * 2 + 1, none⟩ (.int .i64 yv)).cell? ⟨g, i * 2 + 1, none⟩ = some (.int .i64 yv) := by
                rw [World.cell?_setCell_other _ _ _ _ (by intro e; injection e with e1 e2; omega), World.cell?_setCell_other _ _ _ _ (by intro e; injection e with e1 e2; omega)]; exact d2
              have D3 := ((hk.set (k * 2) (.int .i64 yk)).set (k * 2 + 1) (.int .i64 yv)).frozen (i * 2)
              have D4 := ((hk.set (k * 2) (.int .i64 yk)).set (k * 2 + 1) (.int .i64 yv)).frozen (i * 2 + 1)
              have kkk := ((hk.set (k * 2) (.int .i64 yk)).set (k * 2 + 1) (.int .i64 yv)).lt
              clear d1 d2 a1 a2 F1 F2 F3 F4 S4
              generalize hwx : ((w3.setCell ⟨g, k * 2, none⟩ (.int .i64 yk)).setCell ⟨g, k * 2 + 1, none⟩ (.int .i64 yv)) = wx at *
              refine wpAnyM_one (i := 17) (by kernel_rfl) ?_
              refine wpOp_step rfl (fun K hK => ?_)
              go_simp
              refine hK _ _ ⟨fun h => absurd h (by decide), ?_⟩
              clear hK K
              refine wpAnyM_done (by kernel_rfl) ?_ _
              try simp only [Exit.then]
              subst hwx
              go_wp2
              refine ⟨⟨i, swapL m2 k i, by go_num, by omega, ?_, HE, ?_, ?_⟩, by simp [intOf]; omega⟩
              · show _ = _; rw [swapL_len]; exact Hm2.out
              · rw [HW.out]; exact HH.out.1.next ((Below.refl _ _).drew)
              · exact HH.out.2.trans (Hk.of ((Below.refl _ _).drew) HH.out.1.hi HH.out.1.mh)
          · have HE : Hid (srtP m2 (q + 1) = srtP l 1) := HSn.out hc
            have hneg : decide (cmpP xk yk < 0) = false := by unfold cmpP; rw [if_neg hc]; split <;> rfl
            clear HSs HSn hc
            go_upto_region 4 with fail
            refine wp_region_held (S := fun w' => w'.cell? ⟨g, k * 2, none⟩ = some (.int .i64 xk) ∧ w'.cell? ⟨g, k * 2 + 1, none⟩ = some (.int .i64 xv) ∧ w'.cell? ⟨g, i * 2, none⟩ = some (.int .i64 yk) ∧ w'.cell? ⟨g, i * 2 + 1, none⟩ = some (.int .i64 yv) ∧ Below wr.heap.size wr w') (by kernel_rfl) ?_
            refine wpAnyH_take (i := 0) (v := ?_) rfl (by kernel_rfl) (by kernel_rfl) (by kernel_rfl) (fun _ _ _ h => h) (Or.inl ⟨by kernel_rfl, ?_⟩) (by assumption) ?_
            rotate_left
            · rintro w' ⟨y1, y2, y3, y4, _⟩
              go_simp
              first | (with_reducible rfl) | done | assumption | skip
            simp only [Act.put, List.getElem_toArray, List.getElem_cons_succ, List.getElem_cons_zero, List.setIfInBounds_toArray, List.set_cons_zero, List.set_cons_succ]
            refine wpAnyH_take (i := 1) (v := ?_) rfl (by kernel_rfl) (by kernel_rfl) (by kernel_rfl) (fun _ _ _ h => h) (Or.inl ⟨by kernel_rfl, ?_⟩) (by assumption) ?_
            rotate_left
            · rintro w' ⟨y1, y2, y3, y4, _⟩
              go_simp
              first | (with_reducible rfl) | done | assumption | skip
            simp only [Act.put, List.getElem_toArray, List.getElem_cons_succ, List.getElem_cons_zero, List.setIfInBounds_toArray, List.set_cons_zero, List.set_cons_succ]
            refine wpAnyH_take (i := 2) (v := .bool true) rfl (by kernel_rfl) (by kernel_rfl) (by kernel_rfl) (fun _ _ _ h => h) (Or.inl ⟨by kernel_rfl, ?_⟩) (by assumption) ?_
            · rintro w' ⟨y1, y2, y3, y4, _⟩
              go_simp
              first | (with_reducible rfl) | done | assumption | skip
            simp only [Act.put, List.getElem_toArray, List.getElem_cons_succ, List.getElem_cons_zero, List.setIfInBounds_toArray, List.set_cons_zero, List.set_cons_succ]
            refine wpAnyH_take (i := 3) (v := .bool true) rfl (by kernel_rfl) (by kernel_rfl) (by kernel_rfl) (fun _ _ _ h => h) (Or.inl ⟨by kernel_rfl, ?_⟩) (by assumption) ?_
            · rintro w' ⟨y1, y2, y3, y4, _⟩
              go_simp
              first | (with_reducible rfl) | done | assumption | skip
            simp only [Act.put, List.getElem_toArray, List.getElem_cons_succ, List.getElem_cons_zero, List.setIfInBounds_toArray, List.set_cons_zero, List.set_cons_succ]
            refine wpAnyH_take (i := 4) (v := ?_) rfl (by kernel_rfl) (by kernel_rfl) (by kernel_rfl) (fun _ _ _ h => h) (Or.inl ⟨by kernel_rfl, ?_⟩) (by assumption) ?_
            rotate_left
            · rintro w' ⟨y1, y2, y3, y4, _⟩
              go_simp
              first | (with_reducible rfl) | done | assumption | skip
            simp only [Act.put, List.getElem_toArray, List.getElem_cons_succ, List.getElem_cons_zero, List.setIfInBounds_toArray, List.set_cons_zero, List.set_cons_succ]
            refine wpAnyH_take (i := 5) (v := ?_) rfl (by kernel_rfl) (by kernel_rfl) (by kernel_rfl) (fun _ _ _ h => h) (Or.inl ⟨by kernel_rfl, ?_⟩) (by assumption) ?_
            rotate_left
            · rintro w' ⟨y1, y2, y3, y4, _⟩
              go_simp
              first | (with_reducible rfl) | done | assumption | skip
            simp only [Act.put, List.getElem_toArray, List.getElem_cons_succ, List.getElem_cons_zero, List.setIfInBounds_toArray, List.set_cons_zero, List.set_cons_succ]
            refine wpAnyH_take (i := 6) (v := ?_) rfl (by kernel_rfl) (by kernel_rfl) (by kernel_rfl) (fun _ _ _ h => h) (Or.inl ⟨by kernel_rfl, ?_⟩) (by assumption) ?_
            rotate_left
            · rintro w' ⟨y1, y2, y3, y4, _⟩
              go_simp
              first | (with_reducible rfl) | done | assumption | skip
            simp only [Act.put, List.getElem_toArray, List.getElem_cons_succ, List.getElem_cons_zero, List.setIfInBounds_toArray, List.set_cons_zero, List.set_cons_succ]
            refine wpAnyH_take (i := 7) (v := ?_) rfl (by kernel_rfl) (by kernel_rfl) (by kernel_rfl) (fun _ _ _ h => h) (Or.inl ⟨by kernel_rfl, ?_⟩) (by assumption) ?_
            rotate_left
            · rintro w' ⟨y1, y2, y3, y4, _⟩
              go_simp
              first | (with_reducible rfl) | done | assumption | skip
            simp only [Act.put, List.getElem_toArray, List.getElem_cons_succ, List.getElem_cons_zero, List.setIfInBounds_toArray, List.set_cons_zero, List.set_cons_succ]
            refine wpAnyH_take (i := 8) (v := .agg #[.int .i64 xk, .int .i64 xv]) rfl (by kernel_rfl) (by kernel_rfl) (by kernel_rfl) (fun _ _ _ h => h) (Or.inl ⟨by kernel_rfl, ?_⟩) (by assumption) ?_
            · rintro w' ⟨y1, y2, y3, y4, _⟩
              go_simp
              first | (with_reducible rfl) | done | assumption | skip
            simp only [Act.put, List.getElem_toArray, List.getElem_cons_succ, List.getElem_cons_zero, List.setIfInBounds_toArray, List.set_cons_zero, List.set_cons_succ]
            refine wpAnyH_take (i := 9) (v := ?_) rfl (by kernel_rfl) (by kernel_rfl) (by kernel_rfl) (fun _ _ _ h => h) (Or.inl ⟨by kernel_rfl, ?_⟩) (by assumption) ?_
            rotate_left
            · rintro w' ⟨y1, y2, y3, y4, _⟩
              go_simp
              first | (with_reducible rfl) | done | assumption | skip
            simp only [Act.put, List.getElem_toArray, List.getElem_cons_succ, List.getElem_cons_zero, List.setIfInBounds_toArray, List.set_cons_zero, List.set_cons_succ]
            refine wpAnyH_take (i := 10) (v := ?_) rfl (by kernel_rfl) (by kernel_rfl) (by kernel_rfl) (fun _ _ _ h => h) (Or.inl ⟨by kernel_rfl, ?_⟩) (by assumption) ?_
            rotate_left
            · rintro w' ⟨y1, y2, y3, y4, _⟩
              go_simp
              first | (with_reducible rfl) | done | assumption | skip
            simp only [Act.put, List.getElem_toArray, List.getElem_cons_succ, List.getElem_cons_zero, List.setIfInBounds_toArray, List.set_cons_zero, List.set_cons_succ]
            refine wpAnyH_take (i := 11) (v := .int .i64 i) rfl (by kernel_rfl) (by kernel_rfl) (by kernel_rfl) (fun _ _ _ h => h) (Or.inl ⟨by kernel_rfl, ?_⟩) (by assumption) ?_
            · rintro w' ⟨y1, y2, y3, y4, _⟩
              go_simp
              first | (with_reducible rfl) | done | assumption | skip
            simp only [Act.put, List.getElem_toArray, List.getElem_cons_succ, List.getElem_cons_zero, List.setIfInBounds_toArray, List.set_cons_zero, List.set_cons_succ]
            refine wpAnyH_take (i := 12) (v := ?_) rfl (by kernel_rfl) (by kernel_rfl) (by kernel_rfl) (fun _ _ _ h => h) (Or.inl ⟨by kernel_rfl, ?_⟩) (by assumption) ?_
            rotate_left
            · rintro w' ⟨y1, y2, y3, y4, _⟩
              go_simp
              first | (with_reducible rfl) | done | assumption | skip
            simp only [Act.put, List.getElem_toArray, List.getElem_cons_succ, List.getElem_cons_zero, List.setIfInBounds_toArray, List.set_cons_zero, List.set_cons_succ]
            refine wpAnyH_take (i := 13) (v := .agg #[.int .i64 yk, .int .i64 yv]) rfl (by kernel_rfl) (by kernel_rfl) (by kernel_rfl) (fun _ _ _ h => h) (Or.inl ⟨by kernel_rfl, ?_⟩) (by assumption) ?_
            · rintro w' ⟨y1, y2, y3, y4, _⟩
              go_simp
              first | (with_reducible rfl) | done | assumption | skip
            simp only [Act.put, List.getElem_toArray, List.getElem_cons_succ, List.getElem_cons_zero, List.setIfInBounds_toArray, List.set_cons_zero, List.set_cons_succ]
            refine wpAnyH_ready (rs := [14]) (by kernel_rfl) (by simp) ?_
            refine AllReadyH.cons rfl (fun K hK => ?_) AllReadyH.nil
            go_simp
            refine (choC_any xk xv yk yv _).mono ?_
            rintro e w3 ⟨rfl, b3⟩
            have hN3 : Below wr.heap.size wr w3 := S0.2.2.2.2.trans (b3.mono S0.2.2.2.2.size)
            have S3 := SK w3 hN3
            refine hK.out _ _ S3 (fun _ => ?_)
            clear hK K
            try simp only [Act.put, List.getElem_toArray, List.getElem_cons_succ, List.getElem_cons_zero, List.setIfInBounds_toArray, List.set_cons_zero, List.set_cons_succ]
            refine wpAnyH_take (i := 15) (v := .bool false) rfl (by kernel_rfl) (by kernel_rfl) (by kernel_rfl) (fun _ _ _ h => h) (Or.inl ⟨by kernel_rfl, ?_⟩) (by assumption) ?_
            · rintro w' ⟨y1, y2, y3, y4, _⟩
              go_simp
              first | (with_reducible rfl) | done | assumption | skip
            simp only [Act.put, List.getElem_toArray, List.getElem_cons_succ, List.getElem_cons_zero, List.setIfInBounds_toArray, List.set_cons_zero, List.set_cons_succ]
            refine wpAnyH_take (i := 16) (v := .bool false) rfl (by kernel_rfl) (by kernel_rfl) (by kernel_rfl) (fun _ _ _ h => h) (Or.inl ⟨by kernel_rfl, ?_⟩) (by assumption) ?_
            · rintro w' ⟨y1, y2, y3, y4, _⟩
              go_simp
              first | (with_reducible rfl) | done | assumption | skip
            simp only [Act.put, List.getElem_toArray, List.getElem_cons_succ, List.getElem_cons_zero, List.setIfInBounds_toArray, List.set_cons_zero, List.set_cons_succ]
            refine wpAnyH_done (by kernel_rfl) ?_ _
            go_wp2
            exact ⟨⟨q + 1, m2, by go_num, by omega, by omega, Hm2, HE, G.next hN3, K.trans (Hk.of hN3 G.hi G.mh)⟩, by simp [intOf]; omega⟩
end Go.Proofs.YtigbfbniicfpdaaGreat
