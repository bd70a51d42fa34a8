/- Whether those who voted are a quorum, of both. -/
import Derived.Test.YtimcddknoanghaaKRound
import Derived.Test.YtimcddknoanghaaVHas
namespace Go.Proofs.Ytimcddknoanghaa
open Go.RowKit Go.Maps
set_option linter.unusedVariables false
set_option linter.unusedSimpArgs false

/-- The answer's count. -/
structure RcAt (w : World) (rb : Nat) (sa : Option Addr) (sc : Nat) (x : List (Int × Int)) (ht : Int) (la : Option Addr) (lc : Nat) (L : List Vt) : Prop where
  k : Blk w rb #[.slice sa x.length sc, .int .i64 ht, .slice la L.length lc] 30
  seats : SeatsAt w sa x
  votes : VotesAt w la L
theorem RcAt.below {w w' : World} {rb : Nat} {sa : Option Addr} {sc : Nat} {x : List (Int × Int)} {ht : Int} {la : Option Addr} {lc : Nat} {L : List Vt} (h : RcAt w rb sa sc x ht la lc L) (hb : Below w.heap.size w w') : RcAt w' rb sa sc x ht la lc L :=
  ⟨h.k.below hb h.k.lt, h.seats.below hb, h.votes.below hb⟩
/-- The votes of a round and a stage, of the answer's list. -/
def ofRS (L : List Vt) (r s : Int) : List Vt := L.filter fun v => decide (v.r = r) && decide (v.s = s)

set_option maxRecDepth 8000 in
set_option maxHeartbeats 3200000 in
theorem rany_any (rb : Nat) (sa : Option Addr) (sc : Nat) (x : List (Int × Int)) (ht : Int) (la : Option Addr) (lc : Nat) (L : List Vt) (r s : Int) (w : World) (H : RcAt w rb sa sc x ht la lc L) (hx : x.length ≤ 64) (hw : ∀ z ∈ x, 0 ≤ z.2 ∧ z.2 ≤ 1099511627775) (hL : L.length ≤ 100000) :
    Calls Try.prog 16 #[.pointer (some ⟨rb, 0, none⟩), .int .i64 r, .int .i64 s] w fun e w' => e = .returned (.bool (decide (2 * totP x < 3 * wtP x ((ofRS L r s).map Vt.f)))) ∧ Below w.heap.size w w' := by
  obtain ⟨F, HF⟩ : ∃ F, Hid ((ofRS L r s).map Vt.f = F) := ⟨_, rfl⟩
  rw [HF.out]
  have C2 : ∀ w', Below w.heap.size w w' → w'.cell? ⟨rb, 2, none⟩ = some (.slice la L.length lc) := fun w' hb => ((H.below hb).k.cell 2).trans rfl
  have zr : ∀ w', Below w.heap.size w w' → rb < w'.heap.size := fun w' hb => (H.below hb).k.lt
  go_enter Try.func16, Try.ntmps16
  go_wp2_with fail
  go_loopw [7, 8] (fun lv iv wv => ∃ (i : Nat) (q : List Int), i ≤ L.length ∧ iv = .int .i64 i ∧ Hid (q = (ofRS (L.take i) r s).map Vt.f) ∧ q.length ≤ i ∧ wv.ownsRow w.heap.size 3 1 lv q.length (flatI q) ∧ Below w.heap.size w wv) (fun _ iv _ => L.length - (intOf iv).toNat)
  case atStart => exact ⟨0, [], Nat.zero_le _, rfl, rfl, Nat.zero_le _, World.ownsRow_nil _ _ _ _, Below.refl _ _⟩
  case round =>
    obtain ⟨i, q, hi, rfl, HQ, hql, hown, hb⟩ := hrel
    have k2 := C2 _ hb
    have zk := zr _ hb
    by_cases hlt : i < L.length
    · have hlt' : (i : Int) < (L.length : Int) := by omega
      obtain ⟨b1, o1, e1, z1, c0, c1, c2, c3, c4, c5⟩ := (H.votes.below hb).one hlt
      subst e1
      have ht2 := List.take_succ_eq_append_getElem hlt
      generalize L[i] = y at *
      obtain ⟨yh, yr, ys, yhas, ybl, yf⟩ := y
      simp only at c0 c1 c2 c3 c4 c5
      by_cases hq : yr = r ∧ ys = s
      · have n1 : (yr == r) = true := by simp [hq.1]
        have n2 : (ys == s) = true := by simp [hq.2]
        have HN : Hid (q ++ [yf] = (ofRS (L.take (i + 1)) r s).map Vt.f) := by
          show _ = _
          rw [HQ.out, ht2]
          simp [ofRS, hq.1, hq.2]
        have hz1 := hb.alloc hb.size (.cells #[.int .i64 yf] 3)
        have hownA := hown.alloc (.cells #[.int .i64 yf] 3)
        obtain ⟨v2, w2, hr2, ho2, hgr2⟩ := app_ints _ w.heap.size _ q hownA (some ⟨wr.heap.size, 0, none⟩) 1 [yf] (IntsAt.blk (Blk.new _ _ _)) (by omega) (by simp) hz1.size 1 rfl
        have b2 : Below w.heap.size w w2 := hz1.grown hgr2 hz1.size (fun k e => (hownA.lt k e).1)
        clear hownA hgr2 hz1 HQ ht2 hq C2 zr
        go_wp2_with (at_builtin; refine wpList_append_run rfl _ _ 24 rfl _ _ v2 w2 rfl rfl hr2 ?_)
        exact ⟨⟨i + 1, q ++ [yf], by omega, by go_num, HN, by simp; omega, ho2, b2⟩, by simp [intOf]; omega⟩
      · have HN : Hid (q = (ofRS (L.take (i + 1)) r s).map Vt.f) := by
          show _ = _
          rw [HQ.out, ht2]
          simp [ofRS, hq]
        by_cases hh : yr = r
        · have n1 : (yr == r) = true := by simp [hh]
          have n2 : (ys == s) = false := by simp; exact fun e => hq ⟨hh, e⟩
          clear HQ ht2 hq hh C2 zr
          go_wp2
          exact ⟨⟨i + 1, q, by omega, by go_num, HN, by omega, hown, hb⟩, by simp [intOf]; omega⟩
        · have n1 : (yr == r) = false := by simp [hh]
          clear HQ ht2 hq hh C2 zr
          go_wp2
          exact ⟨⟨i + 1, q, by omega, by go_num, HN, by omega, hown, hb⟩, by simp [intOf]; omega⟩
    · have hge : ¬ (i : Int) < (L.length : Int) := by omega
      have hie : i = L.length := by omega
      have HE : q = F := by rw [← HF.out, HQ.out, hie, List.take_length]
      subst HE
      obtain ⟨qa, qc, rfl, hqI⟩ := IntsAt.of_owns hown
      have k0 := ((H.below hb).k.cell 0).trans rfl
      have hS := H.seats.below hb
      clear HQ hie HF C2 zr hown
      go_wp2_with fail
      refine (rquorum_any sa qa sc qc x q wr hx (by unfold maxLen; omega) hw hS hqI).mono ?_
      rintro e w1 ⟨rfl, b1⟩
      go_wp2
      go_ret
      exact ⟨rfl, hb.trans (b1.mono hb.size)⟩

set_option maxRecDepth 8000 in
set_option maxHeartbeats 3200000 in
theorem any_any (base cb mb : Nat) (sa : Option Addr) (sc : Nat) (x : List (Int × Int)) (ht : Int) (m : List Vt) (rv : Value) (rs : List Int) (r s : Int) (w : World) (H : CntAt w base cb mb sa sc x ht m rv rs) (hx : x.length ≤ 64) (hxi : ∀ z ∈ x, -9223372036854775808 ≤ z.1 ∧ z.1 ≤ 9223372036854775807) (hw : ∀ z ∈ x, 0 ≤ z.2 ∧ z.2 ≤ 1099511627775)
    (hr : -9223372036854775808 ≤ r ∧ r ≤ 9223372036854775807) (hs : -9223372036854775808 ≤ s ∧ s ≤ 9223372036854775807) :
    Calls Try.prog 15 #[.pointer (some ⟨cb, 0, none⟩), .int .i64 r, .int .i64 s] w fun e w' => e = .returned (.bool (decide (2 * totP x < 3 * wtP x ((atP m x r s).map Vt.f)))) ∧ Below w.heap.size w w' := by
  have hal := atP_len m x r s
  have KA : ∀ w', Below w.heap.size w w' → Calls Try.prog 32 #[.pointer (some ⟨cb, 0, none⟩), .int .i64 r, .int .i64 s] w' fun e w'' => (∃ v, e = .returned v ∧ w''.ownsRow w'.heap.size 34 6 v (atP m x r s).length (flatV (atP m x r s))) ∧ Below w'.heap.size w' w'' := fun w' hb => at_any base cb mb sa sc x ht m rv rs r s w' (H.below hb) hx hxi hr hs
  generalize atP m x r s = A at *
  have KV : ∀ w' la ca, VotesAt w' la A → Calls Try.prog 33 #[.slice la A.length ca] w' fun e w'' => (∃ v, e = .returned v ∧ w''.ownsRow w'.heap.size 3 1 v (A.map Vt.f).length (flatI (A.map Vt.f))) ∧ Below w'.heap.size w' w'' := fun w' la ca h => voters_any la ca A w' (by omega) h
  have hFl : (A.map Vt.f).length ≤ 64 := by rw [List.length_map]; omega
  obtain ⟨Fs, hFs⟩ : ∃ Fs, A.map Vt.f = Fs := ⟨_, rfl⟩
  rw [hFs] at KV hFl ⊢
  clear hFs
  have KQ : ∀ w' na nc, Below w.heap.size w w' → IntsAt w' na Fs → Calls Try.prog 35 #[.slice sa x.length sc, .slice na Fs.length nc] w' fun e w'' => e = .returned (.bool (decide (2 * totP x < 3 * wtP x Fs))) ∧ Below w'.heap.size w' w'' := fun w' na nc hb h => quorum_any sa na sc nc x Fs w' hx (by unfold maxLen; omega) hw (H.below hb).seats h
  have C0 : ∀ w', Below w.heap.size w w' → w'.cell? ⟨cb, 0, none⟩ = some (.slice sa x.length sc) := fun w' hb => ((H.below hb).k.cell 0).trans rfl
  have zk := H.k.lt
  have bw : Below w.heap.size w w := Below.refl _ _
  generalize decide (2 * totP x < 3 * wtP x Fs) = Z at *
  clear H hxi hw
  go_enter Try.func15, Try.ntmps15
  go_upto_region 1 with fail
  go_region_held3 (fun w' => Below w.heap.size w w') (repeat (first | exact bw.drew | exact hN3 | exact hN2 | exact hN1 | assumption | refine Below.drew ?_ | exact bw | exact Nat.le_refl _))
    (first
    | (go_at_call 32
       refine (KA _ (by assumption)).mono ?_
       rintro e w1 ⟨⟨v1, rfl, o1⟩, b1⟩
       obtain ⟨la, ca, rfl, s1⟩ := VotesAt.of_owns o1
       have hN1 : Below w.heap.size w w1 := Below.trans (by assumption) (b1.mono (Below.size (by assumption)))
       clear o1 b1)
    | (go_at_call 33
       refine (KV _ _ _ s1).mono ?_
       rintro e w2 ⟨⟨v2, rfl, o2⟩, b2⟩
       obtain ⟨na, nc, rfl, s2⟩ := IntsAt.of_owns o2
       have hN2 : Below w.heap.size w w2 := hN1.trans (b2.mono hN1.size)
       clear o2 b2)
    | (go_at_call 35
       refine (KQ _ _ _ hN2 s2).mono ?_
       rintro e w3 ⟨rfl, b3⟩
       have hN3 : Below w.heap.size w w3 := hN2.trans (b3.mono hN2.size)))
  all_goals
    go_wp2
    go_ret
    exact ⟨rfl, hN3⟩
end Go.Proofs.Ytimcddknoanghaa
