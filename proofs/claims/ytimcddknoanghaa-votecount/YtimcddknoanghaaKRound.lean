/- The votes of a round; all votes. -/
import Derived.Test.YtimcddknoanghaaKAt
namespace Go.Proofs.Ytimcddknoanghaa
open Go.RowKit Go.Maps
set_option linter.unusedVariables false
set_option linter.unusedSimpArgs false

theorem atP_len (m : List Vt) (x : List (Int × Int)) (r s : Int) : (atP m x r s).length ≤ x.length := List.length_filterMap_le _ _
/-- The votes of a round, of the stages ahead of n. -/
def rndN (m : List Vt) (x : List (Int × Int)) (r : Int) : Nat → List Vt
  | 0 => []
  | n + 1 => rndN m x r n ++ atP m x r n
theorem rndN_len (m : List Vt) (x : List (Int × Int)) (r : Int) : ∀ n, (rndN m x r n).length ≤ n * x.length
  | 0 => by simp [rndN]
  | n + 1 => by
    have h1 := rndN_len m x r n
    have h2 := atP_len m x r n
    have h3 : (n + 1) * x.length = n * x.length + x.length := Nat.succ_mul _ _
    simp only [rndN, List.length_append]
    omega

set_option maxRecDepth 8000 in
set_option maxHeartbeats 3200000 in
theorem ofRound_any (base cb mb : Nat) (sa : Option Addr) (sc : Nat) (x : List (Int × Int)) (ht : Int) (m : List Vt) (rv : Value) (rs : List Int) (r : Int) (w : World) (H : CntAt w base cb mb sa sc x ht m rv rs) (hx : x.length ≤ 64) (hxi : ∀ z ∈ x, -9223372036854775808 ≤ z.1 ∧ z.1 ≤ 9223372036854775807)
    (hr : -9223372036854775808 ≤ r ∧ r ≤ 9223372036854775807) :
    Calls Try.prog 30 #[.pointer (some ⟨cb, 0, none⟩), .int .i64 r] w fun e w' => (∃ v, e = .returned v ∧ w'.ownsRow w.heap.size 34 6 v (rndN m x r 3).length (flatV (rndN m x r 3))) ∧ Below w.heap.size w w' := by
  obtain ⟨F, HF⟩ : ∃ F, Hid (rndN m x r 3 = F) := ⟨_, rfl⟩
  rw [HF.out]
  go_enter Try.func30, Try.ntmps30
  go_wp2_with fail
  go_loopw [5, 6] (fun lv iv wv => ∃ (i : Nat) (q : List Vt), i ≤ 3 ∧ iv = .int .i64 i ∧ Hid (q = rndN m x r i) ∧ wv.ownsRow w.heap.size 34 6 lv q.length (flatV q) ∧ Below w.heap.size w wv) (fun _ iv _ => 3 - (intOf iv).toNat)
  case atStart => exact ⟨0, [], Nat.zero_le _, rfl, rfl, World.ownsRow_nil _ _ _ _, Below.refl _ _⟩
  case round =>
    obtain ⟨i, q, hi, rfl, HQ, hown, hb⟩ := hrel
    have hql : q.length ≤ 200 := by
      have h1 := rndN_len m x r i
      rw [HQ.out]
      have h2 : i * x.length ≤ 3 * x.length := Nat.mul_le_mul_right _ hi
      omega
    by_cases hlt : i < 3
    · have hlt' : (i : Int) ≤ 2 := by omega
      have hA := at_any base cb mb sa sc x ht m rv rs r i wr (H.below hb) hx hxi hr ⟨by omega, by omega⟩
      have HN : Hid (q ++ atP m x r i = rndN m x r (i + 1)) := by show _ = _; rw [HQ.out]; rfl
      have hal := atP_len m x r i
      generalize atP m x r i = A at *
      clear HQ
      go_wp2_with fail
      refine hA.mono ?_
      rintro e w1 ⟨⟨v1, rfl, o1⟩, b1⟩
      obtain ⟨la, ca, rfl, s1⟩ := VotesAt.of_owns o1
      have B1 := hb.trans (b1.mono hb.size)
      have own1 := owns_keep hown b1
      obtain ⟨v2, w2, hr2, ho2, hgr2⟩ := app_votes w1 w.heap.size u5 q own1 la ca A s1 (by omega) (by omega) B1.size _ rfl
      have b2 : Below w.heap.size w w2 := B1.grown hgr2 B1.size (fun k e => (own1.lt k e).1)
      clear hA o1 s1 own1 hgr2 B1 b1 hown hb
      go_wp2_with (at_builtin; refine wpList_append_run rfl _ _ 23 rfl _ _ v2 w2 rfl rfl hr2 ?_)
      exact ⟨⟨i + 1, q ++ A, by omega, by go_num, HN, ho2, b2⟩, by simp [intOf]; omega⟩
    · have hge : ¬ (i : Int) ≤ 2 := by omega
      have hie : i = 3 := by omega
      have HE : q = F := by rw [← HF.out, HQ.out, hie]
      subst HE
      clear HQ hie HF
      go_wp2
      go_ret
      exact ⟨⟨_, rfl, hown⟩, hb⟩

/-- All votes, by round, stage and seat. -/
def votesP (m : List Vt) (x : List (Int × Int)) (rs : List Int) : List Vt := rs.flatMap fun r => rndN m x r 3
set_option maxRecDepth 8000 in
set_option maxHeartbeats 3200000 in
theorem votes_any (base cb mb : Nat) (sa : Option Addr) (sc : Nat) (x : List (Int × Int)) (ht : Int) (m : List Vt) (ra : Option Addr) (rc : Nat) (rs : List Int) (w : World) (H : CntAt w base cb mb sa sc x ht m (.slice ra rs.length rc) rs) (hR : IntsAt w ra rs) (hx : x.length ≤ 64) (hxi : ∀ z ∈ x, -9223372036854775808 ≤ z.1 ∧ z.1 ≤ 9223372036854775807)
    (hrs : rs.length ≤ 512) (hri : ∀ r ∈ rs, -9223372036854775808 ≤ r ∧ r ≤ 9223372036854775807) :
    Calls Try.prog 8 #[.pointer (some ⟨cb, 0, none⟩)] w fun e w' => (∃ v, e = .returned v ∧ w'.ownsRow w.heap.size 34 6 v (votesP m x rs).length (flatV (votesP m x rs))) ∧ Below w.heap.size w w' := by
  obtain ⟨F, HF⟩ : ∃ F, Hid (votesP m x rs = F) := ⟨_, rfl⟩
  rw [HF.out]
  have c3 := (H.k.cell 3).trans rfl
  have zc := H.k.lt
  go_enter Try.func8, Try.ntmps8
  go_wp2_with fail
  clear c3
  go_loopw [3, 11] (fun lv iv wv => ∃ (i : Nat) (q : List Vt), i ≤ rs.length ∧ iv = .int .i64 i ∧ Hid (q = votesP m x (rs.take i)) ∧ q.length ≤ i * 192 ∧ wv.ownsRow w.heap.size 34 6 lv q.length (flatV q) ∧ Below w.heap.size w wv) (fun _ iv _ => rs.length - (intOf iv).toNat)
  case atStart => exact ⟨0, [], Nat.zero_le _, rfl, rfl, Nat.zero_le _, World.ownsRow_nil _ _ _ _, Below.refl _ _⟩
  case round =>
    obtain ⟨i, q, hi, rfl, HQ, hql, hown, hb⟩ := hrel
    by_cases hlt : i < rs.length
    · have hlt' : (i : Int) < (rs.length : Int) := by omega
      obtain ⟨b1, o1, e1, z1, a1⟩ := (hR.below hb).one hlt
      subst e1
      have hri1 := hri _ (List.getElem_mem hlt)
      have ht2 := List.take_succ_eq_append_getElem hlt
      generalize rs[i] = r at *
      have hA := ofRound_any base cb mb sa sc x ht m _ rs r wr (H.below hb) hx hxi hri1
      have HN : Hid (q ++ rndN m x r 3 = votesP m x (rs.take (i + 1))) := by show _ = _; rw [HQ.out, ht2]; simp [votesP]
      have hal := rndN_len m x r 3
      generalize rndN m x r 3 = A at *
      clear HQ ht2
      go_wp2_with fail
      refine hA.mono ?_
      rintro e w1 ⟨⟨v1, rfl, o1⟩, b1⟩
      obtain ⟨la, ca, rfl, s1⟩ := VotesAt.of_owns o1
      have B1 := hb.trans (b1.mono hb.size)
      have own1 := owns_keep hown b1
      obtain ⟨v2, w2, hr2, ho2, hgr2⟩ := app_votes w1 w.heap.size u3 q own1 la ca A s1 (by omega) (by omega) B1.size _ rfl
      have b2 : Below w.heap.size w w2 := B1.grown hgr2 B1.size (fun k e => (own1.lt k e).1)
      clear hA o1 s1 own1 hgr2 B1 b1 hown hb a1
      go_wp2_with (at_builtin; refine wpList_append_run rfl _ _ 23 rfl _ _ v2 w2 rfl rfl hr2 ?_)
      exact ⟨⟨i + 1, q ++ A, by omega, by go_num, HN, by simp only [List.length_append]; omega, ho2, b2⟩, by simp [intOf]; omega⟩
    · have hge : ¬ (i : Int) < (rs.length : Int) := by omega
      have hie : i = rs.length := by omega
      have HE : q = F := by rw [← HF.out, HQ.out, hie, List.take_length]
      subst HE
      clear HQ hie HF
      go_wp2
      go_ret
      exact ⟨⟨_, rfl, hown⟩, hb⟩
end Go.Proofs.Ytimcddknoanghaa
