/- The votes of a round and a stage. -/
import Derived.Test.YtimcddknoanghaaKPlace
import Derived.Deep.RegionHeld3
namespace Go.Proofs.Ytimcddknoanghaa
open Go.RowKit Go.Maps
set_option linter.unusedVariables false
set_option linter.unusedSimpArgs false

theorem bel_al {wB w : World} (h : Below wB.heap.size wB w) (o : Obj) : Below wB.heap.size wB (w.alloc o) := h.alloc h.size o
theorem bel_st {wB w : World} {p : Addr} (h : Below wB.heap.size wB w) (hp : wB.heap.size ≤ p.block) (v : Value) : Below wB.heap.size wB (w.setCell p v) := h.setCell hp v

/-- The program's count: its seats, the votes in the order in which they came, the rounds. -/
structure CntAt (w : World) (base cb mb : Nat) (sa : Option Addr) (sc : Nat) (x : List (Int × Int)) (ht : Int) (m : List Vt) (rv : Value) (rs : List Int) : Prop where
  k : Blk w cb #[.slice sa x.length sc, .int .i64 ht, .map (some mb), rv] 56
  seats : SeatsAt w sa x
  map : PMap w mb m
  rounds : w.ownsRow base 3 1 rv rs.length (flatI rs)
theorem CntAt.below {w w' : World} {base cb mb : Nat} {sa : Option Addr} {sc : Nat} {x : List (Int × Int)} {ht : Int} {m : List Vt} {rv : Value} {rs : List Int} (h : CntAt w base cb mb sa sc x ht m rv rs) (hb : Below w.heap.size w w') : CntAt w' base cb mb sa sc x ht m rv rs :=
  ⟨h.k.below hb h.k.lt, h.seats.below hb, h.map.below hb h.map.lt, owns_keep h.rounds hb⟩
/-- The votes of a round and a stage, by seat. -/
def atP (m : List Vt) (x : List (Int × Int)) (r s : Int) : List Vt := x.filterMap fun z => atPl m r s z.1

set_option maxRecDepth 8000 in
set_option maxHeartbeats 3200000 in
theorem at_any (base cb mb : Nat) (sa : Option Addr) (sc : Nat) (x : List (Int × Int)) (ht : Int) (m : List Vt) (rv : Value) (rs : List Int) (r s : Int) (w : World) (H : CntAt w base cb mb sa sc x ht m rv rs) (hx : x.length ≤ 64) (hxi : ∀ z ∈ x, -9223372036854775808 ≤ z.1 ∧ z.1 ≤ 9223372036854775807)
    (hr : -9223372036854775808 ≤ r ∧ r ≤ 9223372036854775807) (hs : -9223372036854775808 ≤ s ∧ s ≤ 9223372036854775807) :
    Calls Try.prog 32 #[.pointer (some ⟨cb, 0, none⟩), .int .i64 r, .int .i64 s] w fun e w' => (∃ v, e = .returned v ∧ w'.ownsRow w.heap.size 34 6 v (atP m x r s).length (flatV (atP m x r s))) ∧ Below w.heap.size w w' := by
  obtain ⟨F, HF⟩ : ∃ F, Hid (atP m x r s = F) := ⟨_, rfl⟩
  rw [HF.out]
  have c0 := (H.k.cell 0).trans rfl
  have zc := H.k.lt
  go_enter Try.func32, Try.ntmps32
  go_wp2_with fail
  clear c0
  go_loopw [7, 17] (fun lv iv wv => ∃ (i : Nat) (q : List Vt), i ≤ x.length ∧ iv = .int .i64 i ∧ Hid (q = atP m (x.take i) r s) ∧ q.length ≤ i ∧ wv.ownsRow w.heap.size 34 6 lv q.length (flatV q) ∧ Below w.heap.size w wv) (fun _ iv _ => x.length - (intOf iv).toNat)
  case atStart => exact ⟨0, [], Nat.zero_le _, rfl, rfl, Nat.zero_le _, World.ownsRow_nil _ _ _ _, Below.refl _ _⟩
  case round =>
    obtain ⟨i, q, hi, rfl, HQ, hq, hown, hb⟩ := hrel
    by_cases hlt : i < x.length
    · have hlt' : (i : Int) < (x.length : Int) := by omega
      obtain ⟨b1, o1, e1, z1, a1, a2⟩ := (H.seats.below hb).one hlt
      subst e1
      have ht2 := List.take_succ_eq_append_getElem hlt
      have hxk := hxi _ (List.getElem_mem hlt)
      generalize x[i] = y at *
      obtain ⟨xk, xv⟩ := y
      simp only at a1 a2 hxk
      have HN : Hid (∀ o, atPl m r s xk = o → atP m (x.take (i + 1)) r s = q ++ o.toList) := by
        intro o ho
        rw [ht2, HQ.out]
        simp only [atP, List.filterMap_append, List.filterMap_cons, List.filterMap_nil, ho]
        cases o <;> rfl
      clear HQ ht2
      have bA : Below wr.heap.size wr (wr.alloc (.cells #[.int .i64 xk, .int .i64 xv] 53)) := (Below.refl _ _).alloc (Nat.le_refl _) _
      have hB := hb.trans (bA.mono hb.size)
      have hownA := hown.alloc (.cells #[.int .i64 xk, .int .i64 xv] 53)
      have kS := Blk.new wr #[.int .i64 xk, .int .i64 xv] 53
      go_upto_region 5 with fail
      generalize wr.alloc (.cells #[.int .i64 xk, .int .i64 xv] 53) = w2 at *
      generalize wr.heap.size = sb at *
      have C2 : ∀ w', Below w2.heap.size w2 w' → w'.cell? ⟨cb, 2, none⟩ = some (.map (some mb)) := fun w' h => by
        have := H.below (hB.trans (h.mono hB.size))
        exact (this.k.cell 2).trans rfl
      have CS : ∀ w', Below w2.heap.size w2 w' → w'.cell? ⟨sb, 0, none⟩ = some (.int .i64 xk) := fun w' h => ((kS.below h kS.lt).cell 0).trans rfl
      have CL : ∀ w', Below w2.heap.size w2 w' → (Instr.lookup 54 (.map (some mb)) (.agg #[.int .i64 r, .int .i64 s, .int .i64 xk]) true).run Try.prog w' = .ok (lookV (atPl m r s xk)) w' := fun w' h => (H.below (hB.trans (h.mono hB.size))).map.look ⟨hr, hs, hxk⟩
      have zS := kS.lt
      have zC : cb < w2.heap.size := Nat.lt_of_lt_of_le zc hB.size
      have bw : Below w2.heap.size w2 w2 := Below.refl _ _
      clear a1 a2 bA kS
      cases ho : atPl m r s xk with
      | none =>
        have HN2 : Hid (q = atP m (x.take (i + 1)) r s) := by have := HN.out none ho; show _ = _; rw [this]; simp
        rw [ho] at CL
        simp only [lookV] at CL
        clear HN
        go_region_held3 (fun w' => Below w2.heap.size w2 w') (repeat (first | exact bw.drew | assumption | refine Below.drew ?_ | exact bw | refine bel_al ?_ _ | refine bel_st ?_ ?_ _ | exact Nat.le_refl _))
          (first
          | (go_at_call 0))
        all_goals
          go_wp2
          exact ⟨⟨i + 1, q, by omega, by go_num, HN2, by omega, (hownA.alloc _).drew, hB.trans ((bel_al bw _).drew.mono hB.size)⟩, by simp [intOf]; omega⟩
      | some v =>
        have HN2 : Hid (q ++ [v] = atP m (x.take (i + 1)) r s) := by have := HN.out (some v) ho; show _ = _; rw [this]; rfl
        rw [ho] at CL
        simp only [lookV] at CL
        clear HN
        obtain ⟨vh, vr, vs, vhas, vbl, vf⟩ := v
        simp only at CL
        obtain ⟨w3, hw3⟩ : ∃ w3, w3 = (w2.alloc (.cells #[.int .i64 vh, .int .i64 vr, .int .i64 vs, .bool vhas, .int .u64 vbl, .int .i64 vf] 34)).drew := ⟨_, rfl⟩
        have kV : Blk w3 w2.heap.size #[.int .i64 vh, .int .i64 vr, .int .i64 vs, .bool vhas, .int .u64 vbl, .int .i64 vf] 34 := by rw [hw3]; exact (Blk.new _ _ _).drew
        have B3 : Below w.heap.size w w3 := by rw [hw3]; exact hB.trans ((bel_al bw _).drew.mono hB.size)
        have own3 : w3.ownsRow w.heap.size 34 6 u7 q.length (flatV q) := by rw [hw3]; exact (hownA.alloc _).drew
        have v0 := (kV.cell 0).trans rfl
        have v1 := (kV.cell 1).trans rfl
        have v2 := (kV.cell 2).trans rfl
        have v3 := (kV.cell 3).trans rfl
        have v4 := (kV.cell 4).trans rfl
        have v55 := (kV.cell 5).trans rfl
        have zv := kV.lt
        have B4 := B3.alloc B3.size (.cells #[.int .i64 vh, .int .i64 vr, .int .i64 vs, .bool vhas, .int .u64 vbl, .int .i64 vf] 34)
        have own4 := own3.alloc (.cells #[.int .i64 vh, .int .i64 vr, .int .i64 vs, .bool vhas, .int .u64 vbl, .int .i64 vf] 34)
        obtain ⟨v5, w5, hr5, ho5, hgr5⟩ := app_votes _ w.heap.size u7 q own4 (some ⟨w3.heap.size, 0, none⟩) 1 [⟨vh, vr, vs, vhas, vbl, vf⟩] (VotesAt.blk (Blk.new _ _ _)) (by omega) (by simp) B4.size 1 rfl
        have b5 : Below w.heap.size w w5 := B4.grown hgr5 B4.size (fun k e => (own4.lt k e).1)
        clear hgr5 own4 B4 own3 B3 kV
        go_region_held3 (fun w' => Below w2.heap.size w2 w') (repeat (first | exact bw.drew | assumption | refine Below.drew ?_ | exact bw | refine bel_al ?_ _ | refine bel_st ?_ ?_ _ | exact Nat.le_refl _))
          (first
          | (go_at_call 0))
        all_goals
          rw [← hw3]
          clear hw3 C2 CS CL ho bw
          go_wp2_with (at_builtin; refine wpList_append_run rfl _ _ 23 rfl _ _ v5 w5 rfl rfl hr5 ?_)
          exact ⟨⟨i + 1, q ++ [⟨vh, vr, vs, vhas, vbl, vf⟩], by omega, by go_num, HN2, by simp; omega, ho5, b5⟩, by simp [intOf]; omega⟩
    · have hge : ¬ (i : Int) < (x.length : Int) := by omega
      have hie : i = x.length := by omega
      have HE : q = F := by rw [← HF.out, HQ.out, hie, List.take_length]
      subst HE
      clear HQ hie HF
      go_wp2
      go_ret
      exact ⟨⟨_, rfl, hown⟩, hb⟩
end Go.Proofs.Ytimcddknoanghaa
