import Derived.Test.YtemjajljpoaioaaDoorYTg
namespace Go.Proofs.YtemjajljpoaioaaDoor
open Go.RowKit
set_option linter.unusedVariables false
set_option linter.unusedSimpArgs false
set_option maxRecDepth 20000
set_option maxHeartbeats 8000000
theorem Plain.nojump {x : List Ins} (P : Plain x) {k : Nat} {i : Ins} (hi : x[k]? = some i) : ¬ (i.op = 14 ∧ i.a = ((k + 1 : Nat) : Int)) := fun q => (P.tight k i hi).1 ⟨q.1, by rw [q.2]; simp⟩
theorem tround_i {w0 : World} {rb ro lc : Nat} {xs : List Ins} (HB : Body w0 rb ro xs) (L : Lds xs) {k : Int} (h0 : 0 ≤ k) (hk : k.toNat < xs.length) : Calls Tryd.prog 16 ([.slice (some ⟨rb, ro, none⟩) xs.length lc, .int .i64 k] : List Value).toArray w0 fun e w' => e = .returned (.bool (rnd xs (xs.length + 1) k.toNat)) ∧ Below w0.heap.size w0 w' := by
 have := tround_m (lc := lc) HB L hk
 rw [Int.toNat_of_nonneg h0] at this
 exact this
set_option maxRecDepth 20000 in
set_option maxHeartbeats 8000000 in
theorem tplain_m {w0 : World} {rb ro lc hb ho hc0 : Nat} {xs : List Ins} {hs : List Int} (HB : Body w0 rb ro xs) (L : Lds xs) (hS : SmI xs) (P : Plain xs) (hhl : hs.length = xs.length) (hH0 : ∀ h ∈ hs, 0 ≤ h) (hHc : ∀ w, Bx w0 () w → ∀ (k : Nat) (h : Int), hs[k]? = some h → w.cell? ⟨hb, ho + k * 1, none⟩ = some (.int .i64 h)) : Calls Tryd.prog 9 ([.slice (some ⟨rb, ro, none⟩) xs.length lc, .slice (some ⟨hb, ho, none⟩) hs.length hc0] : List Value).toArray w0 fun e w' => e = .returned (.bool true) ∧ Below w0.heap.size w0 w' := by
 have M := bx_begin (w0 := w0) (w := w0) (Below.refl _ _)
 refine sw_fn Tryd.func9 rfl 199 Tryd.ntmps9 rfl fun A F => ?_
 refine sw_seq ?_
 refine sw_reg ?_
 refine sw_asg F ⟨rfl, rfl, rfl⟩ rfl rfl fun A F => ?_
 refine sw_end ?_
 show Code.wp _ _ _ _ _
 refine sw_seq ?_
 refine sw_reg ?_
 refine sw_move F ⟨rfl, rfl, rfl⟩ rfl rfl fun A F => ?_
 refine sw_len F ⟨rfl, rfl, rfl⟩ rfl Tryd.underlying32 rfl fun A F => ?_
 refine sw_add F ⟨rfl, rfl, rfl⟩ rfl rfl (by have := HB.le; omega) rfl fun A F => ?_
 rw [show ((xs.length : Nat) : Int) + 1 = ((xs.length + 1 : Nat) : Int) from rfl] at F
 refine sw_makebools F M (n := xs.length + 1) ⟨rfl, rfl, rfl⟩ rfl rfl (by have := HB.le; omega) rfl fun x1 A w F M => ?_
 refine sw_asg F ⟨rfl, rfl, rfl⟩ rfl rfl fun A F => ?_
 refine sw_end ?_
 show Code.wp _ _ _ _ _
 refine sw_seq ?_
 refine sw_seq ?_
 refine sw_reg ?_
 refine sw_asg F ⟨rfl, rfl, rfl⟩ rfl rfl fun A F => ?_
 refine sw_end ?_
 show Code.wp _ _ _ _ _
 refine wp_block ?_
 refine wp_loop (fun A w => ∃ c : Nat, ∃ l : (List Bool), (c ≤ xs.length) ∧ (l.length = xs.length + 1) ∧ (∀ j : Nat, j < c → ∀ x, xs[j]? = some x → isJ x = true → l[x.a.toNat]? = some true) ∧ Fm 199 [(0, .slice (some ⟨rb, ro, none⟩) xs.length lc), (1, .slice (some ⟨hb, ho, none⟩) hs.length hc0), (5, .slice (some ⟨x1, 0, none⟩) (xs.length + 1) (xs.length + 1)), (6, .int .i64 ((c : Nat) : Int))] A ∧ Mm (Bx w0) (fun _ => False) w0 [.box x1 (l.map Value.bool) 4] () w) (fun A _ => xs.length - (intOf (A.eval (.tmp 6))).toNat) ?_ ?_
 ·exact ⟨0, _, (Nat.zero_le _), (by simp), (fun j hj => by omega), F.keep [0, 1, 5, 6] rfl, M⟩
 repeat clear F
 repeat clear M
 rintro A w ⟨c, l, hc, hll, hset, F, M⟩
 have hA6 : A.eval (.tmp 6) = .int .i64 ((c : Nat) : Int) := F.2.2 6 _ rfl
 refine sw_seq ?_
 refine sw_seq ?_
 refine sw_reg ?_
 refine sw_move F ⟨rfl, rfl, rfl⟩ rfl rfl fun A F => ?_
 refine sw_move F ⟨rfl, rfl, rfl⟩ rfl rfl fun A F => ?_
 refine sw_len F ⟨rfl, rfl, rfl⟩ rfl Tryd.underlying32 rfl fun A F => ?_
 refine sw_lss F ⟨rfl, rfl, rfl⟩ rfl rfl rfl fun A F => ?_
 refine sw_end ?_
 show Code.wp _ _ _ _ _
 refine sw_cond F rfl (fun hc2 => ?_) (fun hc2 => ?_)
 ·skip
  have hcl : c < xs.length := by have := of_decide_eq_true hc2; omega
  refine wp_skip ?_
  show Code.wp _ _ _ _ _
  refine sw_seq ?_
  refine wp_block ?_
  refine sw_seq ?_
  refine sw_reg ?_
  refine sw_move F ⟨rfl, rfl, rfl⟩ rfl rfl fun A F => ?_
  refine sw_move F ⟨rfl, rfl, rfl⟩ rfl rfl fun A F => ?_
  refine sw_at F 3 ⟨rfl, rfl, rfl⟩ rfl rfl (by omega) Tryd.underlying32 (by kernel_rfl) rfl fun A F => ?_
  refine sw_fld F 0 ⟨rfl, rfl, rfl⟩ rfl (by kernel_rfl) rfl rfl fun A F => ?_
  obtain ⟨i, hi⟩ : ∃ q, xs[c]? = some q := ⟨_, List.getElem?_eq_getElem (by omega)⟩
  refine sw_ext F ((HB.bx M.st).at_ _ _ (hi) 0 _ rfl) ⟨rfl, rfl, rfl⟩ rfl (by kernel_rfl) rfl fun A F => ?_
  refine sw_eql F ⟨rfl, rfl, rfl⟩ rfl rfl rfl fun A F => ?_
  refine sw_move F ⟨rfl, rfl, rfl⟩ rfl rfl fun A F => ?_
  cases c3 : (i.op == 14) with
  | true =>
   rw [c3] at F
   refine sw_off F 6 rfl rfl rfl rfl rfl rfl rfl fun A F => ?_
   refine sw_off F 6 rfl rfl rfl rfl rfl rfl rfl fun A F => ?_
   refine sw_off F 6 rfl rfl rfl rfl rfl rfl rfl fun A F => ?_
   refine sw_off F 6 rfl rfl rfl rfl rfl rfl rfl fun A F => ?_
   refine sw_off F 6 rfl rfl rfl rfl rfl rfl rfl fun A F => ?_
   refine sw_off F 6 rfl rfl rfl rfl rfl rfl rfl fun A F => ?_
   refine sw_pickT F ⟨rfl, rfl, rfl⟩ rfl rfl rfl fun A F => ?_
   refine sw_end ?_
   show Code.wp _ _ _ _ _
   refine sw_true F rfl ?_
   refine sw_reg ?_
   refine sw_move F ⟨rfl, rfl, rfl⟩ rfl rfl fun A F => ?_
   refine sw_move F ⟨rfl, rfl, rfl⟩ rfl rfl fun A F => ?_
   refine sw_move F ⟨rfl, rfl, rfl⟩ rfl rfl fun A F => ?_
   refine sw_at F 3 ⟨rfl, rfl, rfl⟩ rfl rfl (by omega) Tryd.underlying32 (by kernel_rfl) rfl fun A F => ?_
   refine sw_fld F 1 ⟨rfl, rfl, rfl⟩ rfl (by kernel_rfl) rfl rfl fun A F => ?_
   refine sw_ext F ((HB.bx M.st).at_ _ _ (hi) 1 _ rfl) ⟨rfl, rfl, rfl⟩ rfl (by kernel_rfl) rfl fun A F => ?_
   have f0 : i.op = 14 := by simpa using c3
   have hj : isJ i = true := isJ_iff.2 (by omega)
   obtain ⟨hl0, hl1⟩ := L i (List.mem_of_getElem? hi) hj
   refine sw_atI F 1 ⟨rfl, rfl, rfl⟩ rfl rfl (⟨hl0, by omega⟩) Tryd.underlying47 (by kernel_rfl) rfl fun A F => ?_
   refine sw_bset F M 0 ⟨rfl, rfl, rfl⟩ rfl rfl rfl (by kernel_rfl) (by rw [Nat.zero_add, Nat.mul_one]; exact by omega) fun w M => ?_
   rw [show 0 + i.a.toNat * 1 = i.a.toNat by omega] at M
   simp only [List.set_cons_zero, List.set_cons_succ] at M
   refine sw_end ?_
   show Code.wp _ _ _ _ _
   refine sw_reg ?_
   refine sw_move F ⟨rfl, rfl, rfl⟩ rfl rfl fun A F => ?_
   refine sw_add F ⟨rfl, rfl, rfl⟩ rfl rfl (by have := HB.le; omega) rfl fun A F => ?_
   rw [show ((c : Nat) : Int) + 1 = ((c + 1 : Nat) : Int) from rfl] at F
   refine sw_asg F ⟨rfl, rfl, rfl⟩ rfl rfl fun A F => ?_
   refine sw_end ?_
   have f0 : i.op = 14 := by simpa using c3
   have hJi : isJ i = true := isJ_iff.2 (by omega)
   show _ ∧ _
   refine ⟨⟨c + 1, (l.set i.a.toNat true), by omega, by simp [hll], ?_, F.keep [0, 1, 5, 6] rfl, M⟩, ?_⟩
   ·intro j hjc x hx hJ
    by_cases e : j = c
    ·subst e
     rw [hi] at hx
     cases hx
     rw [List.getElem?_set_self (by omega)]
    ·have := hset j (by omega) x hx hJ
     by_cases e2 : i.a.toNat = x.a.toNat
     ·rw [e2, List.getElem?_set_self (by rw [← e2]; omega)]
     ·rw [List.getElem?_set_ne e2]; exact this
   rw [(F.keep (N := 199) (L' := [(6, .int .i64 ((c + 1 : Nat) : Int))]) [6] rfl).2.2 6 (.int .i64 ((c + 1 : Nat) : Int)) rfl, hA6]
   simp only [intOf]
   omega
  | false =>
   rw [c3] at F
   refine sw_on F 6 rfl rfl rfl rfl rfl ?_
   refine sw_move F ⟨rfl, rfl, rfl⟩ rfl rfl fun A F => ?_
   refine sw_on F 6 rfl rfl rfl rfl rfl ?_
   refine sw_move F ⟨rfl, rfl, rfl⟩ rfl rfl fun A F => ?_
   refine sw_on F 6 rfl rfl rfl rfl rfl ?_
   refine sw_at F 3 ⟨rfl, rfl, rfl⟩ rfl rfl (by omega) Tryd.underlying32 (by kernel_rfl) rfl fun A F => ?_
   refine sw_on F 6 rfl rfl rfl rfl rfl ?_
   refine sw_fld F 0 ⟨rfl, rfl, rfl⟩ rfl (by kernel_rfl) rfl rfl fun A F => ?_
   refine sw_on F 6 rfl rfl rfl rfl rfl ?_
   refine sw_ext F ((HB.bx M.st).at_ _ _ (hi) 0 _ rfl) ⟨rfl, rfl, rfl⟩ rfl (by kernel_rfl) rfl fun A F => ?_
   refine sw_on F 6 rfl rfl rfl rfl rfl ?_
   refine sw_eql F ⟨rfl, rfl, rfl⟩ rfl rfl rfl fun A F => ?_
   refine sw_pickF F ⟨rfl, rfl, rfl⟩ rfl rfl rfl fun A F => ?_
   refine sw_end ?_
   show Code.wp _ _ _ _ _
   refine sw_cond F rfl (fun hc4 => ?_) (fun hc4 => ?_)
   ·skip
    refine sw_reg ?_
    refine sw_move F ⟨rfl, rfl, rfl⟩ rfl rfl fun A F => ?_
    refine sw_move F ⟨rfl, rfl, rfl⟩ rfl rfl fun A F => ?_
    refine sw_move F ⟨rfl, rfl, rfl⟩ rfl rfl fun A F => ?_
    refine sw_at F 3 ⟨rfl, rfl, rfl⟩ rfl rfl (by omega) Tryd.underlying32 (by kernel_rfl) rfl fun A F => ?_
    refine sw_fld F 1 ⟨rfl, rfl, rfl⟩ rfl (by kernel_rfl) rfl rfl fun A F => ?_
    refine sw_ext F ((HB.bx M.st).at_ _ _ (hi) 1 _ rfl) ⟨rfl, rfl, rfl⟩ rfl (by kernel_rfl) rfl fun A F => ?_
    have f0 : i.op ≠ 14 := by simpa using c3
    have f1 : i.op = 15 := by simpa using hc4
    have hj : isJ i = true := isJ_iff.2 (by omega)
    obtain ⟨hl0, hl1⟩ := L i (List.mem_of_getElem? hi) hj
    refine sw_atI F 1 ⟨rfl, rfl, rfl⟩ rfl rfl (⟨hl0, by omega⟩) Tryd.underlying47 (by kernel_rfl) rfl fun A F => ?_
    refine sw_bset F M 0 ⟨rfl, rfl, rfl⟩ rfl rfl rfl (by kernel_rfl) (by rw [Nat.zero_add, Nat.mul_one]; exact by omega) fun w M => ?_
    rw [show 0 + i.a.toNat * 1 = i.a.toNat by omega] at M
    simp only [List.set_cons_zero, List.set_cons_succ] at M
    refine sw_end ?_
    show Code.wp _ _ _ _ _
    refine sw_reg ?_
    refine sw_move F ⟨rfl, rfl, rfl⟩ rfl rfl fun A F => ?_
    refine sw_add F ⟨rfl, rfl, rfl⟩ rfl rfl (by have := HB.le; omega) rfl fun A F => ?_
    rw [show ((c : Nat) : Int) + 1 = ((c + 1 : Nat) : Int) from rfl] at F
    refine sw_asg F ⟨rfl, rfl, rfl⟩ rfl rfl fun A F => ?_
    refine sw_end ?_
    have f0 : i.op ≠ 14 := by simpa using c3
    have f1 : i.op = 15 := by simpa using hc4
    have hJi : isJ i = true := isJ_iff.2 (by omega)
    show _ ∧ _
    refine ⟨⟨c + 1, (l.set i.a.toNat true), by omega, by simp [hll], ?_, F.keep [0, 1, 5, 6] rfl, M⟩, ?_⟩
    ·intro j hjc x hx hJ
     by_cases e : j = c
     ·subst e
      rw [hi] at hx
      cases hx
      rw [List.getElem?_set_self (by omega)]
     ·have := hset j (by omega) x hx hJ
      by_cases e2 : i.a.toNat = x.a.toNat
      ·rw [e2, List.getElem?_set_self (by rw [← e2]; omega)]
      ·rw [List.getElem?_set_ne e2]; exact this
    rw [(F.keep (N := 199) (L' := [(6, .int .i64 ((c + 1 : Nat) : Int))]) [6] rfl).2.2 6 (.int .i64 ((c + 1 : Nat) : Int)) rfl, hA6]
    simp only [intOf]
    omega
   ·skip
    refine wp_skip ?_
    show Code.wp _ _ _ _ _
    refine sw_reg ?_
    refine sw_move F ⟨rfl, rfl, rfl⟩ rfl rfl fun A F => ?_
    refine sw_add F ⟨rfl, rfl, rfl⟩ rfl rfl (by have := HB.le; omega) rfl fun A F => ?_
    rw [show ((c : Nat) : Int) + 1 = ((c + 1 : Nat) : Int) from rfl] at F
    refine sw_asg F ⟨rfl, rfl, rfl⟩ rfl rfl fun A F => ?_
    refine sw_end ?_
    have f0 : i.op ≠ 14 := by simpa using c3
    have f1 : i.op ≠ 15 := by simpa using hc4
    have hJi : ¬ isJ i = true := fun q => by rcases isJ_iff.1 q with q | q <;> omega
    show _ ∧ _
    refine ⟨⟨c + 1, l, by omega, by simp [hll], ?_, F.keep [0, 1, 5, 6] rfl, M⟩, ?_⟩
    ·intro j hjc x hx hJ
     by_cases e : j = c
     ·subst e
      rw [hi] at hx
      cases hx
      exact absurd hJ hJi
     ·have := hset j (by omega) x hx hJ
      exact this
    rw [(F.keep (N := 199) (L' := [(6, .int .i64 ((c + 1 : Nat) : Int))]) [6] rfl).2.2 6 (.int .i64 ((c + 1 : Nat) : Int)) rfl, hA6]
    simp only [intOf]
    omega
 ·skip
  have hce : c = xs.length := by have := of_decide_eq_false hc2; omega
  refine wp_exit ?_
  repeat (first | refine then_exit ?_ | refine exit_block ?_ | refine exit_pass rfl ?_)
  show Code.wp _ _ _ _ _
  refine sw_seq ?_
  refine sw_seq ?_
  refine sw_reg ?_
  refine sw_asg F ⟨rfl, rfl, rfl⟩ rfl rfl fun A F => ?_
  refine sw_end ?_
  show Code.wp _ _ _ _ _
  refine wp_block ?_
  have hal : ∀ m : Nat, (jmpd xs)[m]? = some true → l[m]? = some true := fun m q => by
   have hm := (List.getElem?_eq_some_iff.1 q).1
   rw [jmpd_len] at hm
   obtain ⟨x, hx, hJ, rfl⟩ := (jmpd_get hm).1 q
   obtain ⟨j, hj⟩ := List.mem_iff_getElem?.1 hx
   exact hset j (by have := (List.getElem?_eq_some_iff.1 hj).1; omega) x hj hJ
  refine wp_loop (fun A w => ∃ k : Nat, (k ≤ xs.length) ∧ Fm 199 [(0, .slice (some ⟨rb, ro, none⟩) xs.length lc), (1, .slice (some ⟨hb, ho, none⟩) hs.length hc0), (5, .slice (some ⟨x1, 0, none⟩) (xs.length + 1) (xs.length + 1)), (7, .int .i64 ((k : Nat) : Int))] A ∧ Mm (Bx w0) (fun _ => False) w0 [.box x1 (l.map Value.bool) 4] () w) (fun A _ => xs.length - (intOf (A.eval (.tmp 7))).toNat) ?_ ?_
  ·exact ⟨0, (Nat.zero_le _), F.keep [0, 1, 5, 7] rfl, M⟩
  repeat clear F
  repeat clear M
  rintro A w ⟨k, hk, F, M⟩
  have hA7 : A.eval (.tmp 7) = .int .i64 ((k : Nat) : Int) := F.2.2 7 _ rfl
  refine sw_seq ?_
  refine sw_seq ?_
  refine sw_reg ?_
  refine sw_move F ⟨rfl, rfl, rfl⟩ rfl rfl fun A F => ?_
  refine sw_move F ⟨rfl, rfl, rfl⟩ rfl rfl fun A F => ?_
  refine sw_len F ⟨rfl, rfl, rfl⟩ rfl Tryd.underlying32 rfl fun A F => ?_
  refine sw_lss F ⟨rfl, rfl, rfl⟩ rfl rfl rfl fun A F => ?_
  refine sw_end ?_
  show Code.wp _ _ _ _ _
  refine sw_cond F rfl (fun hc5 => ?_) (fun hc5 => ?_)
  ·skip
   have hkl : k < xs.length := by have := of_decide_eq_true hc5; omega
   refine wp_skip ?_
   show Code.wp _ _ _ _ _
   refine sw_seq ?_
   refine wp_block ?_
   refine sw_seq ?_
   refine sw_reg ?_
   refine sw_move F ⟨rfl, rfl, rfl⟩ rfl rfl fun A F => ?_
   refine sw_move F ⟨rfl, rfl, rfl⟩ rfl rfl fun A F => ?_
   refine sw_at F 3 ⟨rfl, rfl, rfl⟩ rfl rfl (by omega) Tryd.underlying32 (by kernel_rfl) rfl fun A F => ?_
   obtain ⟨i, hi⟩ : ∃ q, xs[k]? = some q := ⟨_, List.getElem?_eq_getElem (by omega)⟩
   refine sw_rng F (cs := [.int .i64 i.op, .int .i64 i.a, .int .i64 i.b]) ((HB.bx M.st).at_ _ _ (hi)) ⟨rfl, rfl, rfl⟩ rfl (by kernel_rfl) (by kernel_rfl) rfl fun A F => ?_
   refine sw_alloc F M [.int .i64 0, .int .i64 0, .int .i64 0] ⟨rfl, rfl, rfl⟩ (by kernel_rfl) rfl fun x6 A w F M => ?_
   refine sw_setAll F M 0 ⟨rfl, rfl, rfl⟩ rfl rfl rfl (by kernel_rfl) rfl rfl fun w M => ?_
   simp only [List.set_cons_zero, List.set_cons_succ] at M
   refine sw_end ?_
   show Code.wp _ _ _ _ _
   refine sw_cut (fun A w => Fm 199 [(0, .slice (some ⟨rb, ro, none⟩) xs.length lc), (1, .slice (some ⟨hb, ho, none⟩) hs.length hc0), (5, .slice (some ⟨x1, 0, none⟩) (xs.length + 1) (xs.length + 1)), (7, .int .i64 ((k : Nat) : Int)), (8, ptr x6)] A ∧ Mm (Bx w0) (fun _ => False) w0 [.box x6 [.int .i64 i.op, .int .i64 i.a, .int .i64 i.b] 31, .box x1 (l.map Value.bool) 4] () w) ?_ ?_
   ·skip
    refine sw_seq ?_
    refine sw_reg ?_
    refine sw_move F ⟨rfl, rfl, rfl⟩ rfl rfl fun A F => ?_
    refine sw_move F ⟨rfl, rfl, rfl⟩ rfl rfl fun A F => ?_
    refine sw_at F 1 ⟨rfl, rfl, rfl⟩ rfl rfl (by omega) Tryd.underlying37 (by kernel_rfl) rfl fun A F => ?_
    obtain ⟨hv, hhv⟩ : ∃ h, hs[k]? = some h := ⟨_, List.getElem?_eq_getElem (by omega)⟩
    have hv0 := hH0 hv (List.mem_of_getElem? hhv)
    refine sw_ext F (hHc w M.st k hv hhv) ⟨rfl, rfl, rfl⟩ rfl (by kernel_rfl) rfl fun A F => ?_
    refine sw_lss F ⟨rfl, rfl, rfl⟩ rfl rfl rfl fun A F => ?_
    rw [show decide (hv < 0) = false from decide_eq_false (by omega)] at F
    refine sw_move F ⟨rfl, rfl, rfl⟩ rfl rfl fun A F => ?_
    refine sw_on F 5 rfl rfl rfl rfl rfl ?_
    refine sw_fld F 0 ⟨rfl, rfl, rfl⟩ rfl (by kernel_rfl) rfl rfl fun A F => ?_
    refine sw_on F 5 rfl rfl rfl rfl rfl ?_
    refine sw_cell F M 0 ⟨rfl, rfl, rfl⟩ rfl rfl rfl (by kernel_rfl) rfl fun A F => ?_
    refine sw_on F 5 rfl rfl rfl rfl rfl ?_
    refine sw_eql F ⟨rfl, rfl, rfl⟩ rfl rfl rfl fun A F => ?_
    refine sw_on F 5 rfl rfl rfl rfl rfl ?_
    refine sw_move F ⟨rfl, rfl, rfl⟩ rfl rfl fun A F => ?_
    cases c7 : (i.op == 14) with
    | true =>
     rw [c7] at F
     refine sw_on F 9 rfl rfl rfl rfl rfl ?_
     refine sw_fld F 1 ⟨rfl, rfl, rfl⟩ rfl (by kernel_rfl) rfl rfl fun A F => ?_
     refine sw_on F 9 rfl rfl rfl rfl rfl ?_
     refine sw_cell F M 0 ⟨rfl, rfl, rfl⟩ rfl rfl rfl (by kernel_rfl) rfl fun A F => ?_
     refine sw_on F 9 rfl rfl rfl rfl rfl ?_
     refine sw_move F ⟨rfl, rfl, rfl⟩ rfl rfl fun A F => ?_
     refine sw_on F 9 rfl rfl rfl rfl rfl ?_
     refine sw_add F ⟨rfl, rfl, rfl⟩ rfl rfl (by have := HB.le; omega) rfl fun A F => ?_
     rw [show ((k : Nat) : Int) + 1 = ((k + 1 : Nat) : Int) from rfl] at F
     refine sw_on F 9 rfl rfl rfl rfl rfl ?_
     refine sw_eql F ⟨rfl, rfl, rfl⟩ rfl rfl rfl fun A F => ?_
     refine sw_on F 5 rfl rfl rfl rfl rfl ?_
     refine sw_pickT F ⟨rfl, rfl, rfl⟩ rfl rfl rfl fun A F => ?_
     refine sw_pickF F ⟨rfl, rfl, rfl⟩ rfl rfl rfl fun A F => ?_
     refine sw_end ?_
     show Code.wp _ _ _ _ _
     refine sw_cond F rfl (fun hc8 => ?_) (fun hc8 => ?_)
     ·exfalso
      exact P.nojump hi ⟨by simpa using c7, by simpa using hc8⟩
     ·skip
      refine wp_skip ?_
      exact ⟨F.keep [0, 1, 5, 7, 8] rfl, M⟩
    | false =>
     rw [c7] at F
     refine sw_off F 9 rfl rfl rfl rfl rfl rfl rfl fun A F => ?_
     refine sw_off F 9 rfl rfl rfl rfl rfl rfl rfl fun A F => ?_
     refine sw_off F 9 rfl rfl rfl rfl rfl rfl rfl fun A F => ?_
     refine sw_off F 9 rfl rfl rfl rfl rfl rfl rfl fun A F => ?_
     refine sw_off F 9 rfl rfl rfl rfl rfl rfl rfl fun A F => ?_
     refine sw_on F 5 rfl rfl rfl rfl rfl ?_
     refine sw_pickF F ⟨rfl, rfl, rfl⟩ rfl rfl rfl fun A F => ?_
     refine sw_pickF F ⟨rfl, rfl, rfl⟩ rfl rfl rfl fun A F => ?_
     refine sw_end ?_
     show Code.wp _ _ _ _ _
     refine sw_false F rfl ?_
     refine wp_skip ?_
     exact ⟨F.keep [0, 1, 5, 7, 8] rfl, M⟩
   ·skip
    clear F M
    rintro A w ⟨F, M⟩
    show Code.wp _ _ _ _ _
    refine sw_cut (fun A w => Fm 199 [(0, .slice (some ⟨rb, ro, none⟩) xs.length lc), (1, .slice (some ⟨hb, ho, none⟩) hs.length hc0), (5, .slice (some ⟨x1, 0, none⟩) (xs.length + 1) (xs.length + 1)), (7, .int .i64 ((k : Nat) : Int)), (8, ptr x6)] A ∧ Mm (Bx w0) (fun _ => False) w0 [.box x6 [.int .i64 i.op, .int .i64 i.a, .int .i64 i.b] 31, .box x1 (l.map Value.bool) 4] () w) ?_ ?_
    ·skip
     refine sw_seq ?_
     refine sw_reg ?_
     refine sw_fld F 0 ⟨rfl, rfl, rfl⟩ rfl (by kernel_rfl) rfl rfl fun A F => ?_
     refine sw_cell F M 0 ⟨rfl, rfl, rfl⟩ rfl rfl rfl (by kernel_rfl) rfl fun A F => ?_
     refine sw_eql F ⟨rfl, rfl, rfl⟩ rfl rfl rfl fun A F => ?_
     refine sw_move F ⟨rfl, rfl, rfl⟩ rfl rfl fun A F => ?_
     cases c9 : (i.op == 14) with
     | true =>
      rw [c9] at F
      have hj : isJ i = true := isJ_iff.2 (.inl (by simpa using c9))
      refine sw_off F 3 rfl rfl rfl rfl rfl rfl rfl fun A F => ?_
      refine sw_off F 3 rfl rfl rfl rfl rfl rfl rfl fun A F => ?_
      refine sw_off F 3 rfl rfl rfl rfl rfl rfl rfl fun A F => ?_
      refine sw_pickT F ⟨rfl, rfl, rfl⟩ rfl rfl rfl fun A F => ?_
      refine sw_move F ⟨rfl, rfl, rfl⟩ rfl rfl fun A F => ?_
      refine sw_on F 8 rfl rfl rfl rfl rfl ?_
      refine sw_move F ⟨rfl, rfl, rfl⟩ rfl rfl fun A F => ?_
      refine sw_on F 8 rfl rfl rfl rfl rfl ?_
      refine sw_fld F 1 ⟨rfl, rfl, rfl⟩ rfl (by kernel_rfl) rfl rfl fun A F => ?_
      refine sw_on F 8 rfl rfl rfl rfl rfl ?_
      refine sw_cell F M 0 ⟨rfl, rfl, rfl⟩ rfl rfl rfl (by kernel_rfl) rfl fun A F => ?_
      refine sw_on F 8 rfl rfl rfl rfl rfl ?_
      refine sw_atI F 3 ⟨rfl, rfl, rfl⟩ rfl rfl (L i (List.mem_of_getElem? hi) hj) Tryd.underlying32 (by kernel_rfl) rfl fun A F => ?_
      refine sw_on F 8 rfl rfl rfl rfl rfl ?_
      refine sw_fld F 0 ⟨rfl, rfl, rfl⟩ rfl (by kernel_rfl) rfl rfl fun A F => ?_
      refine sw_on F 8 rfl rfl rfl rfl rfl ?_
      obtain ⟨t, ht⟩ : ∃ q, xs[i.a.toNat]? = some q := ⟨_, List.getElem?_eq_getElem (L i (List.mem_of_getElem? hi) hj).2⟩
      refine sw_ext F ((HB.bx M.st).at_ _ _ (ht) 0 _ rfl) ⟨rfl, rfl, rfl⟩ rfl (by kernel_rfl) rfl fun A F => ?_
      refine sw_on F 8 rfl rfl rfl rfl rfl ?_
      refine sw_eql F ⟨rfl, rfl, rfl⟩ rfl rfl rfl fun A F => ?_
      refine sw_pickT F ⟨rfl, rfl, rfl⟩ rfl rfl rfl fun A F => ?_
      refine sw_move F ⟨rfl, rfl, rfl⟩ rfl rfl fun A F => ?_
      cases c10 : (t.op == 14) with
      | true =>
       rw [c10] at F
       have ht14 : t.op = 14 := by simpa using c10
       refine sw_on F 17 rfl rfl rfl rfl rfl ?_
       refine sw_move F ⟨rfl, rfl, rfl⟩ rfl rfl fun A F => ?_
       refine sw_on F 17 rfl rfl rfl rfl rfl ?_
       refine sw_fld F 1 ⟨rfl, rfl, rfl⟩ rfl (by kernel_rfl) rfl rfl fun A F => ?_
       refine sw_on F 17 rfl rfl rfl rfl rfl ?_
       refine sw_cell F M 0 ⟨rfl, rfl, rfl⟩ rfl rfl rfl (by kernel_rfl) rfl fun A F => ?_
       refine sw_on F 17 rfl rfl rfl rfl rfl ?_
       obtain ⟨hl0, hl1⟩ := L i (List.mem_of_getElem? hi) hj
       refine sw_callR (by kernel_rfl) (tround_i (lc := lc) (HB.bx M.st) L hl0 hl1) F ⟨rfl, rfl, rfl⟩ rfl rfl ?_
       rintro _ w ⟨rfl, hb⟩
       refine ⟨_, rfl, fun A F => ?_⟩
       replace M := M.aft hb
       clear hb
       rw [P.str k i t hi hj ht ht14] at F
       refine sw_on F 17 rfl rfl rfl rfl rfl ?_
       refine sw_not F ⟨rfl, rfl, rfl⟩ rfl rfl fun A F => ?_
       refine sw_pickT F ⟨rfl, rfl, rfl⟩ rfl rfl rfl fun A F => ?_
       refine sw_end ?_
       show Code.wp _ _ _ _ _
       refine sw_false F rfl ?_
       refine wp_skip ?_
       exact ⟨F.keep [0, 1, 5, 7, 8] rfl, M⟩
      | false =>
       rw [c10] at F
       refine sw_off F 17 rfl rfl rfl rfl rfl rfl rfl fun A F => ?_
       refine sw_off F 17 rfl rfl rfl rfl rfl rfl rfl fun A F => ?_
       refine sw_off F 17 rfl rfl rfl rfl rfl rfl rfl fun A F => ?_
       refine sw_off F 17 rfl rfl rfl rfl rfl rfl rfl fun A F => ?_
       refine sw_off F 17 rfl rfl rfl rfl rfl rfl rfl fun A F => ?_
       refine sw_pickF F ⟨rfl, rfl, rfl⟩ rfl rfl rfl fun A F => ?_
       refine sw_end ?_
       show Code.wp _ _ _ _ _
       refine sw_false F rfl ?_
       refine wp_skip ?_
       exact ⟨F.keep [0, 1, 5, 7, 8] rfl, M⟩
     | false =>
      rw [c9] at F
      refine sw_on F 3 rfl rfl rfl rfl rfl ?_
      refine sw_fld F 0 ⟨rfl, rfl, rfl⟩ rfl (by kernel_rfl) rfl rfl fun A F => ?_
      refine sw_on F 3 rfl rfl rfl rfl rfl ?_
      refine sw_cell F M 0 ⟨rfl, rfl, rfl⟩ rfl rfl rfl (by kernel_rfl) rfl fun A F => ?_
      refine sw_on F 3 rfl rfl rfl rfl rfl ?_
      refine sw_eql F ⟨rfl, rfl, rfl⟩ rfl rfl rfl fun A F => ?_
      refine sw_pickF F ⟨rfl, rfl, rfl⟩ rfl rfl rfl fun A F => ?_
      refine sw_move F ⟨rfl, rfl, rfl⟩ rfl rfl fun A F => ?_
      cases c11 : (i.op == 15) with
      | true =>
       rw [c11] at F
       have hj : isJ i = true := isJ_iff.2 (.inr (by simpa using c11))
       refine sw_on F 8 rfl rfl rfl rfl rfl ?_
       refine sw_move F ⟨rfl, rfl, rfl⟩ rfl rfl fun A F => ?_
       refine sw_on F 8 rfl rfl rfl rfl rfl ?_
       refine sw_fld F 1 ⟨rfl, rfl, rfl⟩ rfl (by kernel_rfl) rfl rfl fun A F => ?_
       refine sw_on F 8 rfl rfl rfl rfl rfl ?_
       refine sw_cell F M 0 ⟨rfl, rfl, rfl⟩ rfl rfl rfl (by kernel_rfl) rfl fun A F => ?_
       refine sw_on F 8 rfl rfl rfl rfl rfl ?_
       refine sw_atI F 3 ⟨rfl, rfl, rfl⟩ rfl rfl (L i (List.mem_of_getElem? hi) hj) Tryd.underlying32 (by kernel_rfl) rfl fun A F => ?_
       refine sw_on F 8 rfl rfl rfl rfl rfl ?_
       refine sw_fld F 0 ⟨rfl, rfl, rfl⟩ rfl (by kernel_rfl) rfl rfl fun A F => ?_
       refine sw_on F 8 rfl rfl rfl rfl rfl ?_
       obtain ⟨t, ht⟩ : ∃ q, xs[i.a.toNat]? = some q := ⟨_, List.getElem?_eq_getElem (L i (List.mem_of_getElem? hi) hj).2⟩
       refine sw_ext F ((HB.bx M.st).at_ _ _ (ht) 0 _ rfl) ⟨rfl, rfl, rfl⟩ rfl (by kernel_rfl) rfl fun A F => ?_
       refine sw_on F 8 rfl rfl rfl rfl rfl ?_
       refine sw_eql F ⟨rfl, rfl, rfl⟩ rfl rfl rfl fun A F => ?_
       refine sw_pickT F ⟨rfl, rfl, rfl⟩ rfl rfl rfl fun A F => ?_
       refine sw_move F ⟨rfl, rfl, rfl⟩ rfl rfl fun A F => ?_
       cases c12 : (t.op == 14) with
       | true =>
        rw [c12] at F
        have ht14 : t.op = 14 := by simpa using c12
        refine sw_on F 17 rfl rfl rfl rfl rfl ?_
        refine sw_move F ⟨rfl, rfl, rfl⟩ rfl rfl fun A F => ?_
        refine sw_on F 17 rfl rfl rfl rfl rfl ?_
        refine sw_fld F 1 ⟨rfl, rfl, rfl⟩ rfl (by kernel_rfl) rfl rfl fun A F => ?_
        refine sw_on F 17 rfl rfl rfl rfl rfl ?_
        refine sw_cell F M 0 ⟨rfl, rfl, rfl⟩ rfl rfl rfl (by kernel_rfl) rfl fun A F => ?_
        refine sw_on F 17 rfl rfl rfl rfl rfl ?_
        obtain ⟨hl0, hl1⟩ := L i (List.mem_of_getElem? hi) hj
        refine sw_callR (by kernel_rfl) (tround_i (lc := lc) (HB.bx M.st) L hl0 hl1) F ⟨rfl, rfl, rfl⟩ rfl rfl ?_
        rintro _ w ⟨rfl, hb⟩
        refine ⟨_, rfl, fun A F => ?_⟩
        replace M := M.aft hb
        clear hb
        rw [P.str k i t hi hj ht ht14] at F
        refine sw_on F 17 rfl rfl rfl rfl rfl ?_
        refine sw_not F ⟨rfl, rfl, rfl⟩ rfl rfl fun A F => ?_
        refine sw_pickT F ⟨rfl, rfl, rfl⟩ rfl rfl rfl fun A F => ?_
        refine sw_end ?_
        show Code.wp _ _ _ _ _
        refine sw_false F rfl ?_
        refine wp_skip ?_
        exact ⟨F.keep [0, 1, 5, 7, 8] rfl, M⟩
       | false =>
        rw [c12] at F
        refine sw_off F 17 rfl rfl rfl rfl rfl rfl rfl fun A F => ?_
        refine sw_off F 17 rfl rfl rfl rfl rfl rfl rfl fun A F => ?_
        refine sw_off F 17 rfl rfl rfl rfl rfl rfl rfl fun A F => ?_
        refine sw_off F 17 rfl rfl rfl rfl rfl rfl rfl fun A F => ?_
        refine sw_off F 17 rfl rfl rfl rfl rfl rfl rfl fun A F => ?_
        refine sw_pickF F ⟨rfl, rfl, rfl⟩ rfl rfl rfl fun A F => ?_
        refine sw_end ?_
        show Code.wp _ _ _ _ _
        refine sw_false F rfl ?_
        refine wp_skip ?_
        exact ⟨F.keep [0, 1, 5, 7, 8] rfl, M⟩
      | false =>
       rw [c11] at F
       refine sw_off F 8 rfl rfl rfl rfl rfl rfl rfl fun A F => ?_
       refine sw_off F 8 rfl rfl rfl rfl rfl rfl rfl fun A F => ?_
       refine sw_off F 8 rfl rfl rfl rfl rfl rfl rfl fun A F => ?_
       refine sw_off F 8 rfl rfl rfl rfl rfl rfl rfl fun A F => ?_
       refine sw_off F 8 rfl rfl rfl rfl rfl rfl rfl fun A F => ?_
       refine sw_off F 8 rfl rfl rfl rfl rfl rfl rfl fun A F => ?_
       refine sw_off F 8 rfl rfl rfl rfl rfl rfl rfl fun A F => ?_
       refine sw_pickF F ⟨rfl, rfl, rfl⟩ rfl rfl rfl fun A F => ?_
       refine sw_move F ⟨rfl, rfl, rfl⟩ rfl rfl fun A F => ?_
       refine sw_off F 17 rfl rfl rfl rfl rfl rfl rfl fun A F => ?_
       refine sw_off F 17 rfl rfl rfl rfl rfl rfl rfl fun A F => ?_
       refine sw_off F 17 rfl rfl rfl rfl rfl rfl rfl fun A F => ?_
       refine sw_off F 17 rfl rfl rfl rfl rfl rfl rfl fun A F => ?_
       refine sw_off F 17 rfl rfl rfl rfl rfl rfl rfl fun A F => ?_
       refine sw_pickF F ⟨rfl, rfl, rfl⟩ rfl rfl rfl fun A F => ?_
       refine sw_end ?_
       show Code.wp _ _ _ _ _
       refine sw_false F rfl ?_
       refine wp_skip ?_
       exact ⟨F.keep [0, 1, 5, 7, 8] rfl, M⟩
    ·skip
     clear F M
     rintro A w ⟨F, M⟩
     show Code.wp _ _ _ _ _
     refine sw_cut (fun A w => Fm 199 [(0, .slice (some ⟨rb, ro, none⟩) xs.length lc), (1, .slice (some ⟨hb, ho, none⟩) hs.length hc0), (5, .slice (some ⟨x1, 0, none⟩) (xs.length + 1) (xs.length + 1)), (7, .int .i64 ((k : Nat) : Int)), (8, ptr x6)] A ∧ Mm (Bx w0) (fun _ => False) w0 [.box x6 [.int .i64 i.op, .int .i64 i.a, .int .i64 i.b] 31, .box x1 (l.map Value.bool) 4] () w ∧ k + 1 < xs.length ∧ (jmpd xs)[k + 1]? ≠ some true) ?_ ?_
     ·skip
      refine sw_seq ?_
      refine sw_reg ?_
      refine sw_move F ⟨rfl, rfl, rfl⟩ rfl rfl fun A F => ?_
      refine sw_add F ⟨rfl, rfl, rfl⟩ rfl rfl (by have := HB.le; omega) rfl fun A F => ?_
      rw [show ((k : Nat) : Int) + 1 = ((k + 1 : Nat) : Int) from rfl] at F
      refine sw_move F ⟨rfl, rfl, rfl⟩ rfl rfl fun A F => ?_
      refine sw_len F ⟨rfl, rfl, rfl⟩ rfl Tryd.underlying32 rfl fun A F => ?_
      refine sw_geq F ⟨rfl, rfl, rfl⟩ rfl rfl rfl fun A F => ?_
      refine sw_move F ⟨rfl, rfl, rfl⟩ rfl rfl fun A F => ?_
      cases c13 : (decide (((xs.length : Nat) : Int) ≤ ((k + 1 : Nat) : Int))) with
      | true =>
       rw [c13] at F
       have hle15 : (((xs.length : Nat) : Int) ≤ ((k + 1 : Nat) : Int)) := by have := of_decide_eq_true c13; exact this
       refine sw_off F 5 rfl rfl rfl rfl rfl rfl rfl fun A F => ?_
       refine sw_off F 5 rfl rfl rfl rfl rfl rfl rfl fun A F => ?_
       refine sw_off F 5 rfl rfl rfl rfl rfl rfl rfl fun A F => ?_
       refine sw_off F 5 rfl rfl rfl rfl rfl rfl rfl fun A F => ?_
       refine sw_off F 5 rfl rfl rfl rfl rfl rfl rfl fun A F => ?_
       refine sw_pickT F ⟨rfl, rfl, rfl⟩ rfl rfl rfl fun A F => ?_
       refine sw_end ?_
       show Code.wp _ _ _ _ _
       refine sw_true F rfl ?_
       refine wp_exit ?_
       repeat (first | refine then_exit ?_ | refine exit_block ?_ | refine exit_pass rfl ?_)
       show Code.wp _ _ _ _ _
       refine sw_reg ?_
       refine sw_move F ⟨rfl, rfl, rfl⟩ rfl rfl fun A F => ?_
       refine sw_add F ⟨rfl, rfl, rfl⟩ rfl rfl (by have := HB.le; omega) rfl fun A F => ?_
       rw [show ((k : Nat) : Int) + 1 = ((k + 1 : Nat) : Int) from rfl] at F
       refine sw_asg F ⟨rfl, rfl, rfl⟩ rfl rfl fun A F => ?_
       refine sw_end ?_
       replace M := M.drop 0 rfl
       show _ ∧ _
       refine ⟨⟨k + 1, by omega, F.keep [0, 1, 5, 7] rfl, M⟩, ?_⟩
       rw [(F.keep (N := 199) (L' := [(7, .int .i64 ((k + 1 : Nat) : Int))]) [7] rfl).2.2 7 (.int .i64 ((k + 1 : Nat) : Int)) rfl, hA7]
       simp only [intOf]
       omega
      | false =>
       rw [c13] at F
       have hle15 : ¬ (((xs.length : Nat) : Int) ≤ ((k + 1 : Nat) : Int)) := by have := of_decide_eq_false c13; exact this
       refine sw_on F 5 rfl rfl rfl rfl rfl ?_
       refine sw_move F ⟨rfl, rfl, rfl⟩ rfl rfl fun A F => ?_
       refine sw_on F 5 rfl rfl rfl rfl rfl ?_
       refine sw_move F ⟨rfl, rfl, rfl⟩ rfl rfl fun A F => ?_
       refine sw_on F 5 rfl rfl rfl rfl rfl ?_
       refine sw_add F ⟨rfl, rfl, rfl⟩ rfl rfl (by have := HB.le; omega) rfl fun A F => ?_
       rw [show ((k : Nat) : Int) + 1 = ((k + 1 : Nat) : Int) from rfl] at F
       refine sw_on F 5 rfl rfl rfl rfl rfl ?_
       refine sw_at F 1 ⟨rfl, rfl, rfl⟩ rfl rfl (by omega) Tryd.underlying47 (by kernel_rfl) rfl fun A F => ?_
       refine sw_on F 5 rfl rfl rfl rfl rfl ?_
       obtain ⟨z1, hz1⟩ : ∃ z, l[k + 1]? = some z := ⟨_, List.getElem?_eq_getElem (by omega)⟩
       refine sw_bget F M 1 ⟨rfl, rfl, rfl⟩ rfl rfl (by rw [Nat.zero_add, Nat.mul_one]; exact hz1) (by kernel_rfl) rfl fun A F => ?_
       refine sw_pickF F ⟨rfl, rfl, rfl⟩ rfl rfl rfl fun A F => ?_
       refine sw_end ?_
       show Code.wp _ _ _ _ _
       refine sw_cond F rfl (fun hc14 => ?_) (fun hc14 => ?_)
       ·skip
        subst hc14
        refine wp_exit ?_
        repeat (first | refine then_exit ?_ | refine exit_block ?_ | refine exit_pass rfl ?_)
        show Code.wp _ _ _ _ _
        refine sw_reg ?_
        refine sw_move F ⟨rfl, rfl, rfl⟩ rfl rfl fun A F => ?_
        refine sw_add F ⟨rfl, rfl, rfl⟩ rfl rfl (by have := HB.le; omega) rfl fun A F => ?_
        rw [show ((k : Nat) : Int) + 1 = ((k + 1 : Nat) : Int) from rfl] at F
        refine sw_asg F ⟨rfl, rfl, rfl⟩ rfl rfl fun A F => ?_
        refine sw_end ?_
        replace M := M.drop 0 rfl
        show _ ∧ _
        refine ⟨⟨k + 1, by omega, F.keep [0, 1, 5, 7] rfl, M⟩, ?_⟩
        rw [(F.keep (N := 199) (L' := [(7, .int .i64 ((k + 1 : Nat) : Int))]) [7] rfl).2.2 7 (.int .i64 ((k + 1 : Nat) : Int)) rfl, hA7]
        simp only [intOf]
        omega
       ·skip
        subst hc14
        refine wp_skip ?_
        exact ⟨F.keep [0, 1, 5, 7, 8] rfl, M, by have h := hle15; omega, fun q => by have := hal _ q; rw [hz1] at this; cases this⟩
     ·skip
      clear F M
      rintro A w ⟨F, M, hk1, hnj⟩
      show Code.wp _ _ _ _ _
      refine sw_seq ?_
      refine sw_reg ?_
      refine sw_move F ⟨rfl, rfl, rfl⟩ rfl rfl fun A F => ?_
      refine sw_move F ⟨rfl, rfl, rfl⟩ rfl rfl fun A F => ?_
      refine sw_add F ⟨rfl, rfl, rfl⟩ rfl rfl (by have := HB.le; omega) rfl fun A F => ?_
      rw [show ((k : Nat) : Int) + 1 = ((k + 1 : Nat) : Int) from rfl] at F
      refine sw_at F 3 ⟨rfl, rfl, rfl⟩ rfl rfl (by omega) Tryd.underlying32 (by kernel_rfl) rfl fun A F => ?_
      obtain ⟨y, hy⟩ : ∃ q, xs[k + 1]? = some q := ⟨_, List.getElem?_eq_getElem (by omega)⟩
      refine sw_rng F (cs := [.int .i64 y.op, .int .i64 y.a, .int .i64 y.b]) ((HB.bx M.st).at_ _ _ (hy)) ⟨rfl, rfl, rfl⟩ rfl (by kernel_rfl) (by kernel_rfl) rfl fun A F => ?_
      refine sw_alloc F M [.int .i64 0, .int .i64 0, .int .i64 0] ⟨rfl, rfl, rfl⟩ (by kernel_rfl) rfl fun x15 A w F M => ?_
      refine sw_setAll F M 0 ⟨rfl, rfl, rfl⟩ rfl rfl rfl (by kernel_rfl) rfl rfl fun w M => ?_
      simp only [List.set_cons_zero, List.set_cons_succ] at M
      refine sw_end ?_
      show Code.wp _ _ _ _ _
      refine sw_cut (fun A w => ∃ zz : Bool, Fm 199 [(0, .slice (some ⟨rb, ro, none⟩) xs.length lc), (1, .slice (some ⟨hb, ho, none⟩) hs.length hc0), (5, .slice (some ⟨x1, 0, none⟩) (xs.length + 1) (xs.length + 1)), (7, .int .i64 ((k : Nat) : Int)), (8, ptr x6), (9, ptr x15), (10, .bool zz)] A ∧ Mm (Bx w0) (fun _ => False) w0 [.box x15 [.int .i64 y.op, .int .i64 y.a, .int .i64 y.b] 31, .box x6 [.int .i64 i.op, .int .i64 i.a, .int .i64 i.b] 31, .box x1 (l.map Value.bool) 4] () w ∧ zz = idle i) ?_ ?_
      ·skip
       refine sw_reg ?_
       refine sw_fld F 0 ⟨rfl, rfl, rfl⟩ rfl (by kernel_rfl) rfl rfl fun A F => ?_
       refine sw_cell F M 1 ⟨rfl, rfl, rfl⟩ rfl rfl rfl (by kernel_rfl) rfl fun A F => ?_
       refine sw_eql F ⟨rfl, rfl, rfl⟩ rfl rfl rfl fun A F => ?_
       refine sw_move F ⟨rfl, rfl, rfl⟩ rfl rfl fun A F => ?_
       cases c16 : (i.op == 1) with
       | true =>
        rw [c16] at F
        refine sw_off F 3 rfl rfl rfl rfl rfl rfl rfl fun A F => ?_
        refine sw_off F 3 rfl rfl rfl rfl rfl rfl rfl fun A F => ?_
        refine sw_off F 3 rfl rfl rfl rfl rfl rfl rfl fun A F => ?_
        refine sw_pickT F ⟨rfl, rfl, rfl⟩ rfl rfl rfl fun A F => ?_
        refine sw_move F ⟨rfl, rfl, rfl⟩ rfl rfl fun A F => ?_
        refine sw_off F 8 rfl rfl rfl rfl rfl rfl rfl fun A F => ?_
        refine sw_off F 8 rfl rfl rfl rfl rfl rfl rfl fun A F => ?_
        refine sw_off F 8 rfl rfl rfl rfl rfl rfl rfl fun A F => ?_
        refine sw_pickT F ⟨rfl, rfl, rfl⟩ rfl rfl rfl fun A F => ?_
        refine sw_move F ⟨rfl, rfl, rfl⟩ rfl rfl fun A F => ?_
        refine sw_off F 13 rfl rfl rfl rfl rfl rfl rfl fun A F => ?_
        refine sw_off F 13 rfl rfl rfl rfl rfl rfl rfl fun A F => ?_
        refine sw_off F 13 rfl rfl rfl rfl rfl rfl rfl fun A F => ?_
        refine sw_pickT F ⟨rfl, rfl, rfl⟩ rfl rfl rfl fun A F => ?_
        refine sw_asg F ⟨rfl, rfl, rfl⟩ rfl rfl fun A F => ?_
        refine sw_end ?_
        have f0 : i.op = 1 := by simpa using c16
        exact ⟨_, F.keep [0, 1, 5, 7, 8, 9, 10] rfl, M, by simp [idle, *]⟩
       | false =>
        rw [c16] at F
        refine sw_on F 3 rfl rfl rfl rfl rfl ?_
        refine sw_fld F 0 ⟨rfl, rfl, rfl⟩ rfl (by kernel_rfl) rfl rfl fun A F => ?_
        refine sw_on F 3 rfl rfl rfl rfl rfl ?_
        refine sw_cell F M 1 ⟨rfl, rfl, rfl⟩ rfl rfl rfl (by kernel_rfl) rfl fun A F => ?_
        refine sw_on F 3 rfl rfl rfl rfl rfl ?_
        refine sw_eql F ⟨rfl, rfl, rfl⟩ rfl rfl rfl fun A F => ?_
        refine sw_pickF F ⟨rfl, rfl, rfl⟩ rfl rfl rfl fun A F => ?_
        refine sw_move F ⟨rfl, rfl, rfl⟩ rfl rfl fun A F => ?_
        cases c17 : (i.op == 3) with
        | true =>
         rw [c17] at F
         refine sw_off F 8 rfl rfl rfl rfl rfl rfl rfl fun A F => ?_
         refine sw_off F 8 rfl rfl rfl rfl rfl rfl rfl fun A F => ?_
         refine sw_off F 8 rfl rfl rfl rfl rfl rfl rfl fun A F => ?_
         refine sw_pickT F ⟨rfl, rfl, rfl⟩ rfl rfl rfl fun A F => ?_
         refine sw_move F ⟨rfl, rfl, rfl⟩ rfl rfl fun A F => ?_
         refine sw_off F 13 rfl rfl rfl rfl rfl rfl rfl fun A F => ?_
         refine sw_off F 13 rfl rfl rfl rfl rfl rfl rfl fun A F => ?_
         refine sw_off F 13 rfl rfl rfl rfl rfl rfl rfl fun A F => ?_
         refine sw_pickT F ⟨rfl, rfl, rfl⟩ rfl rfl rfl fun A F => ?_
         refine sw_asg F ⟨rfl, rfl, rfl⟩ rfl rfl fun A F => ?_
         refine sw_end ?_
         have f0 : i.op ≠ 1 := by simpa using c16
         have f1 : i.op = 3 := by simpa using c17
         exact ⟨_, F.keep [0, 1, 5, 7, 8, 9, 10] rfl, M, by simp [idle, *]⟩
        | false =>
         rw [c17] at F
         refine sw_on F 8 rfl rfl rfl rfl rfl ?_
         refine sw_fld F 0 ⟨rfl, rfl, rfl⟩ rfl (by kernel_rfl) rfl rfl fun A F => ?_
         refine sw_on F 8 rfl rfl rfl rfl rfl ?_
         refine sw_cell F M 1 ⟨rfl, rfl, rfl⟩ rfl rfl rfl (by kernel_rfl) rfl fun A F => ?_
         refine sw_on F 8 rfl rfl rfl rfl rfl ?_
         refine sw_eql F ⟨rfl, rfl, rfl⟩ rfl rfl rfl fun A F => ?_
         refine sw_pickF F ⟨rfl, rfl, rfl⟩ rfl rfl rfl fun A F => ?_
         refine sw_move F ⟨rfl, rfl, rfl⟩ rfl rfl fun A F => ?_
         cases c18 : (i.op == 22) with
         | true =>
          rw [c18] at F
          refine sw_off F 13 rfl rfl rfl rfl rfl rfl rfl fun A F => ?_
          refine sw_off F 13 rfl rfl rfl rfl rfl rfl rfl fun A F => ?_
          refine sw_off F 13 rfl rfl rfl rfl rfl rfl rfl fun A F => ?_
          refine sw_pickT F ⟨rfl, rfl, rfl⟩ rfl rfl rfl fun A F => ?_
          refine sw_asg F ⟨rfl, rfl, rfl⟩ rfl rfl fun A F => ?_
          refine sw_end ?_
          have f0 : i.op ≠ 1 := by simpa using c16
          have f1 : i.op ≠ 3 := by simpa using c17
          have f2 : i.op = 22 := by simpa using c18
          exact ⟨_, F.keep [0, 1, 5, 7, 8, 9, 10] rfl, M, by simp [idle, *]⟩
         | false =>
          rw [c18] at F
          refine sw_on F 13 rfl rfl rfl rfl rfl ?_
          refine sw_fld F 0 ⟨rfl, rfl, rfl⟩ rfl (by kernel_rfl) rfl rfl fun A F => ?_
          refine sw_on F 13 rfl rfl rfl rfl rfl ?_
          refine sw_cell F M 1 ⟨rfl, rfl, rfl⟩ rfl rfl rfl (by kernel_rfl) rfl fun A F => ?_
          refine sw_on F 13 rfl rfl rfl rfl rfl ?_
          refine sw_eql F ⟨rfl, rfl, rfl⟩ rfl rfl rfl fun A F => ?_
          refine sw_pickF F ⟨rfl, rfl, rfl⟩ rfl rfl rfl fun A F => ?_
          refine sw_asg F ⟨rfl, rfl, rfl⟩ rfl rfl fun A F => ?_
          refine sw_end ?_
          have f0 : i.op ≠ 1 := by simpa using c16
          have f1 : i.op ≠ 3 := by simpa using c17
          have f2 : i.op ≠ 22 := by simpa using c18
          exact ⟨_, F.keep [0, 1, 5, 7, 8, 9, 10] rfl, M, by by_cases q : i.op = 24 <;> simp [idle, *]⟩
      ·skip
       clear F M
       rintro A w ⟨zz, F, M, hzz⟩
       show Code.wp _ _ _ _ _
       refine sw_cut (fun A w => Fm 199 [(0, .slice (some ⟨rb, ro, none⟩) xs.length lc), (1, .slice (some ⟨hb, ho, none⟩) hs.length hc0), (5, .slice (some ⟨x1, 0, none⟩) (xs.length + 1) (xs.length + 1)), (7, .int .i64 ((k : Nat) : Int)), (8, ptr x6), (9, ptr x15)] A ∧ Mm (Bx w0) (fun _ => False) w0 [.box x15 [.int .i64 y.op, .int .i64 y.a, .int .i64 y.b] 31, .box x6 [.int .i64 i.op, .int .i64 i.a, .int .i64 i.b] 31, .box x1 (l.map Value.bool) 4] () w) ?_ ?_
       ·skip
        refine sw_seq ?_
        refine sw_reg ?_
        refine sw_move F ⟨rfl, rfl, rfl⟩ rfl rfl fun A F => ?_
        refine sw_move F ⟨rfl, rfl, rfl⟩ rfl rfl fun A F => ?_
        cases c19 : (zz) with
        | true =>
         rw [c19] at F
         refine sw_on F 1 rfl rfl rfl rfl rfl ?_
         refine sw_fld F 0 ⟨rfl, rfl, rfl⟩ rfl (by kernel_rfl) rfl rfl fun A F => ?_
         refine sw_on F 1 rfl rfl rfl rfl rfl ?_
         refine sw_cell F M 0 ⟨rfl, rfl, rfl⟩ rfl rfl rfl (by kernel_rfl) rfl fun A F => ?_
         refine sw_on F 1 rfl rfl rfl rfl rfl ?_
         refine sw_eql F ⟨rfl, rfl, rfl⟩ rfl rfl rfl fun A F => ?_
         refine sw_pickT F ⟨rfl, rfl, rfl⟩ rfl rfl rfl fun A F => ?_
         refine sw_move F ⟨rfl, rfl, rfl⟩ rfl rfl fun A F => ?_
         cases c20 : (y.op == 2) with
         | true =>
          rw [c20] at F
          refine sw_off F 6 rfl rfl rfl rfl rfl rfl rfl fun A F => ?_
          refine sw_off F 6 rfl rfl rfl rfl rfl rfl rfl fun A F => ?_
          refine sw_off F 6 rfl rfl rfl rfl rfl rfl rfl fun A F => ?_
          refine sw_off F 6 rfl rfl rfl rfl rfl rfl rfl fun A F => ?_
          refine sw_offU F 10 rfl rfl rfl rfl rfl rfl fun A F => ?_
          refine sw_offU F 10 rfl rfl rfl rfl rfl rfl fun A F => ?_
          refine sw_offU F 10 rfl rfl rfl rfl rfl rfl fun A F => ?_
          refine sw_offU F 10 rfl rfl rfl rfl rfl rfl fun A F => ?_
          refine sw_offU F 14 rfl rfl rfl rfl rfl rfl fun A F => ?_
          refine sw_offU F 14 rfl rfl rfl rfl rfl rfl fun A F => ?_
          refine sw_offU F 14 rfl rfl rfl rfl rfl rfl fun A F => ?_
          refine sw_offU F 10 rfl rfl rfl rfl rfl rfl fun A F => ?_
          refine sw_off F 6 rfl rfl rfl rfl rfl rfl rfl fun A F => ?_
          refine sw_pickT F ⟨rfl, rfl, rfl⟩ rfl rfl rfl fun A F => ?_
          refine sw_end ?_
          show Code.wp _ _ _ _ _
          exfalso
          have f0 : y.op = 2 := by simpa using c20
          have pr := P.pair hi hy hnj
          first
           | exact pr.1 ⟨by rw [← hzz]; assumption, by omega⟩
           | exact pr.2 ⟨by omega, by omega⟩
         | false =>
          rw [c20] at F
          refine sw_on F 6 rfl rfl rfl rfl rfl ?_
          refine sw_fld F 0 ⟨rfl, rfl, rfl⟩ rfl (by kernel_rfl) rfl rfl fun A F => ?_
          refine sw_on F 6 rfl rfl rfl rfl rfl ?_
          refine sw_cell F M 1 ⟨rfl, rfl, rfl⟩ rfl rfl rfl (by kernel_rfl) rfl fun A F => ?_
          refine sw_on F 6 rfl rfl rfl rfl rfl ?_
          refine sw_eql F ⟨rfl, rfl, rfl⟩ rfl rfl rfl fun A F => ?_
          refine sw_on F 6 rfl rfl rfl rfl rfl ?_
          refine sw_move F ⟨rfl, rfl, rfl⟩ rfl rfl fun A F => ?_
          cases c21 : (i.op == 1) with
          | true =>
           rw [c21] at F
           refine sw_on F 10 rfl rfl rfl rfl rfl ?_
           refine sw_fld F 0 ⟨rfl, rfl, rfl⟩ rfl (by kernel_rfl) rfl rfl fun A F => ?_
           refine sw_on F 10 rfl rfl rfl rfl rfl ?_
           refine sw_cell F M 0 ⟨rfl, rfl, rfl⟩ rfl rfl rfl (by kernel_rfl) rfl fun A F => ?_
           refine sw_on F 10 rfl rfl rfl rfl rfl ?_
           refine sw_eql F ⟨rfl, rfl, rfl⟩ rfl rfl rfl fun A F => ?_
           refine sw_on F 10 rfl rfl rfl rfl rfl ?_
           refine sw_move F ⟨rfl, rfl, rfl⟩ rfl rfl fun A F => ?_
           cases c22 : (y.op == 13) with
           | true =>
            rw [c22] at F
            refine sw_off F 14 rfl rfl rfl rfl rfl rfl rfl fun A F => ?_
            refine sw_off F 14 rfl rfl rfl rfl rfl rfl rfl fun A F => ?_
            refine sw_off F 14 rfl rfl rfl rfl rfl rfl rfl fun A F => ?_
            refine sw_on F 10 rfl rfl rfl rfl rfl ?_
            refine sw_pickT F ⟨rfl, rfl, rfl⟩ rfl rfl rfl fun A F => ?_
            refine sw_on F 6 rfl rfl rfl rfl rfl ?_
            refine sw_pickT F ⟨rfl, rfl, rfl⟩ rfl rfl rfl fun A F => ?_
            refine sw_pickF F ⟨rfl, rfl, rfl⟩ rfl rfl rfl fun A F => ?_
            refine sw_end ?_
            show Code.wp _ _ _ _ _
            exfalso
            have f0 : y.op ≠ 2 := by simpa using c20
            have f1 : i.op = 1 := by simpa using c21
            have f2 : y.op = 13 := by simpa using c22
            have pr := P.pair hi hy hnj
            first
             | exact pr.1 ⟨by rw [← hzz]; assumption, by omega⟩
             | exact pr.2 ⟨by omega, by omega⟩
           | false =>
            rw [c22] at F
            refine sw_on F 14 rfl rfl rfl rfl rfl ?_
            refine sw_fld F 0 ⟨rfl, rfl, rfl⟩ rfl (by kernel_rfl) rfl rfl fun A F => ?_
            refine sw_on F 14 rfl rfl rfl rfl rfl ?_
            refine sw_cell F M 0 ⟨rfl, rfl, rfl⟩ rfl rfl rfl (by kernel_rfl) rfl fun A F => ?_
            refine sw_on F 14 rfl rfl rfl rfl rfl ?_
            refine sw_eql F ⟨rfl, rfl, rfl⟩ rfl rfl rfl fun A F => ?_
            refine sw_on F 10 rfl rfl rfl rfl rfl ?_
            refine sw_pickF F ⟨rfl, rfl, rfl⟩ rfl rfl rfl fun A F => ?_
            refine sw_on F 6 rfl rfl rfl rfl rfl ?_
            refine sw_pickT F ⟨rfl, rfl, rfl⟩ rfl rfl rfl fun A F => ?_
            refine sw_pickF F ⟨rfl, rfl, rfl⟩ rfl rfl rfl fun A F => ?_
            refine sw_end ?_
            show Code.wp _ _ _ _ _
            refine sw_cond F rfl (fun hc23 => ?_) (fun hc23 => ?_)
            ·exfalso
             have f0 : y.op ≠ 2 := by simpa using c20
             have f1 : i.op = 1 := by simpa using c21
             have f2 : y.op ≠ 13 := by simpa using c22
             have f3 : y.op = 15 := by simpa using hc23
             have pr := P.pair hi hy hnj
             first
              | exact pr.1 ⟨by rw [← hzz]; assumption, by omega⟩
              | exact pr.2 ⟨by omega, by omega⟩
            ·skip
             refine wp_skip ?_
             exact ⟨F.keep [0, 1, 5, 7, 8, 9] rfl, M⟩
          | false =>
           rw [c21] at F
           refine sw_off F 10 rfl rfl rfl rfl rfl rfl rfl fun A F => ?_
           refine sw_off F 10 rfl rfl rfl rfl rfl rfl rfl fun A F => ?_
           refine sw_off F 10 rfl rfl rfl rfl rfl rfl rfl fun A F => ?_
           refine sw_off F 10 rfl rfl rfl rfl rfl rfl rfl fun A F => ?_
           refine sw_offU F 14 rfl rfl rfl rfl rfl rfl fun A F => ?_
           refine sw_offU F 14 rfl rfl rfl rfl rfl rfl fun A F => ?_
           refine sw_offU F 14 rfl rfl rfl rfl rfl rfl fun A F => ?_
           refine sw_off F 10 rfl rfl rfl rfl rfl rfl rfl fun A F => ?_
           refine sw_on F 6 rfl rfl rfl rfl rfl ?_
           refine sw_pickF F ⟨rfl, rfl, rfl⟩ rfl rfl rfl fun A F => ?_
           refine sw_pickF F ⟨rfl, rfl, rfl⟩ rfl rfl rfl fun A F => ?_
           refine sw_end ?_
           show Code.wp _ _ _ _ _
           refine sw_false F rfl ?_
           refine wp_skip ?_
           exact ⟨F.keep [0, 1, 5, 7, 8, 9] rfl, M⟩
        | false =>
         rw [c19] at F
         refine sw_off F 1 rfl rfl rfl rfl rfl rfl rfl fun A F => ?_
         refine sw_off F 1 rfl rfl rfl rfl rfl rfl rfl fun A F => ?_
         refine sw_off F 1 rfl rfl rfl rfl rfl rfl rfl fun A F => ?_
         refine sw_pickF F ⟨rfl, rfl, rfl⟩ rfl rfl rfl fun A F => ?_
         refine sw_move F ⟨rfl, rfl, rfl⟩ rfl rfl fun A F => ?_
         refine sw_on F 6 rfl rfl rfl rfl rfl ?_
         refine sw_fld F 0 ⟨rfl, rfl, rfl⟩ rfl (by kernel_rfl) rfl rfl fun A F => ?_
         refine sw_on F 6 rfl rfl rfl rfl rfl ?_
         refine sw_cell F M 1 ⟨rfl, rfl, rfl⟩ rfl rfl rfl (by kernel_rfl) rfl fun A F => ?_
         refine sw_on F 6 rfl rfl rfl rfl rfl ?_
         refine sw_eql F ⟨rfl, rfl, rfl⟩ rfl rfl rfl fun A F => ?_
         refine sw_on F 6 rfl rfl rfl rfl rfl ?_
         refine sw_move F ⟨rfl, rfl, rfl⟩ rfl rfl fun A F => ?_
         cases c24 : (i.op == 1) with
         | true =>
          rw [c24] at F
          refine sw_on F 10 rfl rfl rfl rfl rfl ?_
          refine sw_fld F 0 ⟨rfl, rfl, rfl⟩ rfl (by kernel_rfl) rfl rfl fun A F => ?_
          refine sw_on F 10 rfl rfl rfl rfl rfl ?_
          refine sw_cell F M 0 ⟨rfl, rfl, rfl⟩ rfl rfl rfl (by kernel_rfl) rfl fun A F => ?_
          refine sw_on F 10 rfl rfl rfl rfl rfl ?_
          refine sw_eql F ⟨rfl, rfl, rfl⟩ rfl rfl rfl fun A F => ?_
          refine sw_on F 10 rfl rfl rfl rfl rfl ?_
          refine sw_move F ⟨rfl, rfl, rfl⟩ rfl rfl fun A F => ?_
          cases c25 : (y.op == 13) with
          | true =>
           rw [c25] at F
           refine sw_off F 14 rfl rfl rfl rfl rfl rfl rfl fun A F => ?_
           refine sw_off F 14 rfl rfl rfl rfl rfl rfl rfl fun A F => ?_
           refine sw_off F 14 rfl rfl rfl rfl rfl rfl rfl fun A F => ?_
           refine sw_on F 10 rfl rfl rfl rfl rfl ?_
           refine sw_pickT F ⟨rfl, rfl, rfl⟩ rfl rfl rfl fun A F => ?_
           refine sw_on F 6 rfl rfl rfl rfl rfl ?_
           refine sw_pickT F ⟨rfl, rfl, rfl⟩ rfl rfl rfl fun A F => ?_
           refine sw_pickF F ⟨rfl, rfl, rfl⟩ rfl rfl rfl fun A F => ?_
           refine sw_end ?_
           show Code.wp _ _ _ _ _
           exfalso
           have f0 : i.op = 1 := by simpa using c24
           have f1 : y.op = 13 := by simpa using c25
           have pr := P.pair hi hy hnj
           first
            | exact pr.1 ⟨by rw [← hzz]; assumption, by omega⟩
            | exact pr.2 ⟨by omega, by omega⟩
          | false =>
           rw [c25] at F
           refine sw_on F 14 rfl rfl rfl rfl rfl ?_
           refine sw_fld F 0 ⟨rfl, rfl, rfl⟩ rfl (by kernel_rfl) rfl rfl fun A F => ?_
           refine sw_on F 14 rfl rfl rfl rfl rfl ?_
           refine sw_cell F M 0 ⟨rfl, rfl, rfl⟩ rfl rfl rfl (by kernel_rfl) rfl fun A F => ?_
           refine sw_on F 14 rfl rfl rfl rfl rfl ?_
           refine sw_eql F ⟨rfl, rfl, rfl⟩ rfl rfl rfl fun A F => ?_
           refine sw_on F 10 rfl rfl rfl rfl rfl ?_
           refine sw_pickF F ⟨rfl, rfl, rfl⟩ rfl rfl rfl fun A F => ?_
           refine sw_on F 6 rfl rfl rfl rfl rfl ?_
           refine sw_pickT F ⟨rfl, rfl, rfl⟩ rfl rfl rfl fun A F => ?_
           refine sw_pickF F ⟨rfl, rfl, rfl⟩ rfl rfl rfl fun A F => ?_
           refine sw_end ?_
           show Code.wp _ _ _ _ _
           refine sw_cond F rfl (fun hc26 => ?_) (fun hc26 => ?_)
           ·exfalso
            have f0 : i.op = 1 := by simpa using c24
            have f1 : y.op ≠ 13 := by simpa using c25
            have f2 : y.op = 15 := by simpa using hc26
            have pr := P.pair hi hy hnj
            first
             | exact pr.1 ⟨by rw [← hzz]; assumption, by omega⟩
             | exact pr.2 ⟨by omega, by omega⟩
           ·skip
            refine wp_skip ?_
            exact ⟨F.keep [0, 1, 5, 7, 8, 9] rfl, M⟩
         | false =>
          rw [c24] at F
          refine sw_off F 10 rfl rfl rfl rfl rfl rfl rfl fun A F => ?_
          refine sw_off F 10 rfl rfl rfl rfl rfl rfl rfl fun A F => ?_
          refine sw_off F 10 rfl rfl rfl rfl rfl rfl rfl fun A F => ?_
          refine sw_off F 10 rfl rfl rfl rfl rfl rfl rfl fun A F => ?_
          refine sw_offU F 14 rfl rfl rfl rfl rfl rfl fun A F => ?_
          refine sw_offU F 14 rfl rfl rfl rfl rfl rfl fun A F => ?_
          refine sw_offU F 14 rfl rfl rfl rfl rfl rfl fun A F => ?_
          refine sw_off F 10 rfl rfl rfl rfl rfl rfl rfl fun A F => ?_
          refine sw_on F 6 rfl rfl rfl rfl rfl ?_
          refine sw_pickF F ⟨rfl, rfl, rfl⟩ rfl rfl rfl fun A F => ?_
          refine sw_pickF F ⟨rfl, rfl, rfl⟩ rfl rfl rfl fun A F => ?_
          refine sw_end ?_
          show Code.wp _ _ _ _ _
          refine sw_false F rfl ?_
          refine wp_skip ?_
          exact ⟨F.keep [0, 1, 5, 7, 8, 9] rfl, M⟩
       ·skip
        clear F M
        rintro A w ⟨F, M⟩
        show Code.wp _ _ _ _ _
        refine sw_seq ?_
        refine sw_reg ?_
        refine sw_fld F 0 ⟨rfl, rfl, rfl⟩ rfl (by kernel_rfl) rfl rfl fun A F => ?_
        refine sw_cell F M 1 ⟨rfl, rfl, rfl⟩ rfl rfl rfl (by kernel_rfl) rfl fun A F => ?_
        refine sw_eql F ⟨rfl, rfl, rfl⟩ rfl rfl rfl fun A F => ?_
        refine sw_move F ⟨rfl, rfl, rfl⟩ rfl rfl fun A F => ?_
        cases c27 : (i.op == 1) with
        | true =>
         rw [c27] at F
         refine sw_on F 3 rfl rfl rfl rfl rfl ?_
         refine sw_fld F 0 ⟨rfl, rfl, rfl⟩ rfl (by kernel_rfl) rfl rfl fun A F => ?_
         refine sw_on F 3 rfl rfl rfl rfl rfl ?_
         refine sw_cell F M 0 ⟨rfl, rfl, rfl⟩ rfl rfl rfl (by kernel_rfl) rfl fun A F => ?_
         refine sw_on F 3 rfl rfl rfl rfl rfl ?_
         refine sw_eql F ⟨rfl, rfl, rfl⟩ rfl rfl rfl fun A F => ?_
         refine sw_pickT F ⟨rfl, rfl, rfl⟩ rfl rfl rfl fun A F => ?_
         refine sw_move F ⟨rfl, rfl, rfl⟩ rfl rfl fun A F => ?_
         cases c28 : (y.op == 1) with
         | true =>
          rw [c28] at F
          refine sw_on F 8 rfl rfl rfl rfl rfl ?_
          refine sw_move F ⟨rfl, rfl, rfl⟩ rfl rfl fun A F => ?_
          refine sw_on F 8 rfl rfl rfl rfl rfl ?_
          refine sw_add F ⟨rfl, rfl, rfl⟩ rfl rfl (by have := HB.le; omega) rfl fun A F => ?_
          rw [show ((k : Nat) : Int) + 2 = ((k + 2 : Nat) : Int) from rfl] at F
          refine sw_on F 8 rfl rfl rfl rfl rfl ?_
          refine sw_move F ⟨rfl, rfl, rfl⟩ rfl rfl fun A F => ?_
          refine sw_on F 8 rfl rfl rfl rfl rfl ?_
          refine sw_len F ⟨rfl, rfl, rfl⟩ rfl Tryd.underlying32 rfl fun A F => ?_
          refine sw_on F 8 rfl rfl rfl rfl rfl ?_
          refine sw_lss F ⟨rfl, rfl, rfl⟩ rfl rfl rfl fun A F => ?_
          refine sw_pickT F ⟨rfl, rfl, rfl⟩ rfl rfl rfl fun A F => ?_
          refine sw_move F ⟨rfl, rfl, rfl⟩ rfl rfl fun A F => ?_
          cases c29 : (decide (((k + 2 : Nat) : Int) < ((xs.length : Nat) : Int))) with
          | true =>
           rw [c29] at F
           have hle20 : (((k + 2 : Nat) : Int) < ((xs.length : Nat) : Int)) := by have := of_decide_eq_true c29; exact this
           refine sw_on F 15 rfl rfl rfl rfl rfl ?_
           refine sw_move F ⟨rfl, rfl, rfl⟩ rfl rfl fun A F => ?_
           refine sw_on F 15 rfl rfl rfl rfl rfl ?_
           refine sw_move F ⟨rfl, rfl, rfl⟩ rfl rfl fun A F => ?_
           refine sw_on F 15 rfl rfl rfl rfl rfl ?_
           refine sw_add F ⟨rfl, rfl, rfl⟩ rfl rfl (by have := HB.le; omega) rfl fun A F => ?_
           rw [show ((k : Nat) : Int) + 2 = ((k + 2 : Nat) : Int) from rfl] at F
           refine sw_on F 15 rfl rfl rfl rfl rfl ?_
           refine sw_at F 1 ⟨rfl, rfl, rfl⟩ rfl rfl (by omega) Tryd.underlying47 (by kernel_rfl) rfl fun A F => ?_
           refine sw_on F 15 rfl rfl rfl rfl rfl ?_
           obtain ⟨z2, hz2⟩ : ∃ z, l[k + 2]? = some z := ⟨_, List.getElem?_eq_getElem (by omega)⟩
           refine sw_bget F M 2 ⟨rfl, rfl, rfl⟩ rfl rfl (by rw [Nat.zero_add, Nat.mul_one]; exact hz2) (by kernel_rfl) rfl fun A F => ?_
           refine sw_on F 15 rfl rfl rfl rfl rfl ?_
           refine sw_not F ⟨rfl, rfl, rfl⟩ rfl rfl fun A F => ?_
           refine sw_pickT F ⟨rfl, rfl, rfl⟩ rfl rfl rfl fun A F => ?_
           refine sw_end ?_
           show Code.wp _ _ _ _ _
           refine sw_cond F rfl (fun hc30 => ?_) (fun hc30 => ?_)
           ·skip
            have hz2f : z2 = false := by simpa using hc30
            subst hz2f
            have hnj2 : (jmpd xs)[k + 2]? ≠ some true := fun q => by have := hal _ q; rw [hz2] at this; cases this
            refine sw_seq ?_
            refine sw_reg ?_
            refine sw_move F ⟨rfl, rfl, rfl⟩ rfl rfl fun A F => ?_
            refine sw_move F ⟨rfl, rfl, rfl⟩ rfl rfl fun A F => ?_
            refine sw_add F ⟨rfl, rfl, rfl⟩ rfl rfl (by have := HB.le; omega) rfl fun A F => ?_
            rw [show ((k : Nat) : Int) + 2 = ((k + 2 : Nat) : Int) from rfl] at F
            refine sw_at F 3 ⟨rfl, rfl, rfl⟩ rfl rfl (by omega) Tryd.underlying32 (by kernel_rfl) rfl fun A F => ?_
            refine sw_fld F 0 ⟨rfl, rfl, rfl⟩ rfl (by kernel_rfl) rfl rfl fun A F => ?_
            obtain ⟨v, hv2⟩ : ∃ q, xs[k + 2]? = some q := ⟨_, List.getElem?_eq_getElem (by omega)⟩
            refine sw_ext F ((HB.bx M.st).at_ _ _ (hv2) 0 _ rfl) ⟨rfl, rfl, rfl⟩ rfl (by kernel_rfl) rfl fun A F => ?_
            refine sw_asg F ⟨rfl, rfl, rfl⟩ rfl rfl fun A F => ?_
            refine sw_end ?_
            show Code.wp _ _ _ _ _
            refine sw_seq ?_
            refine sw_reg ?_
            refine sw_move F ⟨rfl, rfl, rfl⟩ rfl rfl fun A F => ?_
            refine sw_fld F 1 ⟨rfl, rfl, rfl⟩ rfl (by kernel_rfl) rfl rfl fun A F => ?_
            refine sw_cell F M 1 ⟨rfl, rfl, rfl⟩ rfl rfl rfl (by kernel_rfl) rfl fun A F => ?_
            refine sw_fld F 1 ⟨rfl, rfl, rfl⟩ rfl (by kernel_rfl) rfl rfl fun A F => ?_
            refine sw_cell F M 0 ⟨rfl, rfl, rfl⟩ rfl rfl rfl (by kernel_rfl) rfl fun A F => ?_
            refine sw_callR (by kernel_rfl) (rsum_m v.op i.a y.a _ (hS i (List.mem_of_getElem? hi)) (hS y (List.mem_of_getElem? hy))) F ⟨rfl, rfl, rfl⟩ rfl rfl ?_
            rintro _ w ⟨⟨sn, sz, rfl, hsum⟩, hb⟩
            refine ⟨_, rfl, fun A F => ?_⟩
            replace M := M.aft hb
            clear hb
            refine sw_move F ⟨rfl, rfl, rfl⟩ rfl rfl fun A F => ?_
            refine sw_extr F ⟨rfl, rfl, rfl⟩ rfl rfl rfl fun A F => ?_
            refine sw_extr F ⟨rfl, rfl, rfl⟩ rfl rfl rfl fun A F => ?_
            refine sw_asg F ⟨rfl, rfl, rfl⟩ rfl rfl fun A F => ?_
            refine sw_asg F ⟨rfl, rfl, rfl⟩ rfl rfl fun A F => ?_
            refine sw_end ?_
            show Code.wp _ _ _ _ _
            refine sw_seq ?_
            refine sw_reg ?_
            refine sw_move F ⟨rfl, rfl, rfl⟩ rfl rfl fun A F => ?_
            refine sw_geq F ⟨rfl, rfl, rfl⟩ rfl rfl rfl fun A F => ?_
            refine sw_move F ⟨rfl, rfl, rfl⟩ rfl rfl fun A F => ?_
            cases c31 : (decide (5 ≤ v.op)) with
            | true =>
             rw [c31] at F
             have hle20 : (5 ≤ v.op) := by have := of_decide_eq_true c31; exact this
             refine sw_on F 2 rfl rfl rfl rfl rfl ?_
             refine sw_move F ⟨rfl, rfl, rfl⟩ rfl rfl fun A F => ?_
             refine sw_on F 2 rfl rfl rfl rfl rfl ?_
             refine sw_leq F ⟨rfl, rfl, rfl⟩ rfl rfl rfl fun A F => ?_
             refine sw_pickT F ⟨rfl, rfl, rfl⟩ rfl rfl rfl fun A F => ?_
             refine sw_move F ⟨rfl, rfl, rfl⟩ rfl rfl fun A F => ?_
             cases c32 : (decide (v.op ≤ 12)) with
             | true =>
              rw [c32] at F
              have hle20 : (v.op ≤ 12) := by have := of_decide_eq_true c32; exact this
              refine sw_on F 6 rfl rfl rfl rfl rfl ?_
              refine sw_move F ⟨rfl, rfl, rfl⟩ rfl rfl fun A F => ?_
              refine sw_pickT F ⟨rfl, rfl, rfl⟩ rfl rfl rfl fun A F => ?_
              refine sw_end ?_
              show Code.wp _ _ _ _ _
              refine sw_cond F rfl (fun hc33 => ?_) (fun hc33 => ?_)
              ·exfalso
               have f0 : i.op = 1 := by simpa using c27
               have f1 : y.op = 1 := by simpa using c28
               have h3 := P.three hi hy hv2 hnj hnj2 (by omega) (by omega)
               have hss := hsum (by omega) (by omega)
               rw [h3, hc33] at hss
               cases hss
              ·skip
               refine wp_skip ?_
               show Code.wp _ _ _ _ _
               refine sw_reg ?_
               refine sw_move F ⟨rfl, rfl, rfl⟩ rfl rfl fun A F => ?_
               refine sw_add F ⟨rfl, rfl, rfl⟩ rfl rfl (by have := HB.le; omega) rfl fun A F => ?_
               rw [show ((k : Nat) : Int) + 1 = ((k + 1 : Nat) : Int) from rfl] at F
               refine sw_asg F ⟨rfl, rfl, rfl⟩ rfl rfl fun A F => ?_
               refine sw_end ?_
               replace M := M.drop 1 rfl
               replace M := M.drop 0 rfl
               show _ ∧ _
               refine ⟨⟨k + 1, by omega, F.keep [0, 1, 5, 7] rfl, M⟩, ?_⟩
               rw [(F.keep (N := 199) (L' := [(7, .int .i64 ((k + 1 : Nat) : Int))]) [7] rfl).2.2 7 (.int .i64 ((k + 1 : Nat) : Int)) rfl, hA7]
               simp only [intOf]
               omega
             | false =>
              rw [c32] at F
              have hle20 : ¬ (v.op ≤ 12) := by have := of_decide_eq_false c32; exact this
              refine sw_off F 6 rfl rfl rfl rfl rfl rfl rfl fun A F => ?_
              refine sw_pickF F ⟨rfl, rfl, rfl⟩ rfl rfl rfl fun A F => ?_
              refine sw_end ?_
              show Code.wp _ _ _ _ _
              refine sw_false F rfl ?_
              refine wp_skip ?_
              show Code.wp _ _ _ _ _
              refine sw_reg ?_
              refine sw_move F ⟨rfl, rfl, rfl⟩ rfl rfl fun A F => ?_
              refine sw_add F ⟨rfl, rfl, rfl⟩ rfl rfl (by have := HB.le; omega) rfl fun A F => ?_
              rw [show ((k : Nat) : Int) + 1 = ((k + 1 : Nat) : Int) from rfl] at F
              refine sw_asg F ⟨rfl, rfl, rfl⟩ rfl rfl fun A F => ?_
              refine sw_end ?_
              replace M := M.drop 1 rfl
              replace M := M.drop 0 rfl
              show _ ∧ _
              refine ⟨⟨k + 1, by omega, F.keep [0, 1, 5, 7] rfl, M⟩, ?_⟩
              rw [(F.keep (N := 199) (L' := [(7, .int .i64 ((k + 1 : Nat) : Int))]) [7] rfl).2.2 7 (.int .i64 ((k + 1 : Nat) : Int)) rfl, hA7]
              simp only [intOf]
              omega
            | false =>
             rw [c31] at F
             have hle20 : ¬ (5 ≤ v.op) := by have := of_decide_eq_false c31; exact this
             refine sw_off F 2 rfl rfl rfl rfl rfl rfl rfl fun A F => ?_
             refine sw_off F 2 rfl rfl rfl rfl rfl rfl rfl fun A F => ?_
             refine sw_pickF F ⟨rfl, rfl, rfl⟩ rfl rfl rfl fun A F => ?_
             refine sw_move F ⟨rfl, rfl, rfl⟩ rfl rfl fun A F => ?_
             refine sw_off F 6 rfl rfl rfl rfl rfl rfl rfl fun A F => ?_
             refine sw_pickF F ⟨rfl, rfl, rfl⟩ rfl rfl rfl fun A F => ?_
             refine sw_end ?_
             show Code.wp _ _ _ _ _
             refine sw_false F rfl ?_
             refine wp_skip ?_
             show Code.wp _ _ _ _ _
             refine sw_reg ?_
             refine sw_move F ⟨rfl, rfl, rfl⟩ rfl rfl fun A F => ?_
             refine sw_add F ⟨rfl, rfl, rfl⟩ rfl rfl (by have := HB.le; omega) rfl fun A F => ?_
             rw [show ((k : Nat) : Int) + 1 = ((k + 1 : Nat) : Int) from rfl] at F
             refine sw_asg F ⟨rfl, rfl, rfl⟩ rfl rfl fun A F => ?_
             refine sw_end ?_
             replace M := M.drop 1 rfl
             replace M := M.drop 0 rfl
             show _ ∧ _
             refine ⟨⟨k + 1, by omega, F.keep [0, 1, 5, 7] rfl, M⟩, ?_⟩
             rw [(F.keep (N := 199) (L' := [(7, .int .i64 ((k + 1 : Nat) : Int))]) [7] rfl).2.2 7 (.int .i64 ((k + 1 : Nat) : Int)) rfl, hA7]
             simp only [intOf]
             omega
           ·skip
            have hz2f : z2 = true := by simpa using hc30
            refine wp_skip ?_
            show Code.wp _ _ _ _ _
            refine sw_reg ?_
            refine sw_move F ⟨rfl, rfl, rfl⟩ rfl rfl fun A F => ?_
            refine sw_add F ⟨rfl, rfl, rfl⟩ rfl rfl (by have := HB.le; omega) rfl fun A F => ?_
            rw [show ((k : Nat) : Int) + 1 = ((k + 1 : Nat) : Int) from rfl] at F
            refine sw_asg F ⟨rfl, rfl, rfl⟩ rfl rfl fun A F => ?_
            refine sw_end ?_
            replace M := M.drop 1 rfl
            replace M := M.drop 0 rfl
            show _ ∧ _
            refine ⟨⟨k + 1, by omega, F.keep [0, 1, 5, 7] rfl, M⟩, ?_⟩
            rw [(F.keep (N := 199) (L' := [(7, .int .i64 ((k + 1 : Nat) : Int))]) [7] rfl).2.2 7 (.int .i64 ((k + 1 : Nat) : Int)) rfl, hA7]
            simp only [intOf]
            omega
          | false =>
           rw [c29] at F
           have hle20 : ¬ (((k + 2 : Nat) : Int) < ((xs.length : Nat) : Int)) := by have := of_decide_eq_false c29; exact this
           refine sw_off F 15 rfl rfl rfl rfl rfl rfl rfl fun A F => ?_
           refine sw_off F 15 rfl rfl rfl rfl rfl rfl rfl fun A F => ?_
           refine sw_off F 15 rfl rfl rfl rfl rfl rfl rfl fun A F => ?_
           refine sw_off F 15 rfl rfl rfl rfl rfl rfl rfl fun A F => ?_
           refine sw_off F 15 rfl rfl rfl rfl rfl rfl rfl fun A F => ?_
           refine sw_off F 15 rfl rfl rfl rfl rfl rfl rfl fun A F => ?_
           refine sw_pickF F ⟨rfl, rfl, rfl⟩ rfl rfl rfl fun A F => ?_
           refine sw_end ?_
           show Code.wp _ _ _ _ _
           refine sw_false F rfl ?_
           refine wp_skip ?_
           show Code.wp _ _ _ _ _
           refine sw_reg ?_
           refine sw_move F ⟨rfl, rfl, rfl⟩ rfl rfl fun A F => ?_
           refine sw_add F ⟨rfl, rfl, rfl⟩ rfl rfl (by have := HB.le; omega) rfl fun A F => ?_
           rw [show ((k : Nat) : Int) + 1 = ((k + 1 : Nat) : Int) from rfl] at F
           refine sw_asg F ⟨rfl, rfl, rfl⟩ rfl rfl fun A F => ?_
           refine sw_end ?_
           replace M := M.drop 1 rfl
           replace M := M.drop 0 rfl
           show _ ∧ _
           refine ⟨⟨k + 1, by omega, F.keep [0, 1, 5, 7] rfl, M⟩, ?_⟩
           rw [(F.keep (N := 199) (L' := [(7, .int .i64 ((k + 1 : Nat) : Int))]) [7] rfl).2.2 7 (.int .i64 ((k + 1 : Nat) : Int)) rfl, hA7]
           simp only [intOf]
           omega
         | false =>
          rw [c28] at F
          refine sw_off F 8 rfl rfl rfl rfl rfl rfl rfl fun A F => ?_
          refine sw_off F 8 rfl rfl rfl rfl rfl rfl rfl fun A F => ?_
          refine sw_off F 8 rfl rfl rfl rfl rfl rfl rfl fun A F => ?_
          refine sw_off F 8 rfl rfl rfl rfl rfl rfl rfl fun A F => ?_
          refine sw_off F 8 rfl rfl rfl rfl rfl rfl rfl fun A F => ?_
          refine sw_pickF F ⟨rfl, rfl, rfl⟩ rfl rfl rfl fun A F => ?_
          refine sw_move F ⟨rfl, rfl, rfl⟩ rfl rfl fun A F => ?_
          refine sw_off F 15 rfl rfl rfl rfl rfl rfl rfl fun A F => ?_
          refine sw_off F 15 rfl rfl rfl rfl rfl rfl rfl fun A F => ?_
          refine sw_off F 15 rfl rfl rfl rfl rfl rfl rfl fun A F => ?_
          refine sw_off F 15 rfl rfl rfl rfl rfl rfl rfl fun A F => ?_
          refine sw_off F 15 rfl rfl rfl rfl rfl rfl rfl fun A F => ?_
          refine sw_off F 15 rfl rfl rfl rfl rfl rfl rfl fun A F => ?_
          refine sw_pickF F ⟨rfl, rfl, rfl⟩ rfl rfl rfl fun A F => ?_
          refine sw_end ?_
          show Code.wp _ _ _ _ _
          refine sw_false F rfl ?_
          refine wp_skip ?_
          show Code.wp _ _ _ _ _
          refine sw_reg ?_
          refine sw_move F ⟨rfl, rfl, rfl⟩ rfl rfl fun A F => ?_
          refine sw_add F ⟨rfl, rfl, rfl⟩ rfl rfl (by have := HB.le; omega) rfl fun A F => ?_
          rw [show ((k : Nat) : Int) + 1 = ((k + 1 : Nat) : Int) from rfl] at F
          refine sw_asg F ⟨rfl, rfl, rfl⟩ rfl rfl fun A F => ?_
          refine sw_end ?_
          replace M := M.drop 1 rfl
          replace M := M.drop 0 rfl
          show _ ∧ _
          refine ⟨⟨k + 1, by omega, F.keep [0, 1, 5, 7] rfl, M⟩, ?_⟩
          rw [(F.keep (N := 199) (L' := [(7, .int .i64 ((k + 1 : Nat) : Int))]) [7] rfl).2.2 7 (.int .i64 ((k + 1 : Nat) : Int)) rfl, hA7]
          simp only [intOf]
          omega
        | false =>
         rw [c27] at F
         refine sw_off F 3 rfl rfl rfl rfl rfl rfl rfl fun A F => ?_
         refine sw_off F 3 rfl rfl rfl rfl rfl rfl rfl fun A F => ?_
         refine sw_off F 3 rfl rfl rfl rfl rfl rfl rfl fun A F => ?_
         refine sw_pickF F ⟨rfl, rfl, rfl⟩ rfl rfl rfl fun A F => ?_
         refine sw_move F ⟨rfl, rfl, rfl⟩ rfl rfl fun A F => ?_
         refine sw_off F 8 rfl rfl rfl rfl rfl rfl rfl fun A F => ?_
         refine sw_off F 8 rfl rfl rfl rfl rfl rfl rfl fun A F => ?_
         refine sw_off F 8 rfl rfl rfl rfl rfl rfl rfl fun A F => ?_
         refine sw_off F 8 rfl rfl rfl rfl rfl rfl rfl fun A F => ?_
         refine sw_off F 8 rfl rfl rfl rfl rfl rfl rfl fun A F => ?_
         refine sw_pickF F ⟨rfl, rfl, rfl⟩ rfl rfl rfl fun A F => ?_
         refine sw_move F ⟨rfl, rfl, rfl⟩ rfl rfl fun A F => ?_
         refine sw_off F 15 rfl rfl rfl rfl rfl rfl rfl fun A F => ?_
         refine sw_off F 15 rfl rfl rfl rfl rfl rfl rfl fun A F => ?_
         refine sw_off F 15 rfl rfl rfl rfl rfl rfl rfl fun A F => ?_
         refine sw_off F 15 rfl rfl rfl rfl rfl rfl rfl fun A F => ?_
         refine sw_off F 15 rfl rfl rfl rfl rfl rfl rfl fun A F => ?_
         refine sw_off F 15 rfl rfl rfl rfl rfl rfl rfl fun A F => ?_
         refine sw_pickF F ⟨rfl, rfl, rfl⟩ rfl rfl rfl fun A F => ?_
         refine sw_end ?_
         show Code.wp _ _ _ _ _
         refine sw_false F rfl ?_
         refine wp_skip ?_
         show Code.wp _ _ _ _ _
         refine sw_reg ?_
         refine sw_move F ⟨rfl, rfl, rfl⟩ rfl rfl fun A F => ?_
         refine sw_add F ⟨rfl, rfl, rfl⟩ rfl rfl (by have := HB.le; omega) rfl fun A F => ?_
         rw [show ((k : Nat) : Int) + 1 = ((k + 1 : Nat) : Int) from rfl] at F
         refine sw_asg F ⟨rfl, rfl, rfl⟩ rfl rfl fun A F => ?_
         refine sw_end ?_
         replace M := M.drop 1 rfl
         replace M := M.drop 0 rfl
         show _ ∧ _
         refine ⟨⟨k + 1, by omega, F.keep [0, 1, 5, 7] rfl, M⟩, ?_⟩
         rw [(F.keep (N := 199) (L' := [(7, .int .i64 ((k + 1 : Nat) : Int))]) [7] rfl).2.2 7 (.int .i64 ((k + 1 : Nat) : Int)) rfl, hA7]
         simp only [intOf]
         omega
  ·skip
   have hke : k = xs.length := by have := of_decide_eq_false hc5; omega
   refine wp_exit ?_
   repeat (first | refine then_exit ?_ | refine exit_block ?_ | refine exit_pass rfl ?_)
   show Code.wp _ _ _ _ _
   refine sw_seq ?_
   refine sw_reg ?_
   refine sw_asg F ⟨rfl, rfl, rfl⟩ rfl rfl fun A F => ?_
   refine sw_end ?_
   show Code.wp _ _ _ _ _
   refine wp_ret ?_
   repeat (first | refine then_ret ?_ | refine block_ret ?_)
   exact sw_rettmp F Tryd.results9 rfl ⟨rfl, M.st⟩
end Go.Proofs.YtemjajljpoaioaaDoor
