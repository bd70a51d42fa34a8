/- The heap of seats: Push and Pop of its own. -/
import Derived.Test.YtigbfbniicfpdaaGreatHMem
namespace Go.Proofs.YtigbfbniicfpdaaGreat
open Go.RowKit
set_option linter.unusedVariables false
set_option linter.unusedSimpArgs false

theorem Hk.grown {base mb : Nat} {a b c : World} {row : Option Nat} (h : Hk base mb a b) (hg : b.grownBy c row) (hr : ∀ k, row = some k → base ≤ k ∧ k ≠ mb) (h1 : base ≤ b.heap.size) (h2 : mb < b.heap.size) : Hk base mb a c := by
  refine ⟨h.1.grown hg h1 (fun k hk => (hr k hk).1), ?_⟩
  rw [hg.block mb h2 (fun e => (hr mb e.symm).2 rfl)]
  exact h.2
theorem app_heavy (w : World) (base : Nat) (sv : Value) (done : List (Int × Int)) (hown : w.ownsRow base 39 2 sv done.length (flatS done)) (x : Int × Int) (hd : done.length ≤ 200000) (hb : base ≤ w.heap.size) (nb : Nat) (hk : Blk w nb #[.int .i64 x.1, .int .i64 x.2] 39) (n : Nat) (hn : done.length = n) :
    ∃ g cap w', (Builtin.append_ #[36, 36] 36 #[sv, .slice (some ⟨nb, 0, none⟩) 1 1]).run Tryz.prog w = .ok (.slice (some ⟨g, 0, none⟩) (n + 1) cap) w' ∧ w'.ownsRow base 39 2 (.slice (some ⟨g, 0, none⟩) (n + 1) cap) (done ++ [x]).length (flatS (done ++ [x])) ∧ w.grownBy w' sv.ownBlock ∧ (sv.ownBlock = some g ∨ g = w.heap.size) := by
  subst hn
  obtain ⟨i0, hi, hz0, hz1, hz2⟩ := info_parts infoSeat
  obtain ⟨g, cap, w', hr, h1, h2, h3, h4⟩ := run_append_lies (P := Tryz.prog) w 36 36 base 39 i0 (.agg #[.int .i64 0, .int .i64 0]) 2 16 Tryz.underlying36 hi hz0 hz1 hz2 rfl (by decide) _ _ _ hown ⟨nb, 0, none⟩ 1 1 [.int .i64 x.1, .int .i64 x.2] rfl (fun j u hj => by
    rw [show ((⟨nb, 0, none⟩ : Addr).add j) = ⟨nb, 0 + j, none⟩ by unfold Addr.add; split <;> simp_all, Nat.zero_add, hk.cell j]
    match j, hj with
    | 0, hj => exact hj
    | 1, hj => exact hj
    | j + 2, hj => simp at hj) (by intro u hu; simp only [List.mem_cons, List.not_mem_nil, or_false] at hu; rcases hu with rfl | rfl <;> rfl) (by omega) (by unfold maxLen; omega) (by omega) hb _ rfl
  refine ⟨g, cap, w', hr, ?_, h2, h3⟩
  rw [flatS_snoc, List.length_append]
  exact h1

set_option maxRecDepth 4000 in
set_option maxHeartbeats 1600000 in
theorem mpush_any (sa : Option Addr) (sc : Nat) (l : List (Int × Int)) (xk xv : Int) (hn : l.length ≤ 100) (base hb mb : Nat) (w : World) (H : HpAt w base hb mb l sa sc) :
    Calls Tryz.prog 117 #[.pointer (some ⟨hb, 0, none⟩), .iface 39 (.agg #[.int .i64 xk, .int .i64 xv])] w fun e w' => e = .returned (.tuple #[]) ∧ ∃ sa2 sc2, HpAt w' base hb mb (l ++ [(xk, xv)]) sa2 sc2 ∧ Hk base mb w w' := by
  have hta : ∀ w' : World, (Instr.typeAssert (.iface 39 (.agg #[.int .i64 xk, .int .i64 xv])) 20 39 false).run Tryz.prog w' = .ok (.agg #[.int .i64 xk, .int .i64 xv]) w' := fun _ => by kernel_rfl
  have c0 : w.drew.cell? ⟨hb, 0, none⟩ = some (.slice sa l.length sc) := (H.k.cell 0).trans rfl
  have bA : Below w.heap.size w (w.alloc (.cells #[.int .i64 xk, .int .i64 xv] 39)).drew := ((Below.refl _ _).alloc (Nat.le_refl _) _).drew
  have HA := H.next bA
  have c1 : (w.alloc (.cells #[.int .i64 xk, .int .i64 xv] 39)).drew.cell? ⟨hb, 0, none⟩ = some (.slice sa l.length sc) := (HA.k.cell 0).trans rfl
  obtain ⟨g, ec, w9, hr, ho9, hg9, hgb⟩ := app_heavy (w.alloc (.cells #[.int .i64 xk, .int .i64 xv] 39)).drew base (.slice sa l.length sc) l HA.own (xk, xv) (by omega) HA.hi w.heap.size (Blk.new w _ _).drew l.length rfl
  have hbl : ∀ k, (Value.slice sa l.length sc).ownBlock = some k → ∃ a, sa = some a ∧ a.block = k := fun k hk => by
    cases sa with
    | none => cases hk
    | some a => injection hk with hk; exact ⟨a, rfl, hk⟩
  have hlow : ∀ k, (Value.slice sa l.length sc).ownBlock = some k → base ≤ k ∧ k ≠ mb := fun k hk => by
    obtain ⟨a, ha, rfl⟩ := hbl k hk
    exact ⟨(HA.own.lt _ hk).1, (H.ne a ha).2⟩
  have k9 := HA.k.grown hg9 (fun e => by obtain ⟨a, ha, e2⟩ := hbl _ e; exact (H.ne a ha).1 e2)
  have c9 : w9.cell? ⟨hb, 0, none⟩ = some (.slice sa l.length sc) := (k9.cell 0).trans rfl
  have f9 := k9.frozen 0
  have z9 := k9.lt
  have hs9 : mb < w9.heap.size := Nat.lt_of_lt_of_le HA.mh hg9.size
  have hgn : g ≠ hb ∧ g ≠ mb := by
    rcases hgb with q | q
    · obtain ⟨a, ha, e2⟩ := hbl _ q; rw [← e2]; exact H.ne a ha
    · have h1 := HA.k.lt; have h2 := HA.mh; omega
  have K9 : Hk base mb w w9 := (Hk.of bA H.hi H.mh).grown hg9 hlow HA.hi HA.mh
  have HF : Hid (HpAt (w9.setCell ⟨hb, 0, none⟩ (.slice (some ⟨g, 0, none⟩) (l.length + 1) ec)) base hb mb (l ++ [(xk, xv)]) (some ⟨g, 0, none⟩) ec ∧ Hk base mb w (w9.setCell ⟨hb, 0, none⟩ (.slice (some ⟨g, 0, none⟩) (l.length + 1) ec))) := by
    have hl : (l ++ [(xk, xv)]).length = l.length + 1 := by simp
    refine ⟨⟨?_, ?_, (fun a ha => by injection ha with ha; subst ha; exact hgn), H.lo, ?_⟩, K9.set H.lo _⟩
    · rw [hl]
      exact k9.set 0 _
    · rw [hl]
      rw [hl] at ho9
      refine ⟨ho9.1, ?_⟩
      rcases ho9.2 with h0 | ⟨g2, cap, cur, hv, hb2, hg2, rest⟩
      · exact .inl h0
      · have e2 : g = g2 := by injection hv with q; injection q with q; injection q
        subst e2
        exact .inr ⟨g, cap, cur, hv, hb2, by rw [Below.heap_setCell _ _ _ _ hgn.1]; exact hg2, rest⟩
    · simp [World.setCell]
      exact hs9
  clear ho9 hg9 hgb K9 k9 HA bA H hlow hbl hgn
  go_enter Tryz.func117, Tryz.ntmps117
  go_upto_region 0 with fail
  refine wp_region_late (fun w' => w'.cell? ⟨hb, 0, none⟩ = some (.slice sa l.length sc)) 9 (by kernel_rfl) ?_
  refine wpAnyM_pure (i := 0) (v := ?_) rfl (by kernel_rfl) (by kernel_rfl) (by kernel_rfl) (by decide) (fun _ _ _ h => h) (Or.inl ⟨by kernel_rfl, ?_⟩) (by assumption) ?_
  rotate_left
  · intro w' _
    go_simp
    first | (with_reducible rfl) | done | assumption | skip
  simp only [Act.put, List.getElem_toArray, List.getElem_cons_succ, List.getElem_cons_zero, List.setIfInBounds_toArray, List.set_cons_zero, List.set_cons_succ]
  refine wpAnyM_pure (i := 1) (v := ?_) rfl (by kernel_rfl) (by kernel_rfl) (by kernel_rfl) (by decide) (fun _ _ _ h => h) (Or.inl ⟨by kernel_rfl, ?_⟩) (by assumption) ?_
  rotate_left
  · intro w' _
    go_simp
    first | (with_reducible rfl) | done | assumption | skip
  simp only [Act.put, List.getElem_toArray, List.getElem_cons_succ, List.getElem_cons_zero, List.setIfInBounds_toArray, List.set_cons_zero, List.set_cons_succ]
  refine wpAnyM_pure (i := 2) (v := ?_) rfl (by kernel_rfl) (by kernel_rfl) (by kernel_rfl) (by decide) (fun _ _ _ h => h) (Or.inl ⟨by kernel_rfl, ?_⟩) (by assumption) ?_
  rotate_left
  · intro w' _
    go_simp
    first | (with_reducible rfl) | done | assumption | skip
  simp only [Act.put, List.getElem_toArray, List.getElem_cons_succ, List.getElem_cons_zero, List.setIfInBounds_toArray, List.set_cons_zero, List.set_cons_succ]
  refine wpAnyM_take (i := 3) (v := .slice sa l.length sc) rfl (by kernel_rfl) (by kernel_rfl) (by kernel_rfl) (by kernel_rfl) (by decide) (by kernel_rfl) (fun _ _ _ h => h) (Or.inl ⟨by kernel_rfl, ?_⟩) (by assumption) ?_
  · intro w' y1
    go_simp
    first | (with_reducible rfl) | done | assumption | skip
  simp only [Act.put, List.getElem_toArray, List.getElem_cons_succ, List.getElem_cons_zero, List.setIfInBounds_toArray, List.set_cons_zero, List.set_cons_succ]
  refine wpAnyM_pure (i := 4) (v := ?_) rfl (by kernel_rfl) (by kernel_rfl) (by kernel_rfl) (by decide) (fun _ _ _ h => h) (Or.inl ⟨by kernel_rfl, ?_⟩) (by assumption) ?_
  rotate_left
  · intro w' _
    go_simp
    first | (with_reducible rfl) | done | assumption | skip
  simp only [Act.put, List.getElem_toArray, List.getElem_cons_succ, List.getElem_cons_zero, List.setIfInBounds_toArray, List.set_cons_zero, List.set_cons_succ]
  refine wpAnyM_pure (i := 5) (v := ?_) rfl (by kernel_rfl) (by kernel_rfl) (by kernel_rfl) (by decide) (fun _ _ _ h => h) (Or.inl ⟨by kernel_rfl, ?_⟩) (by assumption) ?_
  rotate_left
  · intro w' _
    go_simp
    first | (with_reducible rfl) | done | assumption | skip
  simp only [Act.put, List.getElem_toArray, List.getElem_cons_succ, List.getElem_cons_zero, List.setIfInBounds_toArray, List.set_cons_zero, List.set_cons_succ]
  refine wpAnyM_one (i := 6) (by kernel_rfl) ?_
  refine wpOp_step rfl (fun K hK => ?_)
  go_simp
  refine hK _ _ ⟨fun _ => c1, ?_⟩
  clear hK K
  try simp only [Act.put, List.getElem_toArray, List.getElem_cons_succ, List.getElem_cons_zero, List.setIfInBounds_toArray, List.set_cons_zero, List.set_cons_succ]
  refine wpAnyM_one (i := 7) (by kernel_rfl) ?_
  refine wpOp_step rfl (fun K hK => ?_)
  rw [if_pos (by kernel_rfl)]
  refine wp_append_run _ _ _ rfl _ _ _ w9 rfl rfl hr ?_
  refine hK _ _ ⟨fun _ => c9, ?_⟩
  clear hK K
  try simp only [Act.put, List.getElem_toArray, List.getElem_cons_succ, List.getElem_cons_zero, List.setIfInBounds_toArray, List.set_cons_zero, List.set_cons_succ]
  refine wpAnyM_pure (i := 8) (v := ?_) rfl (by kernel_rfl) (by kernel_rfl) (by kernel_rfl) (by decide) (fun _ _ _ h => h) (Or.inl ⟨by kernel_rfl, ?_⟩) (by assumption) ?_
  rotate_left
  · intro w' _
    go_simp
    first | (with_reducible rfl) | done | assumption | skip
  simp only [Act.put, List.getElem_toArray, List.getElem_cons_succ, List.getElem_cons_zero, List.setIfInBounds_toArray, List.set_cons_zero, List.set_cons_succ]
  refine wpAnyM_one (i := 9) (by kernel_rfl) ?_
  refine wpOp_step rfl (fun K hK => ?_)
  go_simp
  refine hK _ _ ⟨fun h => absurd h (by decide), ?_⟩
  clear hK K
  refine wpAnyM_done (by kernel_rfl) ?_ _
  try simp only [Exit.then]
  go_end0
  exact ⟨rfl, _, _, HF.out.1, HF.out.2⟩
end Go.Proofs.YtigbfbniicfpdaaGreat
