import Derived.Test.YtemjajljpoaioaaDoorM29
namespace Go.Proofs.YtemjajljpoaioaaDoor
open Go.RowKit
set_option linter.unusedVariables false
set_option linter.unusedSimpArgs false
set_option maxRecDepth 20000
set_option maxHeartbeats 8000000
theorem dfs_skip {b : List Ins} {m x : Nat} {op : List Nat} {ld : List Bool} (h : ld[x]? = some true) : dfs b (m + 1) (op ++ [x]) ld = dfs b m op ld := by
 have hg : ld.getD x true = true := by rw [List.getD_eq_getElem?_getD, h]; rfl
 conv => lhs; unfold dfs
 simp only [List.getLast?_append, List.getLast?_singleton, Option.some_or, List.dropLast_concat, hg, if_true]
theorem dfs_go {b : List Ins} {m x : Nat} {i : Ins} {op : List Nat} {ld : List Bool} (h : ld[x]? = some false) (hi : b[x]? = some i) : dfs b (m + 1) (op ++ [x]) ld = dfs b m (op ++ nx x i) (ld.set x true) := by
 have hg : ld.getD x true = false := by rw [List.getD_eq_getElem?_getD, h]; rfl
 conv => lhs; unfold dfs
 simp only [List.getLast?_append, List.getLast?_singleton, Option.some_or, List.dropLast_concat, hg, hi]
 rfl
theorem di_start (xs : List Ins) : DI xs [0] (List.replicate xs.length false) := by
 have no : ∀ k : Nat, (List.replicate xs.length false)[k]? ≠ some true := fun k h => by
  rw [List.getElem?_replicate] at h
  split at h <;> cases h
 refine ⟨by simp, fun k h => absurd h (no k), fun k hk => ?_, fun k i h => absurd h (no k), .inr (by simp)⟩
 obtain rfl : k = 0 := by simpa using hk
 exact .start
set_option maxRecDepth 20000 in
set_option maxHeartbeats 8000000 in
theorem tways_m {w0 : World} {rb ro lc : Nat} {xs : List Ins} (HB : Body w0 rb ro xs) (L : Lds xs) (hw : ∀ k, Way xs k → k < xs.length) : Calls Tryd.prog 31 ([.slice (some ⟨rb, ro, none⟩) xs.length lc] : List Value).toArray w0 fun e w' => NewB w0 w' e xs.length xs.length ((ledOf xs).map Value.bool) 4 ∧ Below w0.heap.size w0 w' := by
 have M := bx_begin (w0 := w0) (w := w0) (Below.refl _ _)
 refine sw_fn Tryd.func31 rfl 54 Tryd.ntmps31 rfl fun A F => ?_
 refine sw_seq ?_
 refine sw_reg ?_
 refine sw_asg F ⟨rfl, rfl, rfl⟩ rfl rfl fun A F => ?_
 refine sw_end ?_
 show Code.wp _ _ _ _ _
 refine sw_seq ?_
 refine sw_reg ?_
 refine sw_move F ⟨rfl, rfl, rfl⟩ rfl rfl fun A F => ?_
 refine sw_len F ⟨rfl, rfl, rfl⟩ rfl Tryd.underlying32 rfl fun A F => ?_
 refine sw_makebools F M (n := xs.length) ⟨rfl, rfl, rfl⟩ rfl rfl (by have := HB.le; omega) rfl fun x1 A w F M => ?_
 refine sw_asg F ⟨rfl, rfl, rfl⟩ rfl rfl fun A F => ?_
 refine sw_end ?_
 show Code.wp _ _ _ _ _
 refine sw_seq ?_
 refine sw_reg ?_
 refine sw_mk0 (k := 0) F M ⟨rfl, rfl, rfl⟩ rfl rfl fun og A w ok F M => ?_
 refine sw_asg F ⟨rfl, rfl, rfl⟩ rfl rfl fun A F => ?_
 refine sw_end ?_
 show Code.wp _ _ _ _ _
 refine sw_seq ?_
 refine wp_block ?_
 refine wp_loopN (fun n A w => ∃ os : (List Nat), ∃ ld : (List Bool), ∃ og : Nat, ∃ oc : Nat, ∃ oz : (List Value), (2 * unl ld + os.length ≤ n) ∧ (n ≤ 2 * xs.length + 1) ∧ (DI xs os ld) ∧ (ledOf xs = dfs xs n os ld) ∧ (RxOk 1 oc (os.map nI) oz) ∧ Fm 54 [(0, .slice (some ⟨rb, ro, none⟩) xs.length lc), (3, .slice (some ⟨x1, 0, none⟩) xs.length xs.length), (4, .slice (some ⟨og, 0, none⟩) os.length oc)] A ∧ Mm (Bx w0) (fun _ => False) w0 [.box og (flatV (os.map nI) ++ oz) 3, .box x1 (ld.map Value.bool) 4] () w) (2 * xs.length + 1) ?_ ?_
 ·exact ⟨[0], _, og, 1, [], (by rw [unl_rep]; simp), (Nat.le_refl _), (di_start xs), (rfl), (ok), F.keep [0, 3, 4] rfl, M⟩
 repeat clear F
 repeat clear M
 clear ok
 rintro n A w ⟨os, ld, og, oc, oz, hm, hn, D, heq, ok, F, M⟩
 have hlen := D.len
 refine sw_seq ?_
 refine sw_seq ?_
 refine sw_reg ?_
 refine sw_move F ⟨rfl, rfl, rfl⟩ rfl rfl fun A F => ?_
 refine sw_len F ⟨rfl, rfl, rfl⟩ rfl Tryd.underlying37 rfl fun A F => ?_
 refine sw_gtr F ⟨rfl, rfl, rfl⟩ rfl rfl rfl fun A F => ?_
 refine sw_end ?_
 show Code.wp _ _ _ _ _
 refine sw_cond F rfl (fun hc2 => ?_) (fun hc2 => ?_)
 ·skip
  have hpos : 0 < os.length := by have := of_decide_eq_true hc2; omega
  obtain ⟨op, x, rfl⟩ := (last_cases os).resolve_left (fun q => by rw [q] at hpos; simp at hpos)
  have hx : x < xs.length := hw x (D.opn x (by simp))
  rw [show (op ++ [x]).length = op.length + 1 by simp] at F
  have hoc : op.length + 1 ≤ oc := by have := ok.fits (by decide); simpa using this
  have hol : op.length ≤ 4097 := by simp at hm; have := HB.le; omega
  have opop : flatV ((op ++ [x]).map nI) ++ oz = flatV (op.map nI) ++ (.int .i64 ((x : Nat) : Int) :: oz) := by rw [List.map_append, flatV_app, List.append_assoc]; rfl
  have otop : w.cell? ⟨og, 0 + (op.length + 1 - 1) * 1, none⟩ = some (.int .i64 ((x : Nat) : Int)) := by
   refine M.cell 0 rfl ?_
   rw [opop, List.getElem?_append_right (by rw [nI_flat]; simp [nats]), nI_flat]
   simp [nats]
  refine wp_skip ?_
  show Code.wp _ _ _ _ _
  refine wp_block ?_
  refine sw_seq ?_
  refine sw_reg ?_
  refine sw_move F ⟨rfl, rfl, rfl⟩ rfl rfl fun A F => ?_
  refine sw_move F ⟨rfl, rfl, rfl⟩ rfl rfl fun A F => ?_
  refine sw_len F ⟨rfl, rfl, rfl⟩ rfl Tryd.underlying37 rfl fun A F => ?_
  refine sw_sub F ⟨rfl, rfl, rfl⟩ rfl rfl (by have := HB.le; omega) rfl fun A F => ?_
  rw [show (((op.length + 1 : Nat) : Int) - 1) = ((op.length + 1 - 1 : Nat) : Int) by omega] at F
  refine sw_at F 1 ⟨rfl, rfl, rfl⟩ rfl rfl (by omega) Tryd.underlying37 (by kernel_rfl) rfl fun A F => ?_
  refine sw_ext F otop ⟨rfl, rfl, rfl⟩ rfl (by kernel_rfl) rfl fun A F => ?_
  refine sw_asg F ⟨rfl, rfl, rfl⟩ rfl rfl fun A F => ?_
  refine sw_end ?_
  show Code.wp _ _ _ _ _
  refine sw_seq ?_
  refine sw_reg ?_
  refine sw_move F ⟨rfl, rfl, rfl⟩ rfl rfl fun A F => ?_
  refine sw_move F ⟨rfl, rfl, rfl⟩ rfl rfl fun A F => ?_
  refine sw_len F ⟨rfl, rfl, rfl⟩ rfl Tryd.underlying37 rfl fun A F => ?_
  refine sw_sub F ⟨rfl, rfl, rfl⟩ rfl rfl (by have := HB.le; omega) rfl fun A F => ?_
  rw [show (((op.length + 1 : Nat) : Int) - 1) = ((op.length + 1 - 1 : Nat) : Int) by omega] at F
  refine sw_rowtake F (n := op.length + 1) (sz := 1) ⟨rfl, rfl, rfl⟩ rfl rfl (by omega) hoc Tryd.underlying37 (by kernel_rfl) rfl fun A F => ?_
  rw [opop] at M
  replace ok := ok.pop
  rw [Nat.add_sub_cancel] at F
  refine sw_asg F ⟨rfl, rfl, rfl⟩ rfl rfl fun A F => ?_
  refine sw_end ?_
  show Code.wp _ _ _ _ _
  refine sw_seq ?_
  refine sw_seq ?_
  refine sw_reg ?_
  refine sw_move F ⟨rfl, rfl, rfl⟩ rfl rfl fun A F => ?_
  refine sw_move F ⟨rfl, rfl, rfl⟩ rfl rfl fun A F => ?_
  refine sw_at F 1 ⟨rfl, rfl, rfl⟩ rfl rfl (hx) Tryd.underlying47 (by kernel_rfl) rfl fun A F => ?_
  obtain ⟨z, hz⟩ : ∃ z, ld[x]? = some z := ⟨_, List.getElem?_eq_getElem (by rw [hlen]; exact hx)⟩
  refine sw_bget F M 1 ⟨rfl, rfl, rfl⟩ rfl rfl (by rw [Nat.zero_add, Nat.mul_one]; exact hz) (by kernel_rfl) rfl fun A F => ?_
  refine sw_end ?_
  show Code.wp _ _ _ _ _
  refine sw_cond F rfl (fun hc3 => ?_) (fun hc3 => ?_)
  ·skip
   subst hc3
   refine wp_exit ?_
   repeat (first | refine then_exit ?_ | refine exit_block ?_ | refine exit_pass rfl ?_)
   have hn0 : ∃ m, n = m + 1 := ⟨n - 1, by simp at hm; omega⟩
   obtain ⟨m, rfl⟩ := hn0
   have hp : 2 * unl ld + op.length ≤ m := by simp at hm; omega
   show ∃ _, _ ∧ _
   refine ⟨m, by omega, op, ld, og, oc, _, hp, by omega, D.skip hz, by rw [heq, dfs_skip hz], ok, F.keep [0, 3, 4] rfl, M⟩
  ·skip
   subst hc3
   refine wp_skip ?_
   show Code.wp _ _ _ _ _
   refine sw_seq ?_
   refine sw_reg ?_
   refine sw_move F ⟨rfl, rfl, rfl⟩ rfl rfl fun A F => ?_
   refine sw_move F ⟨rfl, rfl, rfl⟩ rfl rfl fun A F => ?_
   refine sw_at F 1 ⟨rfl, rfl, rfl⟩ rfl rfl (hx) Tryd.underlying47 (by kernel_rfl) rfl fun A F => ?_
   refine sw_bset F M 1 ⟨rfl, rfl, rfl⟩ rfl rfl rfl (by kernel_rfl) (by rw [Nat.zero_add, Nat.mul_one]; exact by rw [hlen]; exact hx) fun w M => ?_
   rw [show 0 + x * 1 = x by omega] at M
   simp only [List.set_cons_zero, List.set_cons_succ] at M
   refine sw_end ?_
   show Code.wp _ _ _ _ _
   refine sw_seq ?_
   refine sw_seq ?_
   refine sw_reg ?_
   refine sw_move F ⟨rfl, rfl, rfl⟩ rfl rfl fun A F => ?_
   refine sw_move F ⟨rfl, rfl, rfl⟩ rfl rfl fun A F => ?_
   refine sw_at F 3 ⟨rfl, rfl, rfl⟩ rfl rfl (hx) Tryd.underlying32 (by kernel_rfl) rfl fun A F => ?_
   obtain ⟨i, hi⟩ : ∃ i, xs[x]? = some i := ⟨_, List.getElem?_eq_getElem hx⟩
   refine sw_rng F (cs := [.int .i64 i.op, .int .i64 i.a, .int .i64 i.b]) ((HB.bx M.st).at_ _ _ (hi)) ⟨rfl, rfl, rfl⟩ rfl (by kernel_rfl) (by kernel_rfl) rfl fun A F => ?_
   refine sw_alloc F M [.int .i64 0, .int .i64 0, .int .i64 0] ⟨rfl, rfl, rfl⟩ (by kernel_rfl) rfl fun x4 A w F M => ?_
   refine sw_setAll F M 0 ⟨rfl, rfl, rfl⟩ rfl rfl rfl (by kernel_rfl) rfl rfl fun w M => ?_
   simp only [List.set_cons_zero, List.set_cons_succ] at M
   refine sw_end ?_
   show Code.wp _ _ _ _ _
   refine sw_seq ?_
   refine sw_reg ?_
   refine sw_all F M 0 ⟨rfl, rfl, rfl⟩ rfl rfl (by kernel_rfl) (by kernel_rfl) rfl fun A F => ?_
   refine sw_callR (by kernel_rfl) (tjump_any i w) F ⟨rfl, rfl, rfl⟩ rfl rfl ?_
   rintro _ w ⟨rfl, hb⟩
   refine ⟨_, rfl, fun A F => ?_⟩
   replace M := M.aft hb
   clear hb
   refine sw_end ?_
   show Code.wp _ _ _ _ _
   refine sw_cond F rfl (fun hc5 => ?_) (fun hc5 => ?_)
   ·skip
    have hj := hc5
    refine sw_reg ?_
    refine sw_move F ⟨rfl, rfl, rfl⟩ rfl rfl fun A F => ?_
    refine sw_fld F 1 ⟨rfl, rfl, rfl⟩ rfl (by kernel_rfl) rfl rfl fun A F => ?_
    refine sw_cell F M 0 ⟨rfl, rfl, rfl⟩ rfl rfl rfl (by kernel_rfl) rfl fun A F => ?_
    obtain ⟨hl0, hl1⟩ := L i (List.mem_of_getElem? hi) hj
    rw [show Value.int .i64 i.a = .int .i64 ((i.a.toNat : Nat) : Int) by rw [Int.toNat_of_nonneg hl0]] at F
    refine sw_apx1 (sz := 1) (z := .int .i64 0) F M 1 (d := nI (i.a.toNat)) ⟨rfl, rfl, rfl⟩ ⟨rfl, rfl, rfl⟩ rfl rfl rfl (fun _ => rfl) rfl ok (by simp) Tryd.underlying37 (by kernel_rfl) rfl rfl rfl (by have := HB.le; simp; omega) rfl fun og oc oz u A w ok F M => ?_
    simp only [List.set_cons_zero, List.set_cons_succ] at M
    rw [show (op).map nI ++ [nI (i.a.toNat)] = (op ++ [i.a.toNat]).map nI by simp] at M F ok
    rw [List.length_map] at F
    refine sw_asg F ⟨rfl, rfl, rfl⟩ rfl rfl fun A F => ?_
    refine sw_end ?_
    show Code.wp _ _ _ _ _
    refine sw_seq ?_
    refine sw_reg ?_
    refine sw_move F ⟨rfl, rfl, rfl⟩ rfl rfl fun A F => ?_
    refine sw_move F ⟨rfl, rfl, rfl⟩ rfl rfl fun A F => ?_
    refine sw_at F 3 ⟨rfl, rfl, rfl⟩ rfl rfl (hx) Tryd.underlying32 (by kernel_rfl) rfl fun A F => ?_
    refine sw_rng F (cs := [.int .i64 i.op, .int .i64 i.a, .int .i64 i.b]) ((HB.bx M.st).at_ _ _ (hi)) ⟨rfl, rfl, rfl⟩ rfl (by kernel_rfl) (by kernel_rfl) rfl fun A F => ?_
    refine sw_callR (by kernel_rfl) (tgoes_any i w) F ⟨rfl, rfl, rfl⟩ rfl rfl ?_
    rintro _ w ⟨rfl, hb⟩
    refine ⟨_, rfl, fun A F => ?_⟩
    replace M := M.aft hb
    clear hb
    refine sw_end ?_
    show Code.wp _ _ _ _ _
    refine sw_cond F rfl (fun hc6 => ?_) (fun hc6 => ?_)
    ·skip
     have hg := hc6
     refine sw_reg ?_
     refine sw_move F ⟨rfl, rfl, rfl⟩ rfl rfl fun A F => ?_
     refine sw_move F ⟨rfl, rfl, rfl⟩ rfl rfl fun A F => ?_
     refine sw_add F ⟨rfl, rfl, rfl⟩ rfl rfl (by have := HB.le; omega) rfl fun A F => ?_
     refine sw_apx1 (sz := 1) (z := .int .i64 0) F M 1 (d := nI (x + 1)) ⟨rfl, rfl, rfl⟩ ⟨rfl, rfl, rfl⟩ rfl rfl rfl (fun _ => rfl) rfl ok (by simp) Tryd.underlying37 (by kernel_rfl) rfl rfl rfl (by have := HB.le; simp; omega) rfl fun og oc oz u A w ok F M => ?_
     simp only [List.set_cons_zero, List.set_cons_succ] at M
     rw [show (op ++ [i.a.toNat]).map nI ++ [nI (x + 1)] = (op ++ [i.a.toNat] ++ [x + 1]).map nI by simp] at M F ok
     rw [List.length_map] at F
     refine sw_asg F ⟨rfl, rfl, rfl⟩ rfl rfl fun A F => ?_
     refine sw_end ?_
     replace M := M.drop 0 rfl
     have hn0 : ∃ m, n = m + 1 := ⟨n - 1, by simp at hm; omega⟩
     obtain ⟨m, rfl⟩ := hn0
     have hnx : nx x i = [i.a.toNat, x + 1] := by
      have h1 := hg
      unfold gsOn at h1
      simp only [Bool.and_eq_true, Bool.and_eq_false_iff, decide_eq_true_eq, decide_eq_false_iff_not, ne_eq, Decidable.not_not] at h1
      unfold nx
      rw [if_pos hj, if_pos (by omega)]
      rfl
     have hD := D.go hz hi
     have hU := unl_set hz
     have hnl := nx_len x i
     have hp : 2 * unl (ld.set x true) + (op ++ nx x i).length ≤ m := by rw [List.length_append] at hm ⊢; simp at hm; omega
     rw [show op ++ [i.a.toNat] ++ [x + 1] = op ++ nx x i by rw [hnx]; simp] at F M ok
     show ∃ _, _ ∧ _
     refine ⟨m, by omega, op ++ nx x i, ld.set x true, _, _, _, hp, by omega, hD, by rw [heq, dfs_go hz hi], ok, F.keep [0, 3, 4] rfl, M⟩
    ·skip
     have hg := hc6
     refine wp_skip ?_
     replace M := M.drop 0 rfl
     have hn0 : ∃ m, n = m + 1 := ⟨n - 1, by simp at hm; omega⟩
     obtain ⟨m, rfl⟩ := hn0
     have hnx : nx x i = [i.a.toNat] := by
      have h1 := hg
      unfold gsOn at h1
      simp only [Bool.and_eq_true, Bool.and_eq_false_iff, decide_eq_true_eq, decide_eq_false_iff_not, ne_eq, Decidable.not_not] at h1
      unfold nx
      rw [if_pos hj, if_neg (by omega)]
      rfl
     have hD := D.go hz hi
     have hU := unl_set hz
     have hnl := nx_len x i
     have hp : 2 * unl (ld.set x true) + (op ++ nx x i).length ≤ m := by rw [List.length_append] at hm ⊢; simp at hm; omega
     rw [show op ++ [i.a.toNat] = op ++ nx x i by rw [hnx]] at F M ok
     show ∃ _, _ ∧ _
     refine ⟨m, by omega, op ++ nx x i, ld.set x true, _, _, _, hp, by omega, hD, by rw [heq, dfs_go hz hi], ok, F.keep [0, 3, 4] rfl, M⟩
   ·skip
    have hj := hc5
    refine wp_skip ?_
    show Code.wp _ _ _ _ _
    refine sw_seq ?_
    refine sw_reg ?_
    refine sw_move F ⟨rfl, rfl, rfl⟩ rfl rfl fun A F => ?_
    refine sw_move F ⟨rfl, rfl, rfl⟩ rfl rfl fun A F => ?_
    refine sw_at F 3 ⟨rfl, rfl, rfl⟩ rfl rfl (hx) Tryd.underlying32 (by kernel_rfl) rfl fun A F => ?_
    refine sw_rng F (cs := [.int .i64 i.op, .int .i64 i.a, .int .i64 i.b]) ((HB.bx M.st).at_ _ _ (hi)) ⟨rfl, rfl, rfl⟩ rfl (by kernel_rfl) (by kernel_rfl) rfl fun A F => ?_
    refine sw_callR (by kernel_rfl) (tgoes_any i w) F ⟨rfl, rfl, rfl⟩ rfl rfl ?_
    rintro _ w ⟨rfl, hb⟩
    refine ⟨_, rfl, fun A F => ?_⟩
    replace M := M.aft hb
    clear hb
    refine sw_end ?_
    show Code.wp _ _ _ _ _
    refine sw_cond F rfl (fun hc7 => ?_) (fun hc7 => ?_)
    ·skip
     have hg := hc7
     refine sw_reg ?_
     refine sw_move F ⟨rfl, rfl, rfl⟩ rfl rfl fun A F => ?_
     refine sw_move F ⟨rfl, rfl, rfl⟩ rfl rfl fun A F => ?_
     refine sw_add F ⟨rfl, rfl, rfl⟩ rfl rfl (by have := HB.le; omega) rfl fun A F => ?_
     refine sw_apx1 (sz := 1) (z := .int .i64 0) F M 1 (d := nI (x + 1)) ⟨rfl, rfl, rfl⟩ ⟨rfl, rfl, rfl⟩ rfl rfl rfl (fun _ => rfl) rfl ok (by simp) Tryd.underlying37 (by kernel_rfl) rfl rfl rfl (by have := HB.le; simp; omega) rfl fun og oc oz u A w ok F M => ?_
     simp only [List.set_cons_zero, List.set_cons_succ] at M
     rw [show (op).map nI ++ [nI (x + 1)] = (op ++ [x + 1]).map nI by simp] at M F ok
     rw [List.length_map] at F
     refine sw_asg F ⟨rfl, rfl, rfl⟩ rfl rfl fun A F => ?_
     refine sw_end ?_
     replace M := M.drop 0 rfl
     have hn0 : ∃ m, n = m + 1 := ⟨n - 1, by simp at hm; omega⟩
     obtain ⟨m, rfl⟩ := hn0
     have hnx : nx x i = [x + 1] := by
      have h1 := hg
      unfold gsOn at h1
      simp only [Bool.and_eq_true, Bool.and_eq_false_iff, decide_eq_true_eq, decide_eq_false_iff_not, ne_eq, Decidable.not_not] at h1
      unfold nx
      rw [if_neg (by rw [hj]; decide), if_pos (by omega)]
      rfl
     have hD := D.go hz hi
     have hU := unl_set hz
     have hnl := nx_len x i
     have hp : 2 * unl (ld.set x true) + (op ++ nx x i).length ≤ m := by rw [List.length_append] at hm ⊢; simp at hm; omega
     rw [show op ++ [x + 1] = op ++ nx x i by rw [hnx]] at F M ok
     show ∃ _, _ ∧ _
     refine ⟨m, by omega, op ++ nx x i, ld.set x true, _, _, _, hp, by omega, hD, by rw [heq, dfs_go hz hi], ok, F.keep [0, 3, 4] rfl, M⟩
    ·skip
     have hg := hc7
     refine wp_skip ?_
     replace M := M.drop 0 rfl
     have hn0 : ∃ m, n = m + 1 := ⟨n - 1, by simp at hm; omega⟩
     obtain ⟨m, rfl⟩ := hn0
     have hnx : nx x i = [] := by
      have h1 := hg
      unfold gsOn at h1
      simp only [Bool.and_eq_true, Bool.and_eq_false_iff, decide_eq_true_eq, decide_eq_false_iff_not, ne_eq, Decidable.not_not] at h1
      unfold nx
      rw [if_neg (by rw [hj]; decide), if_neg (by omega)]
      rfl
     have hD := D.go hz hi
     have hU := unl_set hz
     have hnl := nx_len x i
     have hp : 2 * unl (ld.set x true) + (op ++ nx x i).length ≤ m := by rw [List.length_append] at hm ⊢; simp at hm; omega
     have hop : op ++ nx x i = op := by rw [hnx]; simp
     rw [hop] at hp hD
     show ∃ _, _ ∧ _
     refine ⟨m, by omega, op, ld.set x true, _, _, _, hp, by omega, hD, by rw [heq, dfs_go hz hi, hop], ok, F.keep [0, 3, 4] rfl, M⟩
 ·skip
  have hemp : os = [] := by
   have := of_decide_eq_false hc2
   exact List.length_eq_zero_iff.1 (by omega)
  refine wp_exit ?_
  repeat (first | refine then_exit ?_ | refine exit_block ?_ | refine exit_pass rfl ?_)
  show Code.wp _ _ _ _ _
  refine sw_seq ?_
  refine sw_reg ?_
  refine sw_move F ⟨rfl, rfl, rfl⟩ rfl rfl fun A F => ?_
  refine sw_asg F ⟨rfl, rfl, rfl⟩ rfl rfl fun A F => ?_
  refine sw_end ?_
  show Code.wp _ _ _ _ _
  refine wp_ret ?_
  repeat (first | refine then_ret ?_ | refine block_ret ?_)
  subst hemp
  have he : ledOf xs = ld := by rw [heq]; cases n <;> rfl
  rw [← he] at M
  exact sw_rettmp F Tryd.results31 rfl ⟨⟨x1, rfl, (M.mem.box (k := 1) rfl).2, (M.mem.box (k := 1) rfl).1⟩, M.st⟩
end Go.Proofs.YtemjajljpoaioaaDoor
