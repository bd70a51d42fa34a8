import Derived.Test.YtemjajljpoaioaaDoorYT6
namespace Go.Proofs.YtemjajljpoaioaaDoor
open Go.RowKit
set_option linter.unusedVariables false
set_option linter.unusedSimpArgs false
set_option maxRecDepth 20000
set_option maxHeartbeats 8000000
def RgI (i : Ins) : Prop := (-9223372036854775808 ≤ i.op ∧ i.op ≤ 9223372036854775807) ∧ (-9223372036854775808 ≤ i.a ∧ i.a ≤ 9223372036854775807) ∧ (-9223372036854775808 ≤ i.b ∧ i.b ≤ 9223372036854775807)
theorem rg_lies {lo : Nat} {w : World} {i : Ins} (h : RgI i) : lieAll lo w i.flds := lie_cons (lie_i h.1) (lie_cons (lie_i h.2.1) (lie_cons (lie_i h.2.2) (lie_nil _ _)))
theorem ins_apart (i : Ins) (b : Nat) : apartAll b i.flds := fun f hf => by
 simp only [Ins.flds, List.mem_cons, List.not_mem_nil, or_false] at hf
 rcases hf with rfl | rfl | rfl <;> trivial
theorem kept_app : ∀ {l1 l2 : List Bool} {b1 b2 : List Ins}, l1.length = b1.length → kept (l1 ++ l2) (b1 ++ b2) = kept l1 b1 ++ kept l2 b2
 | [], _, [], _, _ => rfl
 | true :: l, _, x :: b, _, h => by
  show x :: kept (l ++ _) (b ++ _) = x :: (kept l b ++ _)
  rw [kept_app (by simpa using h)]
 | false :: l, _, x :: b, _, h => by
  show kept (l ++ _) (b ++ _) = kept l b ++ _
  rw [kept_app (by simpa using h)]
theorem kept_more {ld : List Bool} {xs : List Ins} {c : Nat} {i : Ins} (hl : ld.length = xs.length) (hz : ld[c]? = some true) (hi : xs[c]? = some i) : kept (ld.take (c + 1)) (xs.take (c + 1)) = kept (ld.take c) (xs.take c) ++ [i] := by
 rw [List.take_add_one, List.take_add_one, hz, hi, kept_app (by rw [List.length_take, List.length_take, hl])]
 rfl
theorem kept_less {ld : List Bool} {xs : List Ins} {c : Nat} {i : Ins} (hl : ld.length = xs.length) (hz : ld[c]? = some false) (hi : xs[c]? = some i) : kept (ld.take (c + 1)) (xs.take (c + 1)) = kept (ld.take c) (xs.take c) := by
 rw [List.take_add_one, List.take_add_one, hz, hi, kept_app (by rw [List.length_take, List.length_take, hl])]
 show _ ++ [] = _
 rw [List.append_nil]
theorem plc_take : ∀ (ld : List Bool) (c : Nat), c ≤ ld.length → plc (ld.take c) c = plc ld c
 | ld, 0, _ => by rw [plc0, plc0]
 | [], c + 1, h => by simp at h
 | true :: l, c + 1, h => by show plc (l.take c) c + 1 = plc l c + 1; rw [plc_take l c (by simpa using h)]
 | false :: l, c + 1, h => by show plc (l.take c) c = plc l c; rw [plc_take l c (by simpa using h)]
theorem keptc_len {ld : List Bool} {xs : List Ins} {c : Nat} (hl : ld.length = xs.length) (hc : c ≤ xs.length) : (kept (ld.take c) (xs.take c)).length = plc ld c := by
 have h1 : (ld.take c).length = c := by rw [List.length_take]; omega
 rw [kept_len (by rw [List.length_take, List.length_take, hl]), h1, plc_take _ _ (by omega)]
def PLc (ld : List Bool) (n c : Nat) : List Nat := (List.range n).map fun k => if k < c then plc ld k else 0
theorem PLc_len (ld : List Bool) (n c : Nat) : (PLc ld n c).length = n := by simp [PLc]
theorem PLc_zero (ld : List Bool) (n : Nat) : PLc ld n 0 = List.replicate n 0 := by
 apply List.ext_getElem?
 intro k
 unfold PLc
 rw [List.getElem?_map, List.getElem?_replicate]
 by_cases h : k < n
 ·rw [List.getElem?_range h]; simp [h]
 ·rw [List.getElem?_eq_none (by simpa using h)]; simp [h]
theorem PLc_set {ld : List Bool} {n c : Nat} (h : c < n) : (PLc ld n c).set c (plc ld c) = PLc ld n (c + 1) := by
 apply List.ext_getElem?
 intro k
 unfold PLc
 by_cases e : c = k
 ·subst e
  rw [List.getElem?_set_self (by simpa using h), List.getElem?_map, List.getElem?_range h]
  simp
 ·rw [List.getElem?_set_ne e, List.getElem?_map, List.getElem?_map]
  by_cases hk : k < n
  ·rw [List.getElem?_range hk]
   simp only [Option.map_some]
   congr 1
   by_cases q : k < c
   ·rw [if_pos q, if_pos (by omega)]
   ·rw [if_neg q, if_neg (by omega)]
  ·rw [List.getElem?_eq_none (by simpa using hk)]; rfl
theorem PLc_get {ld : List Bool} {n k : Nat} (h : k < n) : (PLc ld n n).getD k 0 = plc ld k := by
 unfold PLc
 rw [List.getD_eq_getElem?_getD, List.getElem?_map, List.getElem?_range h]
 simp [h]
set_option maxRecDepth 20000 in
set_option maxHeartbeats 8000000 in
theorem trch_m {w0 : World} {rb ro lc : Nat} {xs : List Ins} (HB : Body w0 rb ro xs) (L : Lds xs) (hw : ∀ k, Way xs k → k < xs.length) (hR : ∀ i ∈ xs, RgI i) : Calls Tryd.prog 22 ([.slice (some ⟨rb, ro, none⟩) xs.length lc] : List Value).toArray w0 fun e w' => BodyQ w0 w' e (rchd xs) ∧ Below w0.heap.size w0 w' := by
 have M := bx_begin (w0 := w0) (w := w0) (Below.refl _ _)
 refine sw_fn Tryd.func22 rfl 38 Tryd.ntmps22 rfl fun A F => ?_
 refine sw_seq ?_
 refine sw_reg ?_
 refine sw_asg F ⟨rfl, rfl, rfl⟩ rfl rfl fun A F => ?_
 refine sw_end ?_
 show Code.wp _ _ _ _ _
 refine sw_seq ?_
 refine sw_reg ?_
 refine sw_move F ⟨rfl, rfl, rfl⟩ rfl rfl fun A F => ?_
 refine sw_callR (by kernel_rfl) (tways_m (lc := lc) (HB.bx M.st) L hw) F ⟨rfl, rfl, rfl⟩ rfl rfl ?_
 rintro _ w ⟨⟨xd, rfl, hg, hk⟩, hb⟩
 refine ⟨_, rfl, fun A F => ?_⟩
 replace M := M.newbox hb hg hk
 clear hb hg hk
 replace M := M.nilrow 31 3
 have hl := (ledOf_way hw).1
 generalize hld : ledOf xs = ld at M hl
 refine sw_asg F ⟨rfl, rfl, rfl⟩ rfl rfl fun A F => ?_
 refine sw_end ?_
 show Code.wp _ _ _ _ _
 refine sw_seq ?_
 refine sw_reg ?_
 refine sw_asg F ⟨rfl, rfl, rfl⟩ rfl rfl fun A F => ?_
 refine sw_end ?_
 show Code.wp _ _ _ _ _
 refine sw_seq ?_
 refine sw_reg ?_
 refine sw_move F ⟨rfl, rfl, rfl⟩ rfl rfl fun A F => ?_
 refine sw_len F ⟨rfl, rfl, rfl⟩ rfl Tryd.underlying32 rfl fun A F => ?_
 refine sw_makeints F M (n := xs.length) ⟨rfl, rfl, rfl⟩ rfl rfl (by have := HB.le; omega) rfl fun x1 A w F M => ?_
 refine sw_asg F ⟨rfl, rfl, rfl⟩ rfl rfl fun A F => ?_
 refine sw_end ?_
 show Code.wp _ _ _ _ _
 refine sw_seq ?_
 refine sw_seq ?_
 refine sw_reg ?_
 refine sw_move F ⟨rfl, rfl, rfl⟩ rfl rfl fun A F => ?_
 refine sw_len F ⟨rfl, rfl, rfl⟩ rfl Tryd.underlying32 rfl fun A F => ?_
 refine sw_move F ⟨rfl, rfl, rfl⟩ rfl rfl fun A F => ?_
 refine sw_end ?_
 show Code.wp _ _ _ _ _
 refine wp_block ?_
 rw [← PLc_zero ld xs.length] at M
 refine wp_loop (fun A w => ∃ c : Nat, ∃ la : (Option Addr), ∃ lr : Nat, (c ≤ xs.length) ∧ Fm 38 [(0, .slice (some ⟨rb, ro, none⟩) xs.length lc), (3, .slice (some ⟨xd, 0, none⟩) xs.length xs.length), (4, .slice la ((kept (ld.take c) (xs.take c)).map Ins.flds).length lr), (5, .slice (some ⟨x1, 0, none⟩) xs.length xs.length), (13, .slice (some ⟨rb, ro, none⟩) xs.length lc), (14, .int .i64 ((xs.length : Nat) : Int)), (15, .int .i64 ((c : Nat) : Int))] A ∧ Mm (Bx w0) (fun _ => False) w0 [.box x1 (nats (PLc ld xs.length c)) 3, .row (.slice la ((kept (ld.take c) (xs.take c)).map Ins.flds).length lr) 31 3 ((kept (ld.take c) (xs.take c)).map Ins.flds), .box xd (ld.map Value.bool) 4] () w) (fun A _ => xs.length - (intOf (A.eval (.tmp 15))).toNat) ?_ ?_
 ·exact ⟨0, none, 0, (Nat.zero_le _), F.keep [0, 3, 4, 5, 13, 14, 15] rfl, M⟩
 repeat clear F
 repeat clear M
 rintro A w ⟨c, la, lr, hc, F, M⟩
 have hA15 : A.eval (.tmp 15) = .int .i64 ((c : Nat) : Int) := F.2.2 15 _ rfl
 refine sw_seq ?_
 refine sw_reg ?_
 refine sw_lss F ⟨rfl, rfl, rfl⟩ rfl rfl rfl fun A F => ?_
 refine sw_end ?_
 show Code.wp _ _ _ _ _
 refine sw_seq ?_
 refine sw_cond F rfl (fun hc2 => ?_) (fun hc2 => ?_)
 ·skip
  have hcl : c < xs.length := by have := of_decide_eq_true hc2; omega
  have hkc : (kept (ld.take c) (xs.take c)).length ≤ c := by rw [keptc_len hl hc]; exact plc_le _ _
  refine wp_skip ?_
  show Code.wp _ _ _ _ _
  refine sw_seq ?_
  refine wp_block ?_
  refine sw_seq ?_
  refine sw_reg ?_
  refine sw_move F ⟨rfl, rfl, rfl⟩ rfl rfl fun A F => ?_
  refine sw_at F 3 ⟨rfl, rfl, rfl⟩ rfl rfl (hcl) Tryd.underlying32 (by kernel_rfl) rfl fun A F => ?_
  obtain ⟨i, hi⟩ : ∃ i, xs[c]? = some i := ⟨_, List.getElem?_eq_getElem hcl⟩
  refine sw_rng F (cs := [.int .i64 i.op, .int .i64 i.a, .int .i64 i.b]) ((HB.bx M.st).at_ _ _ (hi)) ⟨rfl, rfl, rfl⟩ rfl (by kernel_rfl) (by kernel_rfl) rfl fun A F => ?_
  refine sw_alloc F M [.int .i64 0, .int .i64 0, .int .i64 0] ⟨rfl, rfl, rfl⟩ (by kernel_rfl) rfl fun x3 A w F M => ?_
  refine sw_asg F ⟨rfl, rfl, rfl⟩ rfl rfl fun A F => ?_
  refine sw_setAll F M 0 ⟨rfl, rfl, rfl⟩ rfl rfl rfl (by kernel_rfl) rfl rfl fun w M => ?_
  simp only [List.set_cons_zero, List.set_cons_succ] at M
  refine sw_end ?_
  show Code.wp _ _ _ _ _
  refine sw_seq ?_
  refine sw_reg ?_
  refine sw_move F ⟨rfl, rfl, rfl⟩ rfl rfl fun A F => ?_
  refine sw_move F ⟨rfl, rfl, rfl⟩ rfl rfl fun A F => ?_
  refine sw_move F ⟨rfl, rfl, rfl⟩ rfl rfl fun A F => ?_
  refine sw_len F ⟨rfl, rfl, rfl⟩ rfl Tryd.underlying32 rfl fun A F => ?_
  refine sw_at F 1 ⟨rfl, rfl, rfl⟩ rfl rfl (hcl) Tryd.underlying37 (by kernel_rfl) rfl fun A F => ?_
  refine sw_iset F M 1 ⟨rfl, rfl, rfl⟩ rfl rfl rfl (by kernel_rfl) (by rw [PLc_len]; omega) fun w M => ?_
  simp only [List.set_cons_zero, List.set_cons_succ] at M
  rw [show (PLc ld xs.length c).set (0 + c * 1) ((kept (ld.take c) (xs.take c)).map Ins.flds).length = PLc ld xs.length (c + 1) by rw [show 0 + c * 1 = c by omega, List.length_map, keptc_len hl hc, PLc_set hcl]] at M
  refine sw_end ?_
  show Code.wp _ _ _ _ _
  refine sw_seq ?_
  refine sw_reg ?_
  refine sw_move F ⟨rfl, rfl, rfl⟩ rfl rfl fun A F => ?_
  refine sw_move F ⟨rfl, rfl, rfl⟩ rfl rfl fun A F => ?_
  refine sw_at F 1 ⟨rfl, rfl, rfl⟩ rfl rfl (hcl) Tryd.underlying47 (by kernel_rfl) rfl fun A F => ?_
  obtain ⟨z, hz⟩ : ∃ z, ld[c]? = some z := ⟨_, List.getElem?_eq_getElem (by omega)⟩
  refine sw_bget F M 3 ⟨rfl, rfl, rfl⟩ rfl rfl (by rw [Nat.zero_add, Nat.mul_one]; exact hz) (by kernel_rfl) rfl fun A F => ?_
  refine sw_end ?_
  show Code.wp _ _ _ _ _
  refine sw_cond F rfl (fun hc4 => ?_) (fun hc4 => ?_)
  ·skip
   subst hc4
   refine sw_reg ?_
   refine sw_move F ⟨rfl, rfl, rfl⟩ rfl rfl fun A F => ?_
   refine sw_all F M 0 ⟨rfl, rfl, rfl⟩ rfl rfl (by kernel_rfl) (by kernel_rfl) rfl fun A F => ?_
   refine sw_apr1 (sz := 3) (z := .agg #[.int .i64 0, .int .i64 0, .int .i64 0]) F M 2 (d := i.flds) ⟨rfl, rfl, rfl⟩ ⟨rfl, rfl, rfl⟩ rfl rfl rfl (fun _ => rfl) rfl Tryd.underlying32 (by kernel_rfl) rfl rfl rfl (fun _ => rg_lies (hR i (List.mem_of_getElem? hi))) (ins_apart i) (show ((kept (ld.take c) (xs.take c)).map Ins.flds).length + 1 ≤ 1000001 by have := HB.le; rw [List.length_map]; omega) rfl fun la lc2 u A w F M => ?_
   simp only [List.set_cons_zero, List.set_cons_succ] at M
   refine sw_asg F ⟨rfl, rfl, rfl⟩ rfl rfl fun A F => ?_
   refine sw_end ?_
   show Code.wp _ _ _ _ _
   refine sw_reg ?_
   refine sw_add F ⟨rfl, rfl, rfl⟩ rfl rfl (by have := HB.le; omega) rfl fun A F => ?_
   refine sw_move F ⟨rfl, rfl, rfl⟩ rfl rfl fun A F => ?_
   refine sw_end ?_
   replace M := M.drop 0 rfl
   rw [show (kept (ld.take c) (xs.take c)).map Ins.flds ++ [i.flds] = (kept (ld.take (c + 1)) (xs.take (c + 1))).map Ins.flds by rw [kept_more hl hz hi]; simp] at M F
   show _ ∧ _
   refine ⟨⟨c + 1, _, _, by omega, F.keep [0, 3, 4, 5, 13, 14, 15] rfl, M⟩, ?_⟩
   rw [(F.keep (N := 38) (L' := [(15, .int .i64 ((c + 1 : Nat) : Int))]) [15] rfl).2.2 15 (.int .i64 ((c + 1 : Nat) : Int)) rfl, hA15]
   simp only [intOf]
   omega
  ·skip
   subst hc4
   refine wp_skip ?_
   show Code.wp _ _ _ _ _
   refine sw_reg ?_
   refine sw_add F ⟨rfl, rfl, rfl⟩ rfl rfl (by have := HB.le; omega) rfl fun A F => ?_
   refine sw_move F ⟨rfl, rfl, rfl⟩ rfl rfl fun A F => ?_
   refine sw_end ?_
   replace M := M.drop 0 rfl
   rw [show (kept (ld.take c) (xs.take c)) = kept (ld.take (c + 1)) (xs.take (c + 1)) from (kept_less hl hz hi).symm] at M F
   show _ ∧ _
   refine ⟨⟨c + 1, _, _, by omega, F.keep [0, 3, 4, 5, 13, 14, 15] rfl, M⟩, ?_⟩
   rw [(F.keep (N := 38) (L' := [(15, .int .i64 ((c + 1 : Nat) : Int))]) [15] rfl).2.2 15 (.int .i64 ((c + 1 : Nat) : Int)) rfl, hA15]
   simp only [intOf]
   omega
 ·skip
  have hce : c = xs.length := by have := of_decide_eq_false hc2; omega
  refine wp_exit ?_
  repeat (first | refine then_exit ?_ | refine exit_block ?_ | refine exit_pass rfl ?_)
  show Code.wp _ _ _ _ _
  refine sw_seq ?_
  refine sw_reg ?_
  refine sw_move F ⟨rfl, rfl, rfl⟩ rfl rfl fun A F => ?_
  refine sw_move F ⟨rfl, rfl, rfl⟩ rfl rfl fun A F => ?_
  rw [hce, ← hl, List.take_length, hl, List.take_length] at M F
  rw [List.length_map] at F
  obtain ⟨xl, zs, rfl, ok, M⟩ := M.unrow 1 rfl (by
   intro q
   obtain ⟨i0, hi0⟩ : ∃ i, xs[0]? = some i := ⟨_, List.getElem?_eq_getElem (hw 0 .start)⟩
   have h1 := kept_get ((hld ▸ (ledOf_way hw).2 0).2 .start) hi0
   rw [List.map_eq_nil_iff.1 q] at h1
   cases h1)
  simp only [List.set_cons_zero, List.set_cons_succ] at M
  have hkl : (kept ld xs).length ≤ xs.length := by rw [kept_len hl]; exact Nat.le_trans (plc_le _ _) (by omega)
  have M2 := Mm.permE (A := [.box x1 (nats (PLc ld xs.length xs.length)) 3, .box xl (flatV ((kept ld xs).map Ins.flds) ++ zs) 31, .box xd (ld.map Value.bool) 4]) (A' := [.box xl (flatV ((kept ld xs).map Ins.flds) ++ zs) 31, .box x1 (nats (PLc ld xs.length xs.length)) 3, .box xd (ld.map Value.bool) 4]) (E := []) M [1, 0, 2] rfl rfl (by decide)
  have hmem : ∀ i ∈ kept ld xs, i ∈ xs := fun i hi => by
   obtain ⟨k, hk⟩ := List.mem_iff_getElem?.1 hi
   obtain ⟨j, _, h2, _⟩ := kept_inv hk
   exact List.mem_of_getElem? h2
  have HM := tmove_m (xl := xl) (pb := x1) (pl := PLc ld xs.length xs.length) ok (by have := HB.le; omega) (fun i hi hj => by rw [PLc_len]; exact L i (hmem i hi) hj)
  rw [PLc_len] at HM
  refine sw_callE HM F (E := [.box xd (ld.map Value.bool) 4]) M2 ⟨rfl, rfl, rfl⟩ rfl rfl ?_
  rintro _ _ A w ⟨_, rfl⟩ F M'
  clear M M2
  have M := M'
  clear M'
  refine sw_end ?_
  show Code.wp _ _ _ _ _
  refine sw_seq ?_
  refine sw_reg ?_
  refine sw_move F ⟨rfl, rfl, rfl⟩ rfl rfl fun A F => ?_
  refine sw_asg F ⟨rfl, rfl, rfl⟩ rfl rfl fun A F => ?_
  refine sw_end ?_
  show Code.wp _ _ _ _ _
  refine wp_ret ?_
  repeat (first | refine then_ret ?_ | refine block_ret ?_)
  have hfin : (kept ld xs).map (mv fun k => (PLc ld xs.length xs.length).getD k 0) = rchd xs := by
   unfold rchd
   rw [hld]
   refine List.map_congr_left fun i hi => ?_
   by_cases hJ : isJ i = true
   ·rw [mv_J hJ, mv_J hJ, PLc_get (L i (hmem i hi) hJ).2]
   ·rw [mv_no hJ, mv_no hJ]
  rw [hfin] at M
  have hln : (rchd xs).length = (kept ld xs).length := by rw [← hfin]; simp
  exact sw_rettmp F Tryd.results22 rfl ⟨⟨xl, lr, by rw [hln], flI_at (M.mem.box (k := 0) rfl).1 (by rw [hln]; have := HB.le; omega), (M.mem.box (k := 0) rfl).2, by rw [hln]; simpa using ok.fits (by decide), ok.most⟩, M.st⟩
end Go.Proofs.YtemjajljpoaioaaDoor
