import Derived.Test.YtemjajljpoaioaaDoorYTe
namespace Go.Proofs.YtemjajljpoaioaaDoor
open Go.RowKit
set_option linter.unusedVariables false
set_option linter.unusedSimpArgs false
set_option maxRecDepth 20000
set_option maxHeartbeats 8000000
structure SameCd (c1 c2 : Cd) : Prop where
 ns : c2.ns.xs = c1.ns.xs
 len : c2.ps.xs.length = c1.ps.xs.length
 pc : ∀ (k : Nat) (p : Pc), c1.ps.xs[k]? = some p → ∃ la lc, c2.ps.xs[k]? = some ⟨p.nm, p.open_, p.pa, p.lo, ⟨la, lc, p.bd.xs⟩⟩
theorem held_nm {w0 : World} {l : Lst (List UInt8)} {k : Nat} {s : List UInt8} (h : l.Held nameFlds 1 w0.heap.size w0) (hs : l.xs[k]? = some s) : ∃ rb ro, l.la = some ⟨rb, ro, none⟩ ∧ ∀ w, Bx w0 () w → w.cell? ⟨rb, ro + k * 1, none⟩ = some (.string (str s)) := by
 rcases h.2.2 with q | ⟨rb, ro, e, hb, _, hr⟩
 ·rw [q] at hs; cases hs
 ·exact ⟨rb, ro, e, fun w hw => by rw [hw.cell (p := ⟨rb, _, none⟩) hb]; exact (hr k s hs).get0 rfl⟩
theorem held_pc {w0 : World} {l : Lst Pc} {k : Nat} {p : Pc} (h : l.Held Pc.flds 5 w0.heap.size w0) (hp : l.xs[k]? = some p) : ∃ rb ro, l.la = some ⟨rb, ro, none⟩ ∧ (∀ w, Bx w0 () w → w.rangeAt rb (ro + k * 5) [.string ⟨p.nm.toArray⟩, .bool p.open_, .int .i64 p.pa, .int .i64 p.lo, .slice p.bd.la p.bd.xs.length p.bd.lc]) ∧ p.bd.Held Ins.flds 3 w0.heap.size w0 := by
 rcases h.2.2 with q | ⟨rb, ro, e, hb, _, hr⟩
 ·rw [q] at hp; cases hp
 ·have hc := hr k p hp
  refine ⟨rb, ro, e, fun w hw j v hv => ?_, Lst.held Ins.len (hc.goods.get 4 rfl)⟩
  rw [hw.cell (p := ⟨rb, _, none⟩) hb]
  have hv : (p.flds.map Fld.val)[j]? = some v := by
   rw [show (p.flds.map Fld.val) = [.string ⟨p.nm.toArray⟩, .bool p.open_, .int .i64 p.pa, .int .i64 p.lo, .slice p.bd.la p.bd.xs.length p.bd.lc] by rw [← Lst.val Ins.flds]; rfl]
   exact hv
  obtain ⟨f, hf, rfl⟩ : ∃ f, p.flds[j]? = some f ∧ f.val = v := by
   rw [List.getElem?_map, Option.map_eq_some_iff] at hv
   exact hv
  exact hc.get j hf
theorem run_nI0 {a : Act} {w : World} {o : Oper} {x y : Operand} {u : TypeId} {i : Ins} (h : o.op = .binOp .neq 31 x y u) (h1 : a.eval x = .agg #[.int .i64 i.op, .int .i64 i.a, .int .i64 i.b]) (h2 : a.eval y = .agg #[.int .i64 i.op, .int .i64 i.a, .int .i64 i.b]) : (execOp a.eval o).run Tryd.prog w = .ok (.value (.bool false)) w := by
 have := run_nI (w := w) h h1 h2
 rw [show (!decide (i = i)) = false by simp] at this
 exact this
set_option maxRecDepth 20000 in
set_option maxHeartbeats 8000000 in
theorem tsame_m {w0 : World} {c1 c2 : Cd} (P1 : c1.ps.Held Pc.flds 5 w0.heap.size w0) (N1 : c1.ns.Held nameFlds 1 w0.heap.size w0) (P2 : c2.ps.Held Pc.flds 5 w0.heap.size w0) (N2 : c2.ns.Held nameFlds 1 w0.heap.size w0) (hSm : SameCd c1 c2) (hmx : c1.ps.xs.length ≤ 2048) (hmn : c1.ns.xs.length ≤ 100000000000) (hmB : ∀ p ∈ c1.ps.xs, p.bd.xs.length ≤ 2048) : Calls Tryd.prog 7 ([.agg #[.slice c1.ps.la c1.ps.xs.length c1.ps.lc, .slice c1.ns.la c1.ns.xs.length c1.ns.lc], .agg #[.slice c2.ps.la c2.ps.xs.length c2.ps.lc, .slice c2.ns.la c2.ns.xs.length c2.ns.lc]] : List Value).toArray w0 fun e w' => e = .returned (.bool true) ∧ Below w0.heap.size w0 w' := by
 have M := bx_begin (w0 := w0) (w := w0) (Below.refl _ _)
 have hlen := hSm.len
 have hnl : c2.ns.xs.length = c1.ns.xs.length := by rw [hSm.ns]
 refine sw_fn Tryd.func7 rfl 114 Tryd.ntmps7 rfl fun A F => ?_
 refine sw_seq ?_
 refine sw_reg ?_
 refine sw_box F M [.slice c1.ps.la c1.ps.xs.length c1.ps.lc, .slice c1.ns.la c1.ns.xs.length c1.ns.lc] ⟨rfl, rfl, rfl⟩ rfl rfl rfl fun a1 A w F M => ?_
 refine sw_box F M [.slice c2.ps.la c2.ps.xs.length c2.ps.lc, .slice c2.ns.la c2.ns.xs.length c2.ns.lc] ⟨rfl, rfl, rfl⟩ rfl rfl rfl fun a2 A w F M => ?_
 refine sw_asg F ⟨rfl, rfl, rfl⟩ rfl rfl fun A F => ?_
 refine sw_end ?_
 show Code.wp _ _ _ _ _
 refine sw_seq ?_
 refine sw_seq ?_
 refine sw_reg ?_
 refine sw_fld F 0 ⟨rfl, rfl, rfl⟩ rfl (by kernel_rfl) rfl rfl fun A F => ?_
 refine sw_cell F M 1 ⟨rfl, rfl, rfl⟩ rfl rfl rfl (by kernel_rfl) rfl fun A F => ?_
 refine sw_len F ⟨rfl, rfl, rfl⟩ rfl Tryd.underlying22 rfl fun A F => ?_
 refine sw_fld F 0 ⟨rfl, rfl, rfl⟩ rfl (by kernel_rfl) rfl rfl fun A F => ?_
 refine sw_cell F M 0 ⟨rfl, rfl, rfl⟩ rfl rfl rfl (by kernel_rfl) rfl fun A F => ?_
 refine sw_len F ⟨rfl, rfl, rfl⟩ rfl Tryd.underlying22 rfl fun A F => ?_
 refine sw_nn (by rw [hlen]) F ⟨rfl, rfl, rfl⟩ rfl rfl rfl fun A F => ?_
 refine sw_move F ⟨rfl, rfl, rfl⟩ rfl rfl fun A F => ?_
 refine sw_on F 7 rfl rfl rfl rfl rfl ?_
 refine sw_fld F 1 ⟨rfl, rfl, rfl⟩ rfl (by kernel_rfl) rfl rfl fun A F => ?_
 refine sw_on F 7 rfl rfl rfl rfl rfl ?_
 refine sw_cell F M 1 ⟨rfl, rfl, rfl⟩ rfl rfl rfl (by kernel_rfl) rfl fun A F => ?_
 refine sw_on F 7 rfl rfl rfl rfl rfl ?_
 refine sw_len F ⟨rfl, rfl, rfl⟩ rfl Tryd.underlying23 rfl fun A F => ?_
 refine sw_on F 7 rfl rfl rfl rfl rfl ?_
 refine sw_fld F 1 ⟨rfl, rfl, rfl⟩ rfl (by kernel_rfl) rfl rfl fun A F => ?_
 refine sw_on F 7 rfl rfl rfl rfl rfl ?_
 refine sw_cell F M 0 ⟨rfl, rfl, rfl⟩ rfl rfl rfl (by kernel_rfl) rfl fun A F => ?_
 refine sw_on F 7 rfl rfl rfl rfl rfl ?_
 refine sw_len F ⟨rfl, rfl, rfl⟩ rfl Tryd.underlying23 rfl fun A F => ?_
 refine sw_on F 7 rfl rfl rfl rfl rfl ?_
 refine sw_nn (by rw [hnl]) F ⟨rfl, rfl, rfl⟩ rfl rfl rfl fun A F => ?_
 refine sw_pickF F ⟨rfl, rfl, rfl⟩ rfl rfl rfl fun A F => ?_
 refine sw_end ?_
 show Code.wp _ _ _ _ _
 refine sw_false F rfl ?_
 refine wp_skip ?_
 show Code.wp _ _ _ _ _
 refine sw_seq ?_
 refine sw_seq ?_
 refine sw_reg ?_
 refine sw_asg F ⟨rfl, rfl, rfl⟩ rfl rfl fun A F => ?_
 refine sw_end ?_
 show Code.wp _ _ _ _ _
 refine wp_block ?_
 refine wp_loop (fun A w => ∃ k : Nat, (k ≤ c1.ns.xs.length) ∧ Fm 114 [(5, .int .i64 ((k : Nat) : Int)), (2, ptr a1), (3, ptr a2)] A ∧ Mm (Bx w0) (fun _ => False) w0 [.box a2 [.slice c2.ps.la c2.ps.xs.length c2.ps.lc, .slice c2.ns.la c2.ns.xs.length c2.ns.lc] 25, .box a1 [.slice c1.ps.la c1.ps.xs.length c1.ps.lc, .slice c1.ns.la c1.ns.xs.length c1.ns.lc] 25] () w) (fun A _ => c1.ns.xs.length - (intOf (A.eval (.tmp 5))).toNat) ?_ ?_
 ·exact ⟨0, (Nat.zero_le _), F.keep [5, 2, 3] rfl, M⟩
 repeat clear F
 repeat clear M
 rintro A w ⟨k, hk, F, M⟩
 have hA5 : A.eval (.tmp 5) = .int .i64 ((k : Nat) : Int) := F.2.2 5 _ rfl
 refine sw_seq ?_
 refine sw_seq ?_
 refine sw_reg ?_
 refine sw_move F ⟨rfl, rfl, rfl⟩ rfl rfl fun A F => ?_
 refine sw_fld F 1 ⟨rfl, rfl, rfl⟩ rfl (by kernel_rfl) rfl rfl fun A F => ?_
 refine sw_cell F M 1 ⟨rfl, rfl, rfl⟩ rfl rfl rfl (by kernel_rfl) rfl fun A F => ?_
 refine sw_len F ⟨rfl, rfl, rfl⟩ rfl Tryd.underlying23 rfl fun A F => ?_
 refine sw_lss F ⟨rfl, rfl, rfl⟩ rfl rfl rfl fun A F => ?_
 refine sw_end ?_
 show Code.wp _ _ _ _ _
 refine sw_cond F rfl (fun hc1 => ?_) (fun hc1 => ?_)
 ·skip
  have hkl : k < c1.ns.xs.length := by have := of_decide_eq_true hc1; omega
  obtain ⟨s, hs⟩ : ∃ s, c1.ns.xs[k]? = some s := ⟨_, List.getElem?_eq_getElem hkl⟩
  obtain ⟨rb1, ro1, hlns1, hc1⟩ := held_nm N1 hs
  obtain ⟨rb2, ro2, hlns2, hc2⟩ := held_nm (s := s) N2 (by rw [hSm.ns]; exact hs)
  refine wp_skip ?_
  show Code.wp _ _ _ _ _
  refine sw_seq ?_
  refine wp_block ?_
  refine sw_seq ?_
  refine wp_region_held (S := fun w' => w'.cell? ⟨a1, 1, none⟩ = some (.slice c1.ns.la c1.ns.xs.length c1.ns.lc) ∧ w'.cell? ⟨a2, 1, none⟩ = some (.slice c2.ns.la c2.ns.xs.length c2.ns.lc) ∧ Bx w0 () w') (by kernel_rfl) ?_
  show wpAnyH _ _ _ _ _ _ _ _ w.drew
  replace M := M.drew
  have hS : w.drew.cell? ⟨a1, 1, none⟩ = some (.slice c1.ns.la c1.ns.xs.length c1.ns.lc) ∧ w.drew.cell? ⟨a2, 1, none⟩ = some (.slice c2.ns.la c2.ns.xs.length c2.ns.lc) ∧ Bx w0 () w.drew := ⟨M.cell 1 rfl rfl, M.cell 0 rfl rfl, M.st⟩
  refine sd_fld F 0 1 rfl ⟨rfl, rfl, rfl⟩ rfl (by kernel_rfl) rfl (by kernel_rfl) (by kernel_rfl) (by kernel_rfl) (fun _ _ _ h => h) rfl hS fun A F => ?_
  refine sd_cell F 1 rfl ⟨rfl, rfl, rfl⟩ rfl (by kernel_rfl) (fun _ h => h.1) (by kernel_rfl) (by kernel_rfl) (by kernel_rfl) (fun _ _ _ h => h) rfl hS fun A F => ?_
  refine sd_move F 2 rfl ⟨rfl, rfl, rfl⟩ rfl (by kernel_rfl) (by kernel_rfl) (by kernel_rfl) (fun _ _ _ h => h) rfl hS fun A F => ?_
  refine sd_at F 3 1 (n := c1.ns.xs.length) (c := c1.ns.lc) rfl ⟨rfl, rfl, rfl⟩ (by rw [← hlns1]; rfl) rfl (hkl) Tryd.underlying23 (by kernel_rfl) (by kernel_rfl) (by kernel_rfl) (by kernel_rfl) (fun _ _ _ h => h) rfl hS fun A F => ?_
  refine sd_cell F 4 rfl ⟨rfl, rfl, rfl⟩ rfl (by kernel_rfl) (fun w h => hc1 w h.2.2) (by kernel_rfl) (by kernel_rfl) (by kernel_rfl) (fun _ _ _ h => h) rfl hS fun A F => ?_
  refine sd_fld F 5 1 rfl ⟨rfl, rfl, rfl⟩ rfl (by kernel_rfl) rfl (by kernel_rfl) (by kernel_rfl) (by kernel_rfl) (fun _ _ _ h => h) rfl hS fun A F => ?_
  refine sd_cell F 6 rfl ⟨rfl, rfl, rfl⟩ rfl (by kernel_rfl) (fun _ h => h.2.1) (by kernel_rfl) (by kernel_rfl) (by kernel_rfl) (fun _ _ _ h => h) rfl hS fun A F => ?_
  refine sd_move F 7 rfl ⟨rfl, rfl, rfl⟩ rfl (by kernel_rfl) (by kernel_rfl) (by kernel_rfl) (fun _ _ _ h => h) rfl hS fun A F => ?_
  refine sd_at F 8 1 (n := c2.ns.xs.length) (c := c2.ns.lc) rfl ⟨rfl, rfl, rfl⟩ (by rw [← hlns2]; rfl) rfl ((by rw [hnl]; exact hkl)) Tryd.underlying23 (by kernel_rfl) (by kernel_rfl) (by kernel_rfl) (by kernel_rfl) (fun _ _ _ h => h) rfl hS fun A F => ?_
  refine sd_cell F 9 rfl ⟨rfl, rfl, rfl⟩ rfl (by kernel_rfl) (fun w h => hc2 w h.2.2) (by kernel_rfl) (by kernel_rfl) (by kernel_rfl) (fun _ _ _ h => h) rfl hS fun A F => ?_
  refine sd_val (v := .bool false) F 10 rfl (by kernel_rfl) (by kernel_rfl) (by kernel_rfl) (fun _ _ _ h => h) rfl rfl rfl (fun _ _ => run_ns (s := s) rfl (F.ev rfl) (F.ev rfl)) hS fun A F => ?_
  clear hS
  refine wpAnyH_done (by kernel_rfl) ?_ _
  show Code.wp _ _ _ _ _
  refine sw_false F rfl ?_
  refine wp_skip ?_
  show Code.wp _ _ _ _ _
  refine sw_reg ?_
  refine sw_move F ⟨rfl, rfl, rfl⟩ rfl rfl fun A F => ?_
  refine sw_add F ⟨rfl, rfl, rfl⟩ rfl rfl (by have := hmx; have := hmn; omega) rfl fun A F => ?_
  refine sw_asg F ⟨rfl, rfl, rfl⟩ rfl rfl fun A F => ?_
  refine sw_end ?_
  show _ ∧ _
  refine ⟨⟨k + 1, by omega, F.keep [5, 2, 3] rfl, M⟩, ?_⟩
  rw [(F.keep (N := 114) (L' := [(5, .int .i64 ((k + 1 : Nat) : Int))]) [5] rfl).2.2 5 (.int .i64 ((k + 1 : Nat) : Int)) rfl, hA5]
  simp only [intOf]
  omega
 ·skip
  refine wp_exit ?_
  repeat (first | refine then_exit ?_ | refine exit_block ?_ | refine exit_pass rfl ?_)
  show Code.wp _ _ _ _ _
  refine sw_seq ?_
  refine sw_seq ?_
  refine sw_reg ?_
  refine sw_asg F ⟨rfl, rfl, rfl⟩ rfl rfl fun A F => ?_
  refine sw_end ?_
  show Code.wp _ _ _ _ _
  refine wp_block ?_
  refine wp_loop (fun A w => ∃ j : Nat, (j ≤ c1.ps.xs.length) ∧ Fm 114 [(6, .int .i64 ((j : Nat) : Int)), (2, ptr a1), (3, ptr a2)] A ∧ Mm (Bx w0) (fun _ => False) w0 [.box a2 [.slice c2.ps.la c2.ps.xs.length c2.ps.lc, .slice c2.ns.la c2.ns.xs.length c2.ns.lc] 25, .box a1 [.slice c1.ps.la c1.ps.xs.length c1.ps.lc, .slice c1.ns.la c1.ns.xs.length c1.ns.lc] 25] () w) (fun A _ => c1.ps.xs.length - (intOf (A.eval (.tmp 6))).toNat) ?_ ?_
  ·exact ⟨0, (Nat.zero_le _), F.keep [6, 2, 3] rfl, M⟩
  repeat clear F
  repeat clear M
  rintro A w ⟨j, hj, F, M⟩
  have hA6 : A.eval (.tmp 6) = .int .i64 ((j : Nat) : Int) := F.2.2 6 _ rfl
  refine sw_seq ?_
  refine sw_seq ?_
  refine sw_reg ?_
  refine sw_move F ⟨rfl, rfl, rfl⟩ rfl rfl fun A F => ?_
  refine sw_fld F 0 ⟨rfl, rfl, rfl⟩ rfl (by kernel_rfl) rfl rfl fun A F => ?_
  refine sw_cell F M 1 ⟨rfl, rfl, rfl⟩ rfl rfl rfl (by kernel_rfl) rfl fun A F => ?_
  refine sw_len F ⟨rfl, rfl, rfl⟩ rfl Tryd.underlying22 rfl fun A F => ?_
  refine sw_lss F ⟨rfl, rfl, rfl⟩ rfl rfl rfl fun A F => ?_
  refine sw_end ?_
  show Code.wp _ _ _ _ _
  refine sw_cond F rfl (fun hc2 => ?_) (fun hc2 => ?_)
  ·skip
   have hjl : j < c1.ps.xs.length := by have := of_decide_eq_true hc2; omega
   obtain ⟨p, hp⟩ : ∃ p, c1.ps.xs[j]? = some p := ⟨_, List.getElem?_eq_getElem hjl⟩
   obtain ⟨la2, lc2, hp2⟩ := hSm.pc j p hp
   obtain ⟨rb1, ro1, hlps1, hrg1, hb1⟩ := held_pc P1 hp
   obtain ⟨rb2, ro2, hlps2, hrg2, hb2⟩ := held_pc P2 hp2
   have hmb := hmB p (List.mem_of_getElem? hp)
   refine wp_skip ?_
   show Code.wp _ _ _ _ _
   refine sw_seq ?_
   refine wp_block ?_
   refine sw_seq ?_
   refine sw_reg ?_
   refine sw_fld F 0 ⟨rfl, rfl, rfl⟩ rfl (by kernel_rfl) rfl rfl fun A F => ?_
   refine sw_cell F M 1 ⟨rfl, rfl, rfl⟩ rfl rfl rfl (by kernel_rfl) rfl fun A F => ?_
   refine sw_move F ⟨rfl, rfl, rfl⟩ rfl rfl fun A F => ?_
   refine sw_at F 5 (n := c1.ps.xs.length) (c := c1.ps.lc) ⟨rfl, rfl, rfl⟩ (by rw [← hlps1]; rfl) rfl (hjl) Tryd.underlying22 (by kernel_rfl) rfl fun A F => ?_
   refine sw_rng F (cs := [.string ⟨p.nm.toArray⟩, .bool p.open_, .int .i64 p.pa, .int .i64 p.lo, .slice p.bd.la p.bd.xs.length p.bd.lc]) (hrg1 _ M.st) ⟨rfl, rfl, rfl⟩ rfl (by kernel_rfl) (by kernel_rfl) rfl fun A F => ?_
   refine sw_alloc F M [.string ⟨#[]⟩, .bool false, .int .i64 0, .int .i64 0, .slice none 0 0] ⟨rfl, rfl, rfl⟩ (by kernel_rfl) rfl fun x3 A w F M => ?_
   refine sw_setAll F M 0 ⟨rfl, rfl, rfl⟩ rfl rfl rfl (by kernel_rfl) rfl rfl fun w M => ?_
   simp only [List.set_cons_zero, List.set_cons_succ] at M
   refine sw_end ?_
   show Code.wp _ _ _ _ _
   refine sw_seq ?_
   refine sw_reg ?_
   refine sw_fld F 0 ⟨rfl, rfl, rfl⟩ rfl (by kernel_rfl) rfl rfl fun A F => ?_
   refine sw_cell F M 1 ⟨rfl, rfl, rfl⟩ rfl rfl rfl (by kernel_rfl) rfl fun A F => ?_
   refine sw_move F ⟨rfl, rfl, rfl⟩ rfl rfl fun A F => ?_
   refine sw_at F 5 (n := c2.ps.xs.length) (c := c2.ps.lc) ⟨rfl, rfl, rfl⟩ (by rw [← hlps2]; rfl) rfl ((by rw [hlen]; exact hjl)) Tryd.underlying22 (by kernel_rfl) rfl fun A F => ?_
   refine sw_rng F (cs := [.string ⟨p.nm.toArray⟩, .bool p.open_, .int .i64 p.pa, .int .i64 p.lo, .slice la2 p.bd.xs.length lc2]) (hrg2 _ M.st) ⟨rfl, rfl, rfl⟩ rfl (by kernel_rfl) (by kernel_rfl) rfl fun A F => ?_
   refine sw_alloc F M [.string ⟨#[]⟩, .bool false, .int .i64 0, .int .i64 0, .slice none 0 0] ⟨rfl, rfl, rfl⟩ (by kernel_rfl) rfl fun x4 A w F M => ?_
   refine sw_setAll F M 0 ⟨rfl, rfl, rfl⟩ rfl rfl rfl (by kernel_rfl) rfl rfl fun w M => ?_
   simp only [List.set_cons_zero, List.set_cons_succ] at M
   refine sw_end ?_
   show Code.wp _ _ _ _ _
   refine sw_seq ?_
   refine sw_seq ?_
   refine sw_reg ?_
   refine sw_fld F 0 ⟨rfl, rfl, rfl⟩ rfl (by kernel_rfl) rfl rfl fun A F => ?_
   refine sw_cell F M 1 ⟨rfl, rfl, rfl⟩ rfl rfl rfl (by kernel_rfl) rfl fun A F => ?_
   refine sw_fld F 0 ⟨rfl, rfl, rfl⟩ rfl (by kernel_rfl) rfl rfl fun A F => ?_
   refine sw_cell F M 0 ⟨rfl, rfl, rfl⟩ rfl rfl rfl (by kernel_rfl) rfl fun A F => ?_
   refine sw_ns (s := p.nm) F ⟨rfl, rfl, rfl⟩ rfl rfl rfl fun A F => ?_
   refine sw_move F ⟨rfl, rfl, rfl⟩ rfl rfl fun A F => ?_
   refine sw_on F 5 rfl rfl rfl rfl rfl ?_
   refine sw_fld F 1 ⟨rfl, rfl, rfl⟩ rfl (by kernel_rfl) rfl rfl fun A F => ?_
   refine sw_on F 5 rfl rfl rfl rfl rfl ?_
   refine sw_cell F M 1 ⟨rfl, rfl, rfl⟩ rfl rfl rfl (by kernel_rfl) rfl fun A F => ?_
   refine sw_on F 5 rfl rfl rfl rfl rfl ?_
   refine sw_fld F 1 ⟨rfl, rfl, rfl⟩ rfl (by kernel_rfl) rfl rfl fun A F => ?_
   refine sw_on F 5 rfl rfl rfl rfl rfl ?_
   refine sw_cell F M 0 ⟨rfl, rfl, rfl⟩ rfl rfl rfl (by kernel_rfl) rfl fun A F => ?_
   refine sw_on F 5 rfl rfl rfl rfl rfl ?_
   refine sw_nb Tryd.underlying4 F ⟨rfl, rfl, rfl⟩ rfl rfl rfl fun A F => ?_
   refine sw_pickF F ⟨rfl, rfl, rfl⟩ rfl rfl rfl fun A F => ?_
   refine sw_move F ⟨rfl, rfl, rfl⟩ rfl rfl fun A F => ?_
   refine sw_on F 12 rfl rfl rfl rfl rfl ?_
   refine sw_fld F 2 ⟨rfl, rfl, rfl⟩ rfl (by kernel_rfl) rfl rfl fun A F => ?_
   refine sw_on F 12 rfl rfl rfl rfl rfl ?_
   refine sw_cell F M 1 ⟨rfl, rfl, rfl⟩ rfl rfl rfl (by kernel_rfl) rfl fun A F => ?_
   refine sw_on F 12 rfl rfl rfl rfl rfl ?_
   refine sw_fld F 2 ⟨rfl, rfl, rfl⟩ rfl (by kernel_rfl) rfl rfl fun A F => ?_
   refine sw_on F 12 rfl rfl rfl rfl rfl ?_
   refine sw_cell F M 0 ⟨rfl, rfl, rfl⟩ rfl rfl rfl (by kernel_rfl) rfl fun A F => ?_
   refine sw_on F 12 rfl rfl rfl rfl rfl ?_
   refine sw_ni F ⟨rfl, rfl, rfl⟩ rfl rfl rfl fun A F => ?_
   refine sw_pickF F ⟨rfl, rfl, rfl⟩ rfl rfl rfl fun A F => ?_
   refine sw_move F ⟨rfl, rfl, rfl⟩ rfl rfl fun A F => ?_
   refine sw_on F 19 rfl rfl rfl rfl rfl ?_
   refine sw_fld F 3 ⟨rfl, rfl, rfl⟩ rfl (by kernel_rfl) rfl rfl fun A F => ?_
   refine sw_on F 19 rfl rfl rfl rfl rfl ?_
   refine sw_cell F M 1 ⟨rfl, rfl, rfl⟩ rfl rfl rfl (by kernel_rfl) rfl fun A F => ?_
   refine sw_on F 19 rfl rfl rfl rfl rfl ?_
   refine sw_fld F 3 ⟨rfl, rfl, rfl⟩ rfl (by kernel_rfl) rfl rfl fun A F => ?_
   refine sw_on F 19 rfl rfl rfl rfl rfl ?_
   refine sw_cell F M 0 ⟨rfl, rfl, rfl⟩ rfl rfl rfl (by kernel_rfl) rfl fun A F => ?_
   refine sw_on F 19 rfl rfl rfl rfl rfl ?_
   refine sw_ni F ⟨rfl, rfl, rfl⟩ rfl rfl rfl fun A F => ?_
   refine sw_pickF F ⟨rfl, rfl, rfl⟩ rfl rfl rfl fun A F => ?_
   refine sw_move F ⟨rfl, rfl, rfl⟩ rfl rfl fun A F => ?_
   refine sw_on F 26 rfl rfl rfl rfl rfl ?_
   refine sw_fld F 4 ⟨rfl, rfl, rfl⟩ rfl (by kernel_rfl) rfl rfl fun A F => ?_
   refine sw_on F 26 rfl rfl rfl rfl rfl ?_
   refine sw_cell F M 1 ⟨rfl, rfl, rfl⟩ rfl rfl rfl (by kernel_rfl) rfl fun A F => ?_
   refine sw_on F 26 rfl rfl rfl rfl rfl ?_
   refine sw_len F ⟨rfl, rfl, rfl⟩ rfl Tryd.underlying32 rfl fun A F => ?_
   refine sw_on F 26 rfl rfl rfl rfl rfl ?_
   refine sw_fld F 4 ⟨rfl, rfl, rfl⟩ rfl (by kernel_rfl) rfl rfl fun A F => ?_
   refine sw_on F 26 rfl rfl rfl rfl rfl ?_
   refine sw_cell F M 0 ⟨rfl, rfl, rfl⟩ rfl rfl rfl (by kernel_rfl) rfl fun A F => ?_
   refine sw_on F 26 rfl rfl rfl rfl rfl ?_
   refine sw_len F ⟨rfl, rfl, rfl⟩ rfl Tryd.underlying32 rfl fun A F => ?_
   refine sw_on F 26 rfl rfl rfl rfl rfl ?_
   refine sw_ni F ⟨rfl, rfl, rfl⟩ rfl rfl rfl fun A F => ?_
   refine sw_pickF F ⟨rfl, rfl, rfl⟩ rfl rfl rfl fun A F => ?_
   refine sw_end ?_
   show Code.wp _ _ _ _ _
   refine sw_false F rfl ?_
   refine wp_skip ?_
   show Code.wp _ _ _ _ _
   refine sw_seq ?_
   refine sw_reg ?_
   refine sw_asg F ⟨rfl, rfl, rfl⟩ rfl rfl fun A F => ?_
   refine sw_end ?_
   show Code.wp _ _ _ _ _
   refine wp_block ?_
   refine wp_loop (fun A w => ∃ i : Nat, (i ≤ p.bd.xs.length) ∧ Fm 114 [(9, .int .i64 ((i : Nat) : Int)), (2, ptr a1), (3, ptr a2), (7, ptr x3), (8, ptr x4), (6, .int .i64 ((j : Nat) : Int))] A ∧ Mm (Bx w0) (fun _ => False) w0 [.box x4 [.string ⟨p.nm.toArray⟩, .bool p.open_, .int .i64 p.pa, .int .i64 p.lo, .slice la2 p.bd.xs.length lc2] 34, .box x3 [.string ⟨p.nm.toArray⟩, .bool p.open_, .int .i64 p.pa, .int .i64 p.lo, .slice p.bd.la p.bd.xs.length p.bd.lc] 34, .box a2 [.slice c2.ps.la c2.ps.xs.length c2.ps.lc, .slice c2.ns.la c2.ns.xs.length c2.ns.lc] 25, .box a1 [.slice c1.ps.la c1.ps.xs.length c1.ps.lc, .slice c1.ns.la c1.ns.xs.length c1.ns.lc] 25] () w) (fun A _ => p.bd.xs.length - (intOf (A.eval (.tmp 9))).toNat) ?_ ?_
   ·exact ⟨0, (Nat.zero_le _), F.keep [9, 2, 3, 7, 8, 6] rfl, M⟩
   repeat clear F
   repeat clear M
   rintro A w ⟨i, hi, F, M⟩
   have hA9 : A.eval (.tmp 9) = .int .i64 ((i : Nat) : Int) := F.2.2 9 _ rfl
   refine sw_seq ?_
   refine sw_seq ?_
   refine sw_reg ?_
   refine sw_move F ⟨rfl, rfl, rfl⟩ rfl rfl fun A F => ?_
   refine sw_fld F 4 ⟨rfl, rfl, rfl⟩ rfl (by kernel_rfl) rfl rfl fun A F => ?_
   refine sw_cell F M 1 ⟨rfl, rfl, rfl⟩ rfl rfl rfl (by kernel_rfl) rfl fun A F => ?_
   refine sw_len F ⟨rfl, rfl, rfl⟩ rfl Tryd.underlying32 rfl fun A F => ?_
   refine sw_lss F ⟨rfl, rfl, rfl⟩ rfl rfl rfl fun A F => ?_
   refine sw_end ?_
   show Code.wp _ _ _ _ _
   refine sw_cond F rfl (fun hc5 => ?_) (fun hc5 => ?_)
   ·skip
    have hil : i < p.bd.xs.length := by have := of_decide_eq_true hc5; omega
    obtain ⟨x, hx⟩ : ∃ x, p.bd.xs[i]? = some x := ⟨_, List.getElem?_eq_getElem hil⟩
    obtain ⟨sb1, so1, hlbd1, H1⟩ := held_body hb1 (fun q => by rw [q] at hx; cases hx) hmb
    obtain ⟨sb2, so2, hlbd2, H2⟩ := held_body hb2 (fun q => by have q : p.bd.xs = [] := q; rw [q] at hx; cases hx) hmb
    refine wp_skip ?_
    show Code.wp _ _ _ _ _
    refine sw_seq ?_
    refine wp_block ?_
    refine sw_seq ?_
    refine wp_region_held (S := fun w' => w'.cell? ⟨x3, 4, none⟩ = some (.slice p.bd.la p.bd.xs.length p.bd.lc) ∧ w'.cell? ⟨x4, 4, none⟩ = some (.slice la2 p.bd.xs.length lc2) ∧ Bx w0 () w') (by kernel_rfl) ?_
    show wpAnyH _ _ _ _ _ _ _ _ w.drew
    replace M := M.drew
    have hS : w.drew.cell? ⟨x3, 4, none⟩ = some (.slice p.bd.la p.bd.xs.length p.bd.lc) ∧ w.drew.cell? ⟨x4, 4, none⟩ = some (.slice la2 p.bd.xs.length lc2) ∧ Bx w0 () w.drew := ⟨M.cell 1 rfl rfl, M.cell 0 rfl rfl, M.st⟩
    refine sd_fld F 0 4 rfl ⟨rfl, rfl, rfl⟩ rfl (by kernel_rfl) rfl (by kernel_rfl) (by kernel_rfl) (by kernel_rfl) (fun _ _ _ h => h) rfl hS fun A F => ?_
    refine sd_cell F 1 rfl ⟨rfl, rfl, rfl⟩ rfl (by kernel_rfl) (fun _ h => h.1) (by kernel_rfl) (by kernel_rfl) (by kernel_rfl) (fun _ _ _ h => h) rfl hS fun A F => ?_
    refine sd_move F 2 rfl ⟨rfl, rfl, rfl⟩ rfl (by kernel_rfl) (by kernel_rfl) (by kernel_rfl) (fun _ _ _ h => h) rfl hS fun A F => ?_
    refine sd_at F 3 3 (n := p.bd.xs.length) (c := p.bd.lc) rfl ⟨rfl, rfl, rfl⟩ (by rw [← hlbd1]; rfl) rfl (hil) Tryd.underlying32 (by kernel_rfl) (by kernel_rfl) (by kernel_rfl) (by kernel_rfl) (fun _ _ _ h => h) rfl hS fun A F => ?_
    refine sd_rng F 4 (cs := [.int .i64 x.op, .int .i64 x.a, .int .i64 x.b]) rfl ⟨rfl, rfl, rfl⟩ rfl (by kernel_rfl) (by kernel_rfl) (fun w h => (H1.bx h.2.2).at_ _ _ hx) (by kernel_rfl) (by kernel_rfl) (by kernel_rfl) (fun _ _ _ h => h) rfl hS fun A F => ?_
    refine sd_fld F 5 4 rfl ⟨rfl, rfl, rfl⟩ rfl (by kernel_rfl) rfl (by kernel_rfl) (by kernel_rfl) (by kernel_rfl) (fun _ _ _ h => h) rfl hS fun A F => ?_
    refine sd_cell F 6 rfl ⟨rfl, rfl, rfl⟩ rfl (by kernel_rfl) (fun _ h => h.2.1) (by kernel_rfl) (by kernel_rfl) (by kernel_rfl) (fun _ _ _ h => h) rfl hS fun A F => ?_
    refine sd_move F 7 rfl ⟨rfl, rfl, rfl⟩ rfl (by kernel_rfl) (by kernel_rfl) (by kernel_rfl) (fun _ _ _ h => h) rfl hS fun A F => ?_
    refine sd_at F 8 3 (n := p.bd.xs.length) (c := lc2) rfl ⟨rfl, rfl, rfl⟩ (by rw [← hlbd2]; rfl) rfl (hil) Tryd.underlying32 (by kernel_rfl) (by kernel_rfl) (by kernel_rfl) (by kernel_rfl) (fun _ _ _ h => h) rfl hS fun A F => ?_
    refine sd_rng F 9 (cs := [.int .i64 x.op, .int .i64 x.a, .int .i64 x.b]) rfl ⟨rfl, rfl, rfl⟩ rfl (by kernel_rfl) (by kernel_rfl) (fun w h => (H2.bx h.2.2).at_ _ _ hx) (by kernel_rfl) (by kernel_rfl) (by kernel_rfl) (fun _ _ _ h => h) rfl hS fun A F => ?_
    refine sd_val (v := .bool false) F 10 rfl (by kernel_rfl) (by kernel_rfl) (by kernel_rfl) (fun _ _ _ h => h) rfl rfl rfl (fun _ _ => run_nI0 rfl (F.ev rfl) (F.ev rfl)) hS fun A F => ?_
    clear hS
    refine wpAnyH_done (by kernel_rfl) ?_ _
    show Code.wp _ _ _ _ _
    refine sw_false F rfl ?_
    refine wp_skip ?_
    show Code.wp _ _ _ _ _
    refine sw_reg ?_
    refine sw_move F ⟨rfl, rfl, rfl⟩ rfl rfl fun A F => ?_
    refine sw_add F ⟨rfl, rfl, rfl⟩ rfl rfl (by have := hmb; omega) rfl fun A F => ?_
    refine sw_asg F ⟨rfl, rfl, rfl⟩ rfl rfl fun A F => ?_
    refine sw_end ?_
    show _ ∧ _
    refine ⟨⟨i + 1, by omega, F.keep [9, 2, 3, 7, 8, 6] rfl, M⟩, ?_⟩
    rw [(F.keep (N := 114) (L' := [(9, .int .i64 ((i + 1 : Nat) : Int))]) [9] rfl).2.2 9 (.int .i64 ((i + 1 : Nat) : Int)) rfl, hA9]
    simp only [intOf]
    omega
   ·skip
    refine wp_exit ?_
    repeat (first | refine then_exit ?_ | refine exit_block ?_ | refine exit_pass rfl ?_)
    show Code.wp _ _ _ _ _
    refine sw_reg ?_
    refine sw_move F ⟨rfl, rfl, rfl⟩ rfl rfl fun A F => ?_
    refine sw_add F ⟨rfl, rfl, rfl⟩ rfl rfl (by have := hmx; have := hmn; omega) rfl fun A F => ?_
    refine sw_asg F ⟨rfl, rfl, rfl⟩ rfl rfl fun A F => ?_
    refine sw_end ?_
    replace M := M.drop 1 rfl
    replace M := M.drop 0 rfl
    show _ ∧ _
    refine ⟨⟨j + 1, by omega, F.keep [6, 2, 3] rfl, M⟩, ?_⟩
    rw [(F.keep (N := 114) (L' := [(6, .int .i64 ((j + 1 : Nat) : Int))]) [6] rfl).2.2 6 (.int .i64 ((j + 1 : Nat) : Int)) rfl, hA6]
    simp only [intOf]
    omega
  ·skip
   refine wp_exit ?_
   repeat (first | refine then_exit ?_ | refine exit_block ?_ | refine exit_pass rfl ?_)
   show Code.wp _ _ _ _ _
   refine sw_seq ?_
   refine sw_reg ?_
   refine sw_asg F ⟨rfl, rfl, rfl⟩ rfl rfl fun A F => ?_
   refine sw_end ?_
   show Code.wp _ _ _ _ _
   refine wp_ret ?_
   repeat (first | refine then_ret ?_ | refine block_ret ?_)
   exact sw_rettmp F Tryd.results7 rfl ⟨rfl, M.st⟩
end Go.Proofs.YtemjajljpoaioaaDoor
