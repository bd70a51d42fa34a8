import Derived.Test.YtemjajljpoaioaaDoorM46
namespace Go.Proofs.YtemjajljpoaioaaDoor
open Go.RowKit
set_option linter.unusedVariables false
set_option linter.unusedSimpArgs false
set_option maxRecDepth 20000
set_option maxHeartbeats 8000000
theorem nms1 {xs : List (List UInt8)} : ∀ d ∈ xs.map nameFlds, d.length = 1 := fun d hd => by obtain ⟨y, _, rfl⟩ := List.mem_map.1 hd; rfl
theorem nms_lie {xs : List (List UInt8)} : ∀ d ∈ xs.map nameFlds, ∀ lo w, lieAll lo w d := fun d hd lo w => by
 obtain ⟨y, _, rfl⟩ := List.mem_map.1 hd
 exact lie_cons trivial (lie_nil _ _)
set_option maxRecDepth 20000 in
set_option maxHeartbeats 8000000 in
theorem ttidy_m {w0 : World} {c : Cd} (T : Tab w0) (P : PsAt w0.heap.size w0 c) (NH : c.ns.Held nameFlds 1 w0.heap.size w0) (hnn : c.ns.xs.length ≤ 9223372036854775807) (hnm : c.ns.xs.length ≤ 100000000000) : Calls Tryd.prog 5 ([.agg #[.slice c.ps.la c.ps.xs.length c.ps.lc, .slice c.ns.la c.ns.xs.length c.ns.lc]] : List Value).toArray w0 fun e w' => ((checkP c ≠ 0 ∧ e = .returned (.tuple #[.agg #[.slice none 0 0, .slice none 0 0], .int .i64 (checkP c)])) ∨ (checkP c = 0 ∧ ∃ d : Cd, TidC c d ∧ lieAll w0.heap.size w' d.fs ∧ e = .returned (.tuple #[.agg #[.slice d.ps.la d.ps.xs.length d.ps.lc, .slice d.ns.la d.ns.xs.length d.ns.lc], .int .i64 0]))) ∧ Below w0.heap.size w0 w' := by
 have M := bx_begin (w0 := w0) (w := w0) (Below.refl _ _)
 refine sw_fn Tryd.func5 rfl 39 Tryd.ntmps5 rfl fun A F => ?_
 refine sw_seq ?_
 refine sw_reg ?_
 refine sw_box F M [.slice c.ps.la c.ps.xs.length c.ps.lc, .slice c.ns.la c.ns.xs.length c.ns.lc] ⟨rfl, rfl, rfl⟩ rfl rfl rfl fun x1 A w F M => ?_
 refine sw_alloc F M [.slice none 0 0, .slice none 0 0] ⟨rfl, rfl, rfl⟩ (by kernel_rfl) rfl fun x2 A w F M => ?_
 refine sw_asg F ⟨rfl, rfl, rfl⟩ rfl rfl fun A F => ?_
 refine sw_end ?_
 show Code.wp _ _ _ _ _
 refine sw_seq ?_
 refine sw_seq ?_
 refine sw_reg ?_
 refine sw_all F M 1 ⟨rfl, rfl, rfl⟩ rfl rfl (by kernel_rfl) (by kernel_rfl) rfl fun A F => ?_
 refine sw_callR (by kernel_rfl) (check_any w0.heap.size c w (T.below M.st T.1) T.1 M.mem.le (Lst.Held.below P M.st)) F ⟨rfl, rfl, rfl⟩ rfl rfl ?_
 rintro _ w ⟨rfl, hb⟩
 refine ⟨_, rfl, fun A F => ?_⟩
 replace M := M.aft hb
 clear hb
 refine sw_asg F ⟨rfl, rfl, rfl⟩ rfl rfl fun A F => ?_
 refine sw_end ?_
 show Code.wp _ _ _ _ _
 refine sw_seq ?_
 refine sw_reg ?_
 refine sw_move F ⟨rfl, rfl, rfl⟩ rfl rfl fun A F => ?_
 refine sw_neq F ⟨rfl, rfl, rfl⟩ rfl rfl rfl fun A F => ?_
 refine sw_end ?_
 show Code.wp _ _ _ _ _
 refine sw_cond F rfl (fun hc3 => ?_) (fun hc3 => ?_)
 ·skip
  have hne : checkP c ≠ 0 := by simpa using hc3
  refine sw_seq ?_
  refine sw_reg ?_
  refine sw_build F _ [.slice none 0 0, .slice none 0 0] ⟨rfl, rfl, rfl⟩ rfl (by kernel_rfl) rfl fun A F => ?_
  refine sw_move F ⟨rfl, rfl, rfl⟩ rfl rfl fun A F => ?_
  refine sw_setAll F M 0 ⟨rfl, rfl, rfl⟩ rfl rfl rfl (by kernel_rfl) rfl rfl fun w M => ?_
  simp only [List.set_cons_zero, List.set_cons_succ] at M
  refine sw_asg F ⟨rfl, rfl, rfl⟩ rfl rfl fun A F => ?_
  refine sw_end ?_
  show Code.wp _ _ _ _ _
  refine wp_ret ?_
  repeat (first | refine then_ret ?_ | refine block_ret ?_)
  exact sw_ret2 F Tryd.results5 rfl rfl (M.mem.box (k := 0) rfl).1 (by kernel_rfl) (by kernel_rfl) ⟨.inl ⟨hne, rfl⟩, M.st⟩
 ·skip
  have h0 : checkP c = 0 := by simpa using hc3
  have OK := (checkP_iff c).1 h0
  refine wp_skip ?_
  show Code.wp _ _ _ _ _
  refine sw_cut (fun A w => ∃ (x3 : Nat) (pa na : Option Addr) (pc nc : Nat) (e0 : Ent), Fm 39 [(5, ptr x3), (2, ptr x2)] A ∧ Mm (Bx w0) (fun _ => False) w0 [.box x3 [.slice pa c.ps.xs.length pc, .slice na c.ns.xs.length nc] 25, e0, .val [.l na nc (c.ns.xs.map nameFlds)], .box x2 [.slice none 0 0, .slice none 0 0] 25, .box x1 [.slice c.ps.la c.ps.xs.length c.ps.lc, .slice c.ns.la c.ns.xs.length c.ns.lc] 25] () w ∧ (c.ps.xs.map Pc.flds = [] ∨ ∃ g zs, e0 = .box g (flatV (c.ps.xs.map Pc.flds) ++ zs) 34 ∧ pa = some ⟨g, 0, none⟩ ∧ RxOk 5 pc (c.ps.xs.map Pc.flds) zs) ∧ c.ps.xs.length ≤ pc ∧ pc ≤ maxLen) ?_ ?_
  ·skip
   refine wp_region_held (S := fun w' => w'.cell? ⟨x1, 0, none⟩ = some (.slice c.ps.la c.ps.xs.length c.ps.lc) ∧ w'.cell? ⟨x1, 1, none⟩ = some (.slice c.ns.la c.ns.xs.length c.ns.lc)) (by kernel_rfl) ?_
   show wpAnyH _ _ _ _ _ _ _ _ w.drew
   replace M := M.drew
   have hS : w.drew.cell? ⟨x1, 0, none⟩ = some (.slice c.ps.la c.ps.xs.length c.ps.lc) ∧ w.drew.cell? ⟨x1, 1, none⟩ = some (.slice c.ns.la c.ns.xs.length c.ns.lc) := ⟨M.cell 1 rfl rfl, M.cell 1 rfl rfl⟩
   refine sd_fld F 0 0 rfl ⟨rfl, rfl, rfl⟩ rfl (by kernel_rfl) rfl (by kernel_rfl) (by kernel_rfl) (by kernel_rfl) (fun _ _ _ h => h) rfl hS fun A F => ?_
   refine sd_fld F 3 1 rfl ⟨rfl, rfl, rfl⟩ rfl (by kernel_rfl) rfl (by kernel_rfl) (by kernel_rfl) (by kernel_rfl) (fun _ _ _ h => h) rfl hS fun A F => ?_
   refine sd_cell F 1 rfl ⟨rfl, rfl, rfl⟩ rfl (by kernel_rfl) (fun _ h => h.1) (by kernel_rfl) (by kernel_rfl) (by kernel_rfl) (fun _ _ _ h => h) rfl hS fun A F => ?_
   refine sd_cell F 4 rfl ⟨rfl, rfl, rfl⟩ rfl (by kernel_rfl) (fun _ h => h.2) (by kernel_rfl) (by kernel_rfl) (by kernel_rfl) (fun _ _ _ h => h) rfl hS fun A F => ?_
   clear hS
   refine sd_two 2 7 rfl rfl (by kernel_rfl) rfl rfl ?_ ?_
   ·skip
    refine sw_callR (by kernel_rfl) (cloneP_m (held_src (sz := 5) Pc.len (by decide) (Lst.Held.below P M.st)) pcs5 (by have := OK.np; rw [List.length_map]; omega)) F ⟨rfl, rfl, rfl⟩ (by rw [List.length_map]; rfl) rfl ?_
    rintro e w ⟨hq, hb⟩
    obtain ⟨pa, pc, e0, rfl, M, hPQ, hpl, hpm⟩ := M.clo hb hq (held_src (sz := 5) Pc.len (by decide) (Lst.Held.below P M.st)) (by decide)
    refine ⟨_, rfl, fun A F => ?_⟩
    clear hb hq
    rw [List.length_map] at F hpl
    have hS : w.cell? ⟨x1, 0, none⟩ = some (.slice c.ps.la c.ps.xs.length c.ps.lc) ∧ w.cell? ⟨x1, 1, none⟩ = some (.slice c.ns.la c.ns.xs.length c.ns.lc) := ⟨M.cell 2 rfl rfl, M.cell 2 rfl rfl⟩
    refine sw_end ⟨hS, ?_⟩
    clear hS
    refine sd_two 5 7 rfl rfl (by kernel_rfl) rfl rfl ?_ ?_
    ·skip
     refine sw_callR (by kernel_rfl) (cloneS_m (held_src (sz := 1) nameFlds_len (by decide) (Lst.Held.below NH M.st)) nms1 (by rw [List.length_map]; exact hnm)) F ⟨rfl, rfl, rfl⟩ (by rw [List.length_map]; rfl) rfl ?_
     rintro e w ⟨hq, hb⟩
     obtain ⟨na, nc, rfl, M⟩ := M.clov hb hq (held_src (sz := 1) nameFlds_len (by decide) (Lst.Held.below NH M.st)) (by decide) nms_lie
     refine ⟨_, rfl, fun A F => ?_⟩
     clear hb hq
     rw [List.length_map] at F
     have hS : w.cell? ⟨x1, 0, none⟩ = some (.slice c.ps.la c.ps.xs.length c.ps.lc) ∧ w.cell? ⟨x1, 1, none⟩ = some (.slice c.ns.la c.ns.xs.length c.ns.lc) := ⟨M.cell 3 rfl rfl, M.cell 3 rfl rfl⟩
     refine sw_end ⟨hS, ?_⟩
     refine sd_build F 6 [.slice pa c.ps.xs.length pc, .slice na c.ns.xs.length nc] [.slice pa c.ps.xs.length pc, .slice na c.ns.xs.length nc] rfl ⟨rfl, rfl, rfl⟩ rfl (by kernel_rfl) (by kernel_rfl) (by kernel_rfl) (by kernel_rfl) (fun _ _ _ h => h) rfl hS fun A F => ?_
     clear hS
     refine sd_one 7 rfl (by kernel_rfl) rfl ?_
     refine sw_alloc F M [.slice none 0 0, .slice none 0 0] ⟨rfl, rfl, rfl⟩ (by kernel_rfl) rfl fun x3 A w F M => ?_
     have hS : w.cell? ⟨x1, 0, none⟩ = some (.slice c.ps.la c.ps.xs.length c.ps.lc) ∧ w.cell? ⟨x1, 1, none⟩ = some (.slice c.ns.la c.ns.xs.length c.ns.lc) := ⟨M.cell 4 rfl rfl, M.cell 4 rfl rfl⟩
     refine sw_end ⟨hS, ?_⟩
     clear hS
     refine sd_one 8 rfl (by kernel_rfl) rfl ?_
     refine sw_setAll F M 0 ⟨rfl, rfl, rfl⟩ rfl rfl rfl (by kernel_rfl) rfl rfl fun w M => ?_
     simp only [List.set_cons_zero, List.set_cons_succ] at M
     have hS : w.cell? ⟨x1, 0, none⟩ = some (.slice c.ps.la c.ps.xs.length c.ps.lc) ∧ w.cell? ⟨x1, 1, none⟩ = some (.slice c.ns.la c.ns.xs.length c.ns.lc) := ⟨M.cell 4 rfl rfl, M.cell 4 rfl rfl⟩
     refine sw_end ⟨hS, ?_⟩
     clear hS
     replace M := Mm.permE (A := [.box x3 [.slice pa c.ps.xs.length pc, .slice na c.ns.xs.length nc] 25, .val [.l na nc (c.ns.xs.map nameFlds)], e0]) (A' := [.box x3 [.slice pa c.ps.xs.length pc, .slice na c.ns.xs.length nc] 25, e0, .val [.l na nc (c.ns.xs.map nameFlds)]]) (E := [.box x2 [.slice none 0 0, .slice none 0 0] 25, .box x1 [.slice c.ps.la c.ps.xs.length c.ps.lc, .slice c.ns.la c.ns.xs.length c.ns.lc] 25]) M [0, 2, 1] rfl rfl (by decide)
     refine wpAnyH_done (by kernel_rfl) ?_ _
     exact ⟨x3, pa, na, pc, nc, e0, F.keep [5, 2] rfl, M, hPQ, hpl, hpm⟩
    ·skip
     refine sw_alloc F M [.slice none 0 0, .slice none 0 0] ⟨rfl, rfl, rfl⟩ (by kernel_rfl) rfl fun x3 A w F M => ?_
     have hS : w.cell? ⟨x1, 0, none⟩ = some (.slice c.ps.la c.ps.xs.length c.ps.lc) ∧ w.cell? ⟨x1, 1, none⟩ = some (.slice c.ns.la c.ns.xs.length c.ns.lc) := ⟨M.cell 3 rfl rfl, M.cell 3 rfl rfl⟩
     refine sw_end ⟨hS, ?_⟩
     clear hS
     refine sd_one 5 rfl (by kernel_rfl) rfl ?_
     refine sw_callR (by kernel_rfl) (cloneS_m (held_src (sz := 1) nameFlds_len (by decide) (Lst.Held.below NH M.st)) nms1 (by rw [List.length_map]; exact hnm)) F ⟨rfl, rfl, rfl⟩ (by rw [List.length_map]; rfl) rfl ?_
     rintro e w ⟨hq, hb⟩
     obtain ⟨na, nc, rfl, M⟩ := M.clov hb hq (held_src (sz := 1) nameFlds_len (by decide) (Lst.Held.below NH M.st)) (by decide) nms_lie
     refine ⟨_, rfl, fun A F => ?_⟩
     clear hb hq
     rw [List.length_map] at F
     have hS : w.cell? ⟨x1, 0, none⟩ = some (.slice c.ps.la c.ps.xs.length c.ps.lc) ∧ w.cell? ⟨x1, 1, none⟩ = some (.slice c.ns.la c.ns.xs.length c.ns.lc) := ⟨M.cell 4 rfl rfl, M.cell 4 rfl rfl⟩
     refine sw_end ⟨hS, ?_⟩
     refine sd_build F 6 [.slice pa c.ps.xs.length pc, .slice na c.ns.xs.length nc] [.slice pa c.ps.xs.length pc, .slice na c.ns.xs.length nc] rfl ⟨rfl, rfl, rfl⟩ rfl (by kernel_rfl) (by kernel_rfl) (by kernel_rfl) (by kernel_rfl) (fun _ _ _ h => h) rfl hS fun A F => ?_
     clear hS
     refine sd_one 8 rfl (by kernel_rfl) rfl ?_
     refine sw_setAll F M 1 ⟨rfl, rfl, rfl⟩ rfl rfl rfl (by kernel_rfl) rfl rfl fun w M => ?_
     simp only [List.set_cons_zero, List.set_cons_succ] at M
     have hS : w.cell? ⟨x1, 0, none⟩ = some (.slice c.ps.la c.ps.xs.length c.ps.lc) ∧ w.cell? ⟨x1, 1, none⟩ = some (.slice c.ns.la c.ns.xs.length c.ns.lc) := ⟨M.cell 4 rfl rfl, M.cell 4 rfl rfl⟩
     refine sw_end ⟨hS, ?_⟩
     clear hS
     replace M := Mm.permE (A := [.val [.l na nc (c.ns.xs.map nameFlds)], .box x3 [.slice pa c.ps.xs.length pc, .slice na c.ns.xs.length nc] 25, e0]) (A' := [.box x3 [.slice pa c.ps.xs.length pc, .slice na c.ns.xs.length nc] 25, e0, .val [.l na nc (c.ns.xs.map nameFlds)]]) (E := [.box x2 [.slice none 0 0, .slice none 0 0] 25, .box x1 [.slice c.ps.la c.ps.xs.length c.ps.lc, .slice c.ns.la c.ns.xs.length c.ns.lc] 25]) M [1, 2, 0] rfl rfl (by decide)
     refine wpAnyH_done (by kernel_rfl) ?_ _
     exact ⟨x3, pa, na, pc, nc, e0, F.keep [5, 2] rfl, M, hPQ, hpl, hpm⟩
   ·skip
    refine sw_alloc F M [.slice none 0 0, .slice none 0 0] ⟨rfl, rfl, rfl⟩ (by kernel_rfl) rfl fun x3 A w F M => ?_
    have hS : w.cell? ⟨x1, 0, none⟩ = some (.slice c.ps.la c.ps.xs.length c.ps.lc) ∧ w.cell? ⟨x1, 1, none⟩ = some (.slice c.ns.la c.ns.xs.length c.ns.lc) := ⟨M.cell 2 rfl rfl, M.cell 2 rfl rfl⟩
    refine sw_end ⟨hS, ?_⟩
    clear hS
    refine sd_one 2 rfl (by kernel_rfl) rfl ?_
    refine sw_callR (by kernel_rfl) (cloneP_m (held_src (sz := 5) Pc.len (by decide) (Lst.Held.below P M.st)) pcs5 (by have := OK.np; rw [List.length_map]; omega)) F ⟨rfl, rfl, rfl⟩ (by rw [List.length_map]; rfl) rfl ?_
    rintro e w ⟨hq, hb⟩
    obtain ⟨pa, pc, e0, rfl, M, hPQ, hpl, hpm⟩ := M.clo hb hq (held_src (sz := 5) Pc.len (by decide) (Lst.Held.below P M.st)) (by decide)
    refine ⟨_, rfl, fun A F => ?_⟩
    clear hb hq
    rw [List.length_map] at F hpl
    have hS : w.cell? ⟨x1, 0, none⟩ = some (.slice c.ps.la c.ps.xs.length c.ps.lc) ∧ w.cell? ⟨x1, 1, none⟩ = some (.slice c.ns.la c.ns.xs.length c.ns.lc) := ⟨M.cell 3 rfl rfl, M.cell 3 rfl rfl⟩
    refine sw_end ⟨hS, ?_⟩
    clear hS
    refine sd_one 5 rfl (by kernel_rfl) rfl ?_
    refine sw_callR (by kernel_rfl) (cloneS_m (held_src (sz := 1) nameFlds_len (by decide) (Lst.Held.below NH M.st)) nms1 (by rw [List.length_map]; exact hnm)) F ⟨rfl, rfl, rfl⟩ (by rw [List.length_map]; rfl) rfl ?_
    rintro e w ⟨hq, hb⟩
    obtain ⟨na, nc, rfl, M⟩ := M.clov hb hq (held_src (sz := 1) nameFlds_len (by decide) (Lst.Held.below NH M.st)) (by decide) nms_lie
    refine ⟨_, rfl, fun A F => ?_⟩
    clear hb hq
    rw [List.length_map] at F
    have hS : w.cell? ⟨x1, 0, none⟩ = some (.slice c.ps.la c.ps.xs.length c.ps.lc) ∧ w.cell? ⟨x1, 1, none⟩ = some (.slice c.ns.la c.ns.xs.length c.ns.lc) := ⟨M.cell 4 rfl rfl, M.cell 4 rfl rfl⟩
    refine sw_end ⟨hS, ?_⟩
    refine sd_build F 6 [.slice pa c.ps.xs.length pc, .slice na c.ns.xs.length nc] [.slice pa c.ps.xs.length pc, .slice na c.ns.xs.length nc] rfl ⟨rfl, rfl, rfl⟩ rfl (by kernel_rfl) (by kernel_rfl) (by kernel_rfl) (by kernel_rfl) (fun _ _ _ h => h) rfl hS fun A F => ?_
    clear hS
    refine sd_one 8 rfl (by kernel_rfl) rfl ?_
    refine sw_setAll F M 2 ⟨rfl, rfl, rfl⟩ rfl rfl rfl (by kernel_rfl) rfl rfl fun w M => ?_
    simp only [List.set_cons_zero, List.set_cons_succ] at M
    have hS : w.cell? ⟨x1, 0, none⟩ = some (.slice c.ps.la c.ps.xs.length c.ps.lc) ∧ w.cell? ⟨x1, 1, none⟩ = some (.slice c.ns.la c.ns.xs.length c.ns.lc) := ⟨M.cell 4 rfl rfl, M.cell 4 rfl rfl⟩
    refine sw_end ⟨hS, ?_⟩
    clear hS
    replace M := Mm.permE (A := [.val [.l na nc (c.ns.xs.map nameFlds)], e0, .box x3 [.slice pa c.ps.xs.length pc, .slice na c.ns.xs.length nc] 25]) (A' := [.box x3 [.slice pa c.ps.xs.length pc, .slice na c.ns.xs.length nc] 25, e0, .val [.l na nc (c.ns.xs.map nameFlds)]]) (E := [.box x2 [.slice none 0 0, .slice none 0 0] 25, .box x1 [.slice c.ps.la c.ps.xs.length c.ps.lc, .slice c.ns.la c.ns.xs.length c.ns.lc] 25]) M [2, 1, 0] rfl rfl (by decide)
    refine wpAnyH_done (by kernel_rfl) ?_ _
    exact ⟨x3, pa, na, pc, nc, e0, F.keep [5, 2] rfl, M, hPQ, hpl, hpm⟩
  clear F M
  rintro A w ⟨x3, pa, na, pc, nc, e0, F, M, hPQ, hpl, hpm⟩
  by_cases hps : c.ps.xs = []
  ·skip
   show Code.wp _ _ _ _ _
   refine sw_seq ?_
   refine sw_seq ?_
   refine sw_reg ?_
   refine sw_fld F 0 ⟨rfl, rfl, rfl⟩ rfl (by kernel_rfl) rfl rfl fun A F => ?_
   refine sw_cell F M 0 ⟨rfl, rfl, rfl⟩ rfl rfl rfl (by kernel_rfl) rfl fun A F => ?_
   refine sw_len F ⟨rfl, rfl, rfl⟩ rfl Tryd.underlying22 rfl fun A F => ?_
   refine sw_move F ⟨rfl, rfl, rfl⟩ rfl rfl fun A F => ?_
   refine sw_end ?_
   show Code.wp _ _ _ _ _
   refine wp_block ?_
   refine wp_loop (fun A w => ∃ bs : (List (Lst Ins)), (bs = []) ∧ Fm 39 [(2, ptr x2), (5, ptr x3), (22, .slice pa c.ps.xs.length pc), (23, .int .i64 ((c.ps.xs.length : Nat) : Int)), (24, .int .i64 ((bs.length : Nat) : Int))] A ∧ Mm (Bx w0) (fun _ => False) w0 [.box x3 [.slice pa c.ps.xs.length pc, .slice na c.ns.xs.length nc] 25, e0, .val [.l na nc (c.ns.xs.map nameFlds)], .box x2 [.slice none 0 0, .slice none 0 0] 25, .box x1 [.slice c.ps.la c.ps.xs.length c.ps.lc, .slice c.ns.la c.ns.xs.length c.ns.lc] 25] () w) (fun A _ => 0) ?_ ?_
   ·exact ⟨[], (rfl), F.keep [2, 5, 22, 23, 24] rfl, M⟩
   repeat clear F
   repeat clear M
   rintro A w ⟨bs, hke0, F, M⟩
   refine sw_seq ?_
   refine sw_reg ?_
   refine sw_lss F ⟨rfl, rfl, rfl⟩ rfl rfl rfl fun A F => ?_
   refine sw_end ?_
   show Code.wp _ _ _ _ _
   refine sw_seq ?_
   refine sw_cond F rfl (fun hc4 => ?_) (fun hc4 => ?_)
   ·exfalso
    have q := of_decide_eq_true hc4
    rw [hps] at q
    simp only [List.length_nil] at q
    omega
   refine wp_exit ?_
   repeat (first | refine then_exit ?_ | refine exit_block ?_ | refine exit_pass rfl ?_)
   show Code.wp _ _ _ _ _
   refine sw_seq ?_
   refine sw_reg ?_
   refine sw_all F M 0 ⟨rfl, rfl, rfl⟩ rfl rfl (by kernel_rfl) (by kernel_rfl) rfl fun A F => ?_
   refine sw_setAll F M 3 ⟨rfl, rfl, rfl⟩ rfl rfl rfl (by kernel_rfl) rfl rfl fun w M => ?_
   simp only [List.set_cons_zero, List.set_cons_succ] at M
   refine sw_asg F ⟨rfl, rfl, rfl⟩ rfl rfl fun A F => ?_
   refine sw_end ?_
   show Code.wp _ _ _ _ _
   refine wp_ret ?_
   repeat (first | refine then_ret ?_ | refine block_ret ?_)
   have hNm : ((⟨na, nc, c.ns.xs⟩ : Lst (List UInt8)).fld nameFlds).lies w0.heap.size w := M.mem.vallie 2 rfl
   have hPs : ((⟨pa, pc, []⟩ : Lst Pc).fld Pc.flds).lies w0.heap.size w := ⟨Nat.zero_le _, hpm, .inl rfl⟩
   refine sw_ret2 F Tryd.results5 rfl rfl (M.mem.box (k := 3) rfl).1 (by kernel_rfl) (by kernel_rfl) ⟨.inr ⟨h0, (⟨(⟨pa, pc, []⟩ : Lst Pc), (⟨na, nc, c.ns.xs⟩ : Lst (List UInt8))⟩ : Cd), ?_, lie_cons hPs (lie_cons hNm (lie_nil _ _)), ?_⟩, M.st⟩
   ·exact ⟨rfl, by rw [hps], fun k p hp => by rw [hps] at hp; cases hp⟩
   ·show _ = Ending.returned (.tuple #[.agg #[.slice _ (List.length _) _, .slice _ (List.length _) _], _])
    simp only [qsOf_len, hps]
  ·skip
   obtain ⟨g, zs, rfl, rfl, ok⟩ := hPQ.resolve_left (fun q => hps (List.map_eq_nil_iff.1 q))
   show Code.wp _ _ _ _ _
   refine sw_seq ?_
   refine sw_seq ?_
   refine sw_reg ?_
   refine sw_fld F 0 ⟨rfl, rfl, rfl⟩ rfl (by kernel_rfl) rfl rfl fun A F => ?_
   refine sw_cell F M 0 ⟨rfl, rfl, rfl⟩ rfl rfl rfl (by kernel_rfl) rfl fun A F => ?_
   refine sw_len F ⟨rfl, rfl, rfl⟩ rfl Tryd.underlying22 rfl fun A F => ?_
   refine sw_move F ⟨rfl, rfl, rfl⟩ rfl rfl fun A F => ?_
   refine sw_end ?_
   show Code.wp _ _ _ _ _
   refine wp_block ?_
   replace M := M.join [] okf_nil
   rw [show flatV (c.ps.xs.map Pc.flds) = flatV ((qsOf c.ps.xs []).map Pc.flds) by rw [qsOf_nil]] at M
   refine wp_loop (fun A w => ∃ bs : (List (Lst Ins)), (bs.length ≤ c.ps.xs.length) ∧ (∀ (j : Nat) l p, bs[j]? = some l → c.ps.xs[j]? = some p → ∃ m, tidP m p.bd.xs = some l.xs) ∧ Fm 39 [(2, ptr x2), (5, ptr x3), (22, .slice (some ⟨g, 0, none⟩) c.ps.xs.length pc), (23, .int .i64 ((c.ps.xs.length : Nat) : Int)), (24, .int .i64 ((bs.length : Nat) : Int))] A ∧ Mm (Bx w0) (fun _ => False) w0 [.val (bs.map (Lst.fld Ins.flds)), .box x3 [.slice (some ⟨g, 0, none⟩) c.ps.xs.length pc, .slice na c.ns.xs.length nc] 25, .box g (flatV ((qsOf c.ps.xs bs).map Pc.flds) ++ zs) 34, .val [.l na nc (c.ns.xs.map nameFlds)], .box x2 [.slice none 0 0, .slice none 0 0] 25, .box x1 [.slice c.ps.la c.ps.xs.length c.ps.lc, .slice c.ns.la c.ns.xs.length c.ns.lc] 25] () w) (fun A _ => c.ps.xs.length - (intOf (A.eval (.tmp 24))).toNat) ?_ ?_
   ·exact ⟨[], (Nat.zero_le _), (fun j l p hj => by simp at hj), F.keep [2, 5, 22, 23, 24] rfl, M⟩
   repeat clear F
   repeat clear M
   rintro A w ⟨bs, hbn, hbs, F, M⟩
   have hA24 : A.eval (.tmp 24) = .int .i64 ((bs.length : Nat) : Int) := F.2.2 24 _ rfl
   refine sw_seq ?_
   refine sw_reg ?_
   refine sw_lss F ⟨rfl, rfl, rfl⟩ rfl rfl rfl fun A F => ?_
   refine sw_end ?_
   show Code.wp _ _ _ _ _
   refine sw_seq ?_
   refine sw_cond F rfl (fun hc5 => ?_) (fun hc5 => ?_)
   ·skip
    have hkl : bs.length < c.ps.xs.length := by have := of_decide_eq_true hc5; omega
    refine wp_skip ?_
    show Code.wp _ _ _ _ _
    refine sw_seq ?_
    refine wp_block ?_
    refine sw_seq ?_
    refine sw_reg ?_
    refine sw_move F ⟨rfl, rfl, rfl⟩ rfl rfl fun A F => ?_
    refine sw_at F 5 ⟨rfl, rfl, rfl⟩ rfl rfl (hkl) Tryd.underlying22 (by kernel_rfl) rfl fun A F => ?_
    obtain ⟨pp, hpp⟩ : ∃ pp, c.ps.xs[bs.length]? = some pp := ⟨_, List.getElem?_eq_getElem hkl⟩
    have hpm := List.mem_of_getElem? hpp
    have hbody : pp.bd.Held Ins.flds 3 w0.heap.size w0 := by
     rcases P.2.2 with q | ⟨rb, ro, _, _, _, hr⟩
     ·rw [q] at hpp; cases hpp
     ·exact Lst.held Ins.len ((hr _ _ hpp).goods.get 4 rfl)
    obtain ⟨rb, ro, hla, HB⟩ := held_body hbody (fun q => by have := ((OK.fb pp hpm).gd 0 0 .start).1; rw [q] at this; simp at this) (OK.le pp hpm).1
    refine sw_rng F (cs := pp.flds.map Fld.val) (rx_range (d := pp.flds) M.mem (k := 2) rfl (px_len ok (qsOf_len _ _)) (by rw [List.getElem?_map, qsOf_at hpp rfl]; rfl)) ⟨rfl, rfl, rfl⟩ rfl (by kernel_rfl) (by kernel_rfl) rfl fun A F => ?_
    rw [show (pp.flds.map Fld.val) = [.string ⟨pp.nm.toArray⟩, .bool pp.open_, .int .i64 pp.pa, .int .i64 pp.lo, .slice (some ⟨rb, ro, none⟩) pp.bd.xs.length pp.bd.lc] by rw [← hla, ← Lst.val Ins.flds]; rfl] at F
    refine sw_alloc F M [.string ⟨#[]⟩, .bool false, .int .i64 0, .int .i64 0, .slice none 0 0] ⟨rfl, rfl, rfl⟩ (by kernel_rfl) rfl fun x6 A w F M => ?_
    refine sw_asg F ⟨rfl, rfl, rfl⟩ rfl rfl fun A F => ?_
    refine sw_setAll F M 0 ⟨rfl, rfl, rfl⟩ rfl rfl rfl (by kernel_rfl) rfl rfl fun w M => ?_
    simp only [List.set_cons_zero, List.set_cons_succ] at M
    refine sw_end ?_
    show Code.wp _ _ _ _ _
    refine wp_region_held (S := fun w' => w'.cell? ⟨x3, 0, none⟩ = some (.slice (some ⟨g, 0, none⟩) c.ps.xs.length pc) ∧ w'.cell? ⟨x6, 4, none⟩ = some (.slice (some ⟨rb, ro, none⟩) pp.bd.xs.length pp.bd.lc)) (by kernel_rfl) ?_
    show wpAnyH _ _ _ _ _ _ _ _ w.drew
    replace M := M.drew
    have hS : w.drew.cell? ⟨x3, 0, none⟩ = some (.slice (some ⟨g, 0, none⟩) c.ps.xs.length pc) ∧ w.drew.cell? ⟨x6, 4, none⟩ = some (.slice (some ⟨rb, ro, none⟩) pp.bd.xs.length pp.bd.lc) := ⟨M.cell 2 rfl rfl, M.cell 0 rfl rfl⟩
    refine sd_fld F 0 0 rfl ⟨rfl, rfl, rfl⟩ rfl (by kernel_rfl) rfl (by kernel_rfl) (by kernel_rfl) (by kernel_rfl) (fun _ _ _ h => h) rfl hS fun A F => ?_
    refine sd_cell F 1 rfl ⟨rfl, rfl, rfl⟩ rfl (by kernel_rfl) (fun _ h => h.1) (by kernel_rfl) (by kernel_rfl) (by kernel_rfl) (fun _ _ _ h => h) rfl hS fun A F => ?_
    refine sd_move F 2 rfl ⟨rfl, rfl, rfl⟩ rfl (by kernel_rfl) (by kernel_rfl) (by kernel_rfl) (fun _ _ _ h => h) rfl hS fun A F => ?_
    refine sd_fld F 3 4 rfl ⟨rfl, rfl, rfl⟩ rfl (by kernel_rfl) rfl (by kernel_rfl) (by kernel_rfl) (by kernel_rfl) (fun _ _ _ h => h) rfl hS fun A F => ?_
    refine sd_cell F 4 rfl ⟨rfl, rfl, rfl⟩ rfl (by kernel_rfl) (fun _ h => h.2) (by kernel_rfl) (by kernel_rfl) (by kernel_rfl) (fun _ _ _ h => h) rfl hS fun A F => ?_
    clear hS
    refine sd_one 5 rfl (by kernel_rfl) rfl ?_
    refine sw_callR (by kernel_rfl) (ttid_m (lc := pp.bd.lc) (HB.bx M.st) (OK.fb pp hpm) (fun q hq => (OK.pa q hq).1) OK.np hnn (OK.le pp hpm).2.1) F ⟨rfl, rfl, rfl⟩ rfl rfl ?_
    rintro _ w ⟨⟨y, ky, hky, gy, cy, rfl, Hy, hgy, hcl, hcm⟩, hb⟩
    refine ⟨_, rfl, fun A F => ?_⟩
    have Gy := (tidP_fix (OK.fb pp hpm) (fun q hq => (OK.pa q hq).1) hky).2.1
    replace M := M.ret (s' := ()) (But.of_below hb) (M.st.trans (hb.mono M.mem.le)) (lie_cons (body_lies Hy (Gy.rg OK.np hnn (OK.le pp hpm).2.1 Hy.le) hgy hcl hcm) (lie_nil _ _))
    clear hb
    have hS : w.cell? ⟨x3, 0, none⟩ = some (.slice (some ⟨g, 0, none⟩) c.ps.xs.length pc) ∧ w.cell? ⟨x6, 4, none⟩ = some (.slice (some ⟨rb, ro, none⟩) pp.bd.xs.length pp.bd.lc) := ⟨M.cell 3 rfl rfl, M.cell 1 rfl rfl⟩
    refine sw_end ⟨hS, ?_⟩
    clear hS
    refine sd_one 6 rfl (by kernel_rfl) rfl ?_
    refine sw_at F 5 ⟨rfl, rfl, rfl⟩ rfl rfl hkl Tryd.underlying22 (by kernel_rfl) rfl fun A F => ?_
    have hS : w.cell? ⟨x3, 0, none⟩ = some (.slice (some ⟨g, 0, none⟩) c.ps.xs.length pc) ∧ w.cell? ⟨x6, 4, none⟩ = some (.slice (some ⟨rb, ro, none⟩) pp.bd.xs.length pp.bd.lc) := ⟨M.cell 3 rfl rfl, M.cell 1 rfl rfl⟩
    refine sw_end ⟨hS, ?_⟩
    clear hS
    refine sd_one 7 rfl (by kernel_rfl) rfl ?_
    refine sw_fld F 4 ⟨rfl, rfl, rfl⟩ rfl (by kernel_rfl) rfl rfl fun A F => ?_
    have hS : w.cell? ⟨x3, 0, none⟩ = some (.slice (some ⟨g, 0, none⟩) c.ps.xs.length pc) ∧ w.cell? ⟨x6, 4, none⟩ = some (.slice (some ⟨rb, ro, none⟩) pp.bd.xs.length pp.bd.lc) := ⟨M.cell 3 rfl rfl, M.cell 1 rfl rfl⟩
    refine sw_end ⟨hS, ?_⟩
    clear hS
    refine sd_one 8 rfl (by kernel_rfl) rfl ?_
    refine sw_setBd F M 4 ⟨some ⟨gy, 0, none⟩, cy, y⟩ ⟨rfl, rfl, rfl⟩ rfl rfl rfl (qsOf_at hpp rfl) (by kernel_rfl) fun w M => ?_
    simp only [List.set_cons_zero, List.set_cons_succ] at M
    rw [qsOf_set hpp rfl] at M
    have hS : w.cell? ⟨x3, 0, none⟩ = some (.slice (some ⟨g, 0, none⟩) c.ps.xs.length pc) ∧ w.cell? ⟨x6, 4, none⟩ = some (.slice (some ⟨rb, ro, none⟩) pp.bd.xs.length pp.bd.lc) := ⟨M.cell 3 rfl rfl, M.cell 1 rfl rfl⟩
    refine sw_end ⟨hS, ?_⟩
    clear hS
    replace M := M.join ((bs ++ [(⟨some ⟨gy, 0, none⟩, cy, y⟩ : Lst Ins)]).map (Lst.fld Ins.flds)) (fun f hf => by
     rw [List.map_append] at hf
     rcases List.mem_append.1 hf with q | q
     ·exact .inr ⟨2, _, rfl, q⟩
     ·exact .inr ⟨0, _, rfl, q⟩)
    replace M := ((M.drop 1 rfl).drop 1 rfl).drop 1 rfl
    refine wpAnyH_done (by kernel_rfl) ?_ _
    show Code.wp _ _ _ _ _
    refine sw_reg ?_
    refine sw_add F ⟨rfl, rfl, rfl⟩ rfl rfl (by have := OK.np; omega) rfl fun A F => ?_
    refine sw_move F ⟨rfl, rfl, rfl⟩ rfl rfl fun A F => ?_
    refine sw_end ?_
    have hbl : (bs ++ [(⟨some ⟨gy, 0, none⟩, cy, y⟩ : Lst Ins)]).length = bs.length + 1 := by simp
    show _ ∧ _
    refine ⟨⟨bs ++ [(⟨some ⟨gy, 0, none⟩, cy, y⟩ : Lst Ins)], by omega, ?_, by rw [hbl]; exact F.keep [2, 5, 22, 23, 24] rfl, M⟩, ?_⟩
    ·intro j l p hj hp
     by_cases q : j < bs.length
     ·rw [List.getElem?_append_left q] at hj
      exact hbs j l p hj hp
     ·rw [List.getElem?_append_right (by omega)] at hj
      have q2 := (List.getElem?_eq_some_iff.1 hj).1
      simp only [List.length_cons, List.length_nil] at q2
      obtain rfl : j = bs.length := by omega
      rw [Nat.sub_self] at hj
      cases hj
      rw [hpp] at hp
      cases hp
      exact ⟨ky, hky⟩
    rw [(F.keep (N := 39) (L' := [(24, .int .i64 ((bs.length + 1 : Nat) : Int))]) [24] rfl).2.2 24 (.int .i64 ((bs.length + 1 : Nat) : Int)) rfl, hA24]
    simp only [intOf]
    omega
   ·skip
    have hke : bs.length = c.ps.xs.length := by have := of_decide_eq_false hc5; omega
    refine wp_exit ?_
    repeat (first | refine then_exit ?_ | refine exit_block ?_ | refine exit_pass rfl ?_)
    show Code.wp _ _ _ _ _
    refine sw_seq ?_
    refine sw_reg ?_
    refine sw_all F M 1 ⟨rfl, rfl, rfl⟩ rfl rfl (by kernel_rfl) (by kernel_rfl) rfl fun A F => ?_
    refine sw_setAll F M 4 ⟨rfl, rfl, rfl⟩ rfl rfl rfl (by kernel_rfl) rfl rfl fun w M => ?_
    simp only [List.set_cons_zero, List.set_cons_succ] at M
    refine sw_asg F ⟨rfl, rfl, rfl⟩ rfl rfl fun A F => ?_
    refine sw_end ?_
    show Code.wp _ _ _ _ _
    refine wp_ret ?_
    repeat (first | refine then_ret ?_ | refine block_ret ?_)
    have hNm : ((⟨na, nc, c.ns.xs⟩ : Lst (List UInt8)).fld nameFlds).lies w0.heap.size w := M.mem.vallie 3 rfl
    have hPs : ((⟨some ⟨g, 0, none⟩, pc, qsOf c.ps.xs bs⟩ : Lst Pc).fld Pc.flds).lies w0.heap.size w := tid_lies M OK hke ok 2 rfl 0 rfl
    refine sw_ret2 F Tryd.results5 rfl rfl (M.mem.box (k := 4) rfl).1 (by kernel_rfl) (by kernel_rfl) ⟨.inr ⟨h0, (⟨(⟨some ⟨g, 0, none⟩, pc, qsOf c.ps.xs bs⟩ : Lst Pc), (⟨na, nc, c.ns.xs⟩ : Lst (List UInt8))⟩ : Cd), ?_, lie_cons hPs (lie_cons hNm (lie_nil _ _)), ?_⟩, M.st⟩
    ·exact ⟨rfl, qsOf_len _ _, fun k p hp => by
      have hl := (List.getElem?_eq_some_iff.1 hp).1
      obtain ⟨l, hl2⟩ : ∃ l, bs[k]? = some l := ⟨_, List.getElem?_eq_getElem (by omega)⟩
      exact ⟨{ p with bd := l }, by show (qsOf c.ps.xs bs)[k]? = _; rw [qsOf_get hp, hl2], rfl, rfl, rfl, rfl, hbs k l p hl2 hp⟩⟩
    ·show _ = Ending.returned (.tuple #[.agg #[.slice _ (List.length _) _, .slice _ (List.length _) _], _])
     simp only [qsOf_len]
end Go.Proofs.YtemjajljpoaioaaDoor
