import Derived.Test.YtemjajljpoaioaaDoorM32
namespace Go.Proofs.YtemjajljpoaioaaDoor
open Go.RowKit
set_option linter.unusedVariables false
set_option linter.unusedSimpArgs false
set_option maxRecDepth 20000
set_option maxHeartbeats 8000000
abbrev PEs (b y : Nat) (la : Option Addr) (lc : Nat) (pb : List Ins) (ld : List Bool) : List Ent := [.box b [.slice la pb.length lc, .slice (some ⟨y, 0, none⟩) ld.length ld.length] 57, .row (.slice la pb.length lc) 31 3 (pb.map Ins.flds), .box y (ld.map Value.bool) 4]
def insV (i : Ins) : Value := .agg #[.int .i64 i.op, .int .i64 i.a, .int .i64 i.b]
theorem Mm.flg {w0 w : World} {E : List Ent} (M : Mm (Bx w0) (fun _ => False) w0 E () w) {y m : Nat} {ld : List Bool} {t : TypeId} (k : Nat) (hk : E[k]? = some (.box y (ld.map Value.bool) t)) (s : Nat) : Flg w y s ((ld.drop s).take m) :=
 ⟨(M.mem.box hk).1.lt, fun j z hz => by
  rw [List.getElem?_take] at hz
  split at hz
  ·rw [List.getElem?_drop] at hz
   exact M.cell k hk (by rw [List.getElem?_map, show s + j * 1 = s + j by omega, hz]; rfl)
  ·cases hz⟩
set_option maxRecDepth 20000 in
set_option maxHeartbeats 8000000 in
theorem tlast1_m {b y lc : Nat} {la : Option Addr} {pb : List Ins} {ld : List Bool} (hl : pb.length < ld.length) (h2 : pb.length ≤ 2048) : MethE 40 [ptr b, .int .i64 1] (PEs b y la lc pb ld) fun v E2 => v = insV (lastP pb ld 1) ∧ E2 = PEs b y la lc pb ld := by
 refine ⟨by kernel_rfl, fun w0 E w M => ?_⟩
 simp only [List.cons_append, List.nil_append] at M
 refine sw_fn Tryd.func40 rfl 37 Tryd.ntmps40 rfl fun A F => ?_
 refine sw_seq ?_
 refine sw_reg ?_
 refine sw_alloc F M [.int .i64 0, .int .i64 0, .int .i64 0] ⟨rfl, rfl, rfl⟩ (by kernel_rfl) rfl fun x1 A w F M => ?_
 refine sw_end ?_
 show Code.wp _ _ _ _ _
 refine sw_seq ?_
 refine sw_reg ?_
 refine sw_move F ⟨rfl, rfl, rfl⟩ rfl rfl fun A F => ?_
 refine sw_nil F ⟨rfl, rfl, rfl⟩ rfl rfl fun A F => ?_
 refine sw_fld F 0 ⟨rfl, rfl, rfl⟩ rfl (by kernel_rfl) rfl rfl fun A F => ?_
 refine sw_cell F M 1 ⟨rfl, rfl, rfl⟩ rfl rfl rfl (by kernel_rfl) rfl fun A F => ?_
 refine sw_len F ⟨rfl, rfl, rfl⟩ rfl Tryd.underlying32 rfl fun A F => ?_
 refine sw_asg F ⟨rfl, rfl, rfl⟩ rfl rfl fun A F => ?_
 refine sw_end ?_
 show Code.wp _ _ _ _ _
 refine sw_seq ?_
 refine sw_reg ?_
 refine sw_move F ⟨rfl, rfl, rfl⟩ rfl rfl fun A F => ?_
 refine sw_move F ⟨rfl, rfl, rfl⟩ rfl rfl fun A F => ?_
 refine sw_sub F ⟨rfl, rfl, rfl⟩ rfl rfl (by omega) rfl fun A F => ?_
 refine sw_asg F ⟨rfl, rfl, rfl⟩ rfl rfl fun A F => ?_
 refine sw_end ?_
 show Code.wp _ _ _ _ _
 refine sw_seq ?_
 refine sw_seq ?_
 refine sw_reg ?_
 refine sw_move F ⟨rfl, rfl, rfl⟩ rfl rfl fun A F => ?_
 refine sw_lss F ⟨rfl, rfl, rfl⟩ rfl rfl rfl fun A F => ?_
 refine sw_move F ⟨rfl, rfl, rfl⟩ rfl rfl fun A F => ?_
 cases c2 : (decide ((((pb.length : Nat) : Int) - 1) < 0)) with
 | true =>
  rw [c2] at F
  have hm : pb.length < 1 := by have := of_decide_eq_true c2; omega
  refine sw_off F 2 rfl rfl rfl rfl rfl rfl rfl fun A F => ?_
  refine sw_off F 2 rfl rfl rfl rfl rfl rfl rfl fun A F => ?_
  refine sw_off F 2 rfl rfl rfl rfl rfl rfl rfl fun A F => ?_
  refine sw_off F 2 rfl rfl rfl rfl rfl rfl rfl fun A F => ?_
  refine sw_off F 2 rfl rfl rfl rfl rfl rfl rfl fun A F => ?_
  refine sw_off F 2 rfl rfl rfl rfl rfl rfl rfl fun A F => ?_
  refine sw_off F 2 rfl rfl rfl rfl rfl rfl rfl fun A F => ?_
  refine sw_off F 2 rfl rfl rfl rfl rfl rfl rfl fun A F => ?_
  refine sw_off F 2 rfl rfl rfl rfl rfl rfl rfl fun A F => ?_
  refine sw_off F 2 rfl rfl rfl rfl rfl rfl rfl fun A F => ?_
  refine sw_pickT F ⟨rfl, rfl, rfl⟩ rfl rfl rfl fun A F => ?_
  refine sw_end ?_
  show Code.wp _ _ _ _ _
  refine sw_true F rfl ?_
  refine sw_seq ?_
  refine sw_reg ?_
  refine sw_build F _ [.int .i64 0, .int .i64 0, .int .i64 0] ⟨rfl, rfl, rfl⟩ rfl (by kernel_rfl) rfl fun A F => ?_
  refine sw_setAll F M 0 ⟨rfl, rfl, rfl⟩ rfl rfl rfl (by kernel_rfl) rfl rfl fun w M => ?_
  simp only [List.set_cons_zero, List.set_cons_succ] at M
  refine sw_end ?_
  show Code.wp _ _ _ _ _
  refine wp_ret ?_
  repeat (first | refine then_ret ?_ | refine block_ret ?_)
  refine sw_retbox F M 0 Tryd.results40 rfl rfl (by kernel_rfl) (by kernel_rfl) ⟨_, _, rfl, M.drop 0 rfl, ?_, rfl⟩
  show insV noI = _
  rw [show lastP pb ld 1 = noI by unfold lastP; rw [if_pos hm]]
 | false =>
  rw [c2] at F
  have hm : 1 ≤ pb.length := by have := of_decide_eq_false c2; omega
  rw [show (((pb.length : Nat) : Int) - 1) = ((pb.length - 1 : Nat) : Int) by omega] at F
  refine sw_on F 2 rfl rfl rfl rfl rfl ?_
  refine sw_move F ⟨rfl, rfl, rfl⟩ rfl rfl fun A F => ?_
  refine sw_on F 2 rfl rfl rfl rfl rfl ?_
  refine sw_nil F ⟨rfl, rfl, rfl⟩ rfl rfl fun A F => ?_
  refine sw_on F 2 rfl rfl rfl rfl rfl ?_
  refine sw_fld F 1 ⟨rfl, rfl, rfl⟩ rfl (by kernel_rfl) rfl rfl fun A F => ?_
  refine sw_on F 2 rfl rfl rfl rfl rfl ?_
  refine sw_cell F M 1 ⟨rfl, rfl, rfl⟩ rfl rfl rfl (by kernel_rfl) rfl fun A F => ?_
  refine sw_on F 2 rfl rfl rfl rfl rfl ?_
  refine sw_move F ⟨rfl, rfl, rfl⟩ rfl rfl fun A F => ?_
  refine sw_on F 2 rfl rfl rfl rfl rfl ?_
  refine sw_add F ⟨rfl, rfl, rfl⟩ rfl rfl (by omega) rfl fun A F => ?_
  refine sw_on F 2 rfl rfl rfl rfl rfl ?_
  refine sw_move F ⟨rfl, rfl, rfl⟩ rfl rfl fun A F => ?_
  refine sw_on F 2 rfl rfl rfl rfl rfl ?_
  refine sw_add F ⟨rfl, rfl, rfl⟩ rfl rfl (by omega) rfl fun A F => ?_
  refine sw_on F 2 rfl rfl rfl rfl rfl ?_
  refine sw_rowsub F (n := ld.length) (lc := ld.length) (m := pb.length - 1 + 1) (k := pb.length + 1) (sz := 1) ⟨rfl, rfl, rfl⟩ rfl rfl rfl (by omega) (by omega) (by omega) Tryd.underlying47 (by kernel_rfl) rfl fun A F => ?_
  rw [show (pb.length - 1 + 1) * 1 = pb.length - 1 + 1 by omega, show pb.length + 1 - (pb.length - 1 + 1) = ((ld.drop (pb.length - 1 + 1)).take 1).length by rw [List.length_take, List.length_drop]; omega] at F
  refine sw_on F 2 rfl rfl rfl rfl rfl ?_
  refine sw_callR (by kernel_rfl) (tco_m (w0 := w) (M.flg (m := 1) 3 rfl (pb.length - 1 + 1)) (by rw [List.length_take]; omega)) F ⟨rfl, rfl, rfl⟩ rfl rfl ?_
  rintro _ w ⟨rfl, hb⟩
  refine ⟨_, rfl, fun A F => ?_⟩
  replace M := M.aft hb
  clear hb
  refine sw_pickF F ⟨rfl, rfl, rfl⟩ rfl rfl rfl fun A F => ?_
  refine sw_end ?_
  show Code.wp _ _ _ _ _
  refine sw_cond F rfl (fun hc3 => ?_) (fun hc3 => ?_)
  ·skip
   have hcon := hc3
   refine sw_seq ?_
   refine sw_reg ?_
   refine sw_build F _ [.int .i64 0, .int .i64 0, .int .i64 0] ⟨rfl, rfl, rfl⟩ rfl (by kernel_rfl) rfl fun A F => ?_
   refine sw_setAll F M 0 ⟨rfl, rfl, rfl⟩ rfl rfl rfl (by kernel_rfl) rfl rfl fun w M => ?_
   simp only [List.set_cons_zero, List.set_cons_succ] at M
   refine sw_end ?_
   show Code.wp _ _ _ _ _
   refine wp_ret ?_
   repeat (first | refine then_ret ?_ | refine block_ret ?_)
   refine sw_retbox F M 0 Tryd.results40 rfl rfl (by kernel_rfl) (by kernel_rfl) ⟨_, _, rfl, M.drop 0 rfl, ?_, rfl⟩
   show insV noI = _
   rw [show lastP pb ld 1 = noI by unfold lastP; rw [if_neg (by omega), if_pos hcon]]
  ·skip
   have hcon := hc3
   refine wp_skip ?_
   show Code.wp _ _ _ _ _
   refine sw_seq ?_
   refine sw_reg ?_
   refine sw_move F ⟨rfl, rfl, rfl⟩ rfl rfl fun A F => ?_
   refine sw_nil F ⟨rfl, rfl, rfl⟩ rfl rfl fun A F => ?_
   refine sw_fld F 0 ⟨rfl, rfl, rfl⟩ rfl (by kernel_rfl) rfl rfl fun A F => ?_
   refine sw_cell F M 1 ⟨rfl, rfl, rfl⟩ rfl rfl rfl (by kernel_rfl) rfl fun A F => ?_
   refine sw_move F ⟨rfl, rfl, rfl⟩ rfl rfl fun A F => ?_
   obtain ⟨u, hu⟩ : ∃ u, pb[pb.length - 1]? = some u := ⟨_, List.getElem?_eq_getElem (by omega)⟩
   obtain ⟨g, rfl, hrg⟩ := M.rowat 2 rfl (j := pb.length - 1) (d := u.flds) (by rw [List.getElem?_map, hu]; rfl)
   refine sw_at F 3 ⟨rfl, rfl, rfl⟩ rfl rfl (by omega) Tryd.underlying32 (by kernel_rfl) rfl fun A F => ?_
   refine sw_rng F (cs := [.int .i64 u.op, .int .i64 u.a, .int .i64 u.b]) hrg ⟨rfl, rfl, rfl⟩ rfl (by kernel_rfl) (by kernel_rfl) rfl fun A F => ?_
   refine sw_setAll F M 0 ⟨rfl, rfl, rfl⟩ rfl rfl rfl (by kernel_rfl) rfl rfl fun w M => ?_
   simp only [List.set_cons_zero, List.set_cons_succ] at M
   refine sw_end ?_
   show Code.wp _ _ _ _ _
   refine wp_ret ?_
   repeat (first | refine then_ret ?_ | refine block_ret ?_)
   refine sw_retbox F M 0 Tryd.results40 rfl rfl (by kernel_rfl) (by kernel_rfl) ⟨_, _, rfl, M.drop 0 rfl, ?_, rfl⟩
   show insV u = _
   rw [show lastP pb ld 1 = u by unfold lastP; rw [if_neg (by omega), if_neg (by rw [hcon]; decide), List.getD_eq_getElem?_getD, hu]; rfl]
set_option maxRecDepth 20000 in
set_option maxHeartbeats 8000000 in
theorem tlast2_m {b y lc : Nat} {la : Option Addr} {pb : List Ins} {ld : List Bool} (hl : pb.length < ld.length) (h2 : pb.length ≤ 2048) : MethE 40 [ptr b, .int .i64 2] (PEs b y la lc pb ld) fun v E2 => v = insV (lastP pb ld 2) ∧ E2 = PEs b y la lc pb ld := by
 refine ⟨by kernel_rfl, fun w0 E w M => ?_⟩
 simp only [List.cons_append, List.nil_append] at M
 refine sw_fn Tryd.func40 rfl 37 Tryd.ntmps40 rfl fun A F => ?_
 refine sw_seq ?_
 refine sw_reg ?_
 refine sw_alloc F M [.int .i64 0, .int .i64 0, .int .i64 0] ⟨rfl, rfl, rfl⟩ (by kernel_rfl) rfl fun x1 A w F M => ?_
 refine sw_end ?_
 show Code.wp _ _ _ _ _
 refine sw_seq ?_
 refine sw_reg ?_
 refine sw_move F ⟨rfl, rfl, rfl⟩ rfl rfl fun A F => ?_
 refine sw_nil F ⟨rfl, rfl, rfl⟩ rfl rfl fun A F => ?_
 refine sw_fld F 0 ⟨rfl, rfl, rfl⟩ rfl (by kernel_rfl) rfl rfl fun A F => ?_
 refine sw_cell F M 1 ⟨rfl, rfl, rfl⟩ rfl rfl rfl (by kernel_rfl) rfl fun A F => ?_
 refine sw_len F ⟨rfl, rfl, rfl⟩ rfl Tryd.underlying32 rfl fun A F => ?_
 refine sw_asg F ⟨rfl, rfl, rfl⟩ rfl rfl fun A F => ?_
 refine sw_end ?_
 show Code.wp _ _ _ _ _
 refine sw_seq ?_
 refine sw_reg ?_
 refine sw_move F ⟨rfl, rfl, rfl⟩ rfl rfl fun A F => ?_
 refine sw_move F ⟨rfl, rfl, rfl⟩ rfl rfl fun A F => ?_
 refine sw_sub F ⟨rfl, rfl, rfl⟩ rfl rfl (by omega) rfl fun A F => ?_
 refine sw_asg F ⟨rfl, rfl, rfl⟩ rfl rfl fun A F => ?_
 refine sw_end ?_
 show Code.wp _ _ _ _ _
 refine sw_seq ?_
 refine sw_seq ?_
 refine sw_reg ?_
 refine sw_move F ⟨rfl, rfl, rfl⟩ rfl rfl fun A F => ?_
 refine sw_lss F ⟨rfl, rfl, rfl⟩ rfl rfl rfl fun A F => ?_
 refine sw_move F ⟨rfl, rfl, rfl⟩ rfl rfl fun A F => ?_
 cases c2 : (decide ((((pb.length : Nat) : Int) - 2) < 0)) with
 | true =>
  rw [c2] at F
  have hm : pb.length < 2 := by have := of_decide_eq_true c2; omega
  refine sw_off F 2 rfl rfl rfl rfl rfl rfl rfl fun A F => ?_
  refine sw_off F 2 rfl rfl rfl rfl rfl rfl rfl fun A F => ?_
  refine sw_off F 2 rfl rfl rfl rfl rfl rfl rfl fun A F => ?_
  refine sw_off F 2 rfl rfl rfl rfl rfl rfl rfl fun A F => ?_
  refine sw_off F 2 rfl rfl rfl rfl rfl rfl rfl fun A F => ?_
  refine sw_off F 2 rfl rfl rfl rfl rfl rfl rfl fun A F => ?_
  refine sw_off F 2 rfl rfl rfl rfl rfl rfl rfl fun A F => ?_
  refine sw_off F 2 rfl rfl rfl rfl rfl rfl rfl fun A F => ?_
  refine sw_off F 2 rfl rfl rfl rfl rfl rfl rfl fun A F => ?_
  refine sw_off F 2 rfl rfl rfl rfl rfl rfl rfl fun A F => ?_
  refine sw_pickT F ⟨rfl, rfl, rfl⟩ rfl rfl rfl fun A F => ?_
  refine sw_end ?_
  show Code.wp _ _ _ _ _
  refine sw_true F rfl ?_
  refine sw_seq ?_
  refine sw_reg ?_
  refine sw_build F _ [.int .i64 0, .int .i64 0, .int .i64 0] ⟨rfl, rfl, rfl⟩ rfl (by kernel_rfl) rfl fun A F => ?_
  refine sw_setAll F M 0 ⟨rfl, rfl, rfl⟩ rfl rfl rfl (by kernel_rfl) rfl rfl fun w M => ?_
  simp only [List.set_cons_zero, List.set_cons_succ] at M
  refine sw_end ?_
  show Code.wp _ _ _ _ _
  refine wp_ret ?_
  repeat (first | refine then_ret ?_ | refine block_ret ?_)
  refine sw_retbox F M 0 Tryd.results40 rfl rfl (by kernel_rfl) (by kernel_rfl) ⟨_, _, rfl, M.drop 0 rfl, ?_, rfl⟩
  show insV noI = _
  rw [show lastP pb ld 2 = noI by unfold lastP; rw [if_pos hm]]
 | false =>
  rw [c2] at F
  have hm : 2 ≤ pb.length := by have := of_decide_eq_false c2; omega
  rw [show (((pb.length : Nat) : Int) - 2) = ((pb.length - 2 : Nat) : Int) by omega] at F
  refine sw_on F 2 rfl rfl rfl rfl rfl ?_
  refine sw_move F ⟨rfl, rfl, rfl⟩ rfl rfl fun A F => ?_
  refine sw_on F 2 rfl rfl rfl rfl rfl ?_
  refine sw_nil F ⟨rfl, rfl, rfl⟩ rfl rfl fun A F => ?_
  refine sw_on F 2 rfl rfl rfl rfl rfl ?_
  refine sw_fld F 1 ⟨rfl, rfl, rfl⟩ rfl (by kernel_rfl) rfl rfl fun A F => ?_
  refine sw_on F 2 rfl rfl rfl rfl rfl ?_
  refine sw_cell F M 1 ⟨rfl, rfl, rfl⟩ rfl rfl rfl (by kernel_rfl) rfl fun A F => ?_
  refine sw_on F 2 rfl rfl rfl rfl rfl ?_
  refine sw_move F ⟨rfl, rfl, rfl⟩ rfl rfl fun A F => ?_
  refine sw_on F 2 rfl rfl rfl rfl rfl ?_
  refine sw_add F ⟨rfl, rfl, rfl⟩ rfl rfl (by omega) rfl fun A F => ?_
  refine sw_on F 2 rfl rfl rfl rfl rfl ?_
  refine sw_move F ⟨rfl, rfl, rfl⟩ rfl rfl fun A F => ?_
  refine sw_on F 2 rfl rfl rfl rfl rfl ?_
  refine sw_add F ⟨rfl, rfl, rfl⟩ rfl rfl (by omega) rfl fun A F => ?_
  refine sw_on F 2 rfl rfl rfl rfl rfl ?_
  refine sw_rowsub F (n := ld.length) (lc := ld.length) (m := pb.length - 2 + 1) (k := pb.length + 1) (sz := 1) ⟨rfl, rfl, rfl⟩ rfl rfl rfl (by omega) (by omega) (by omega) Tryd.underlying47 (by kernel_rfl) rfl fun A F => ?_
  rw [show (pb.length - 2 + 1) * 1 = pb.length - 2 + 1 by omega, show pb.length + 1 - (pb.length - 2 + 1) = ((ld.drop (pb.length - 2 + 1)).take 2).length by rw [List.length_take, List.length_drop]; omega] at F
  refine sw_on F 2 rfl rfl rfl rfl rfl ?_
  refine sw_callR (by kernel_rfl) (tco_m (w0 := w) (M.flg (m := 2) 3 rfl (pb.length - 2 + 1)) (by rw [List.length_take]; omega)) F ⟨rfl, rfl, rfl⟩ rfl rfl ?_
  rintro _ w ⟨rfl, hb⟩
  refine ⟨_, rfl, fun A F => ?_⟩
  replace M := M.aft hb
  clear hb
  refine sw_pickF F ⟨rfl, rfl, rfl⟩ rfl rfl rfl fun A F => ?_
  refine sw_end ?_
  show Code.wp _ _ _ _ _
  refine sw_cond F rfl (fun hc3 => ?_) (fun hc3 => ?_)
  ·skip
   have hcon := hc3
   refine sw_seq ?_
   refine sw_reg ?_
   refine sw_build F _ [.int .i64 0, .int .i64 0, .int .i64 0] ⟨rfl, rfl, rfl⟩ rfl (by kernel_rfl) rfl fun A F => ?_
   refine sw_setAll F M 0 ⟨rfl, rfl, rfl⟩ rfl rfl rfl (by kernel_rfl) rfl rfl fun w M => ?_
   simp only [List.set_cons_zero, List.set_cons_succ] at M
   refine sw_end ?_
   show Code.wp _ _ _ _ _
   refine wp_ret ?_
   repeat (first | refine then_ret ?_ | refine block_ret ?_)
   refine sw_retbox F M 0 Tryd.results40 rfl rfl (by kernel_rfl) (by kernel_rfl) ⟨_, _, rfl, M.drop 0 rfl, ?_, rfl⟩
   show insV noI = _
   rw [show lastP pb ld 2 = noI by unfold lastP; rw [if_neg (by omega), if_pos hcon]]
  ·skip
   have hcon := hc3
   refine wp_skip ?_
   show Code.wp _ _ _ _ _
   refine sw_seq ?_
   refine sw_reg ?_
   refine sw_move F ⟨rfl, rfl, rfl⟩ rfl rfl fun A F => ?_
   refine sw_nil F ⟨rfl, rfl, rfl⟩ rfl rfl fun A F => ?_
   refine sw_fld F 0 ⟨rfl, rfl, rfl⟩ rfl (by kernel_rfl) rfl rfl fun A F => ?_
   refine sw_cell F M 1 ⟨rfl, rfl, rfl⟩ rfl rfl rfl (by kernel_rfl) rfl fun A F => ?_
   refine sw_move F ⟨rfl, rfl, rfl⟩ rfl rfl fun A F => ?_
   obtain ⟨u, hu⟩ : ∃ u, pb[pb.length - 2]? = some u := ⟨_, List.getElem?_eq_getElem (by omega)⟩
   obtain ⟨g, rfl, hrg⟩ := M.rowat 2 rfl (j := pb.length - 2) (d := u.flds) (by rw [List.getElem?_map, hu]; rfl)
   refine sw_at F 3 ⟨rfl, rfl, rfl⟩ rfl rfl (by omega) Tryd.underlying32 (by kernel_rfl) rfl fun A F => ?_
   refine sw_rng F (cs := [.int .i64 u.op, .int .i64 u.a, .int .i64 u.b]) hrg ⟨rfl, rfl, rfl⟩ rfl (by kernel_rfl) (by kernel_rfl) rfl fun A F => ?_
   refine sw_setAll F M 0 ⟨rfl, rfl, rfl⟩ rfl rfl rfl (by kernel_rfl) rfl rfl fun w M => ?_
   simp only [List.set_cons_zero, List.set_cons_succ] at M
   refine sw_end ?_
   show Code.wp _ _ _ _ _
   refine wp_ret ?_
   repeat (first | refine then_ret ?_ | refine block_ret ?_)
   refine sw_retbox F M 0 Tryd.results40 rfl rfl (by kernel_rfl) (by kernel_rfl) ⟨_, _, rfl, M.drop 0 rfl, ?_, rfl⟩
   show insV u = _
   rw [show lastP pb ld 2 = u by unfold lastP; rw [if_neg (by omega), if_neg (by rw [hcon]; decide), List.getD_eq_getElem?_getD, hu]; rfl]
end Go.Proofs.YtemjajljpoaioaaDoor
