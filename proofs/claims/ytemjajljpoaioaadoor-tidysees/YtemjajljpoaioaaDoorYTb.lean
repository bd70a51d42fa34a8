import Derived.Test.YtemjajljpoaioaaDoorYTa
namespace Go.Proofs.YtemjajljpoaioaaDoor
open Go.RowKit
set_option linter.unusedVariables false
set_option linter.unusedSimpArgs false
set_option maxRecDepth 20000
set_option maxHeartbeats 8000000
def SmI (b : List Ins) : Prop := ∀ x ∈ b, 0 ≤ x.a ∧ x.a ≤ mx
theorem lastP_sm {pb : List Ins} (h : SmI pb) (ld : List Bool) (m : Nat) : 0 ≤ (lastP pb ld m).a ∧ (lastP pb ld m).a ≤ mx := by
 unfold lastP
 split
 ·decide
 ·split
  ·decide
  ·rw [List.getD_eq_getElem?_getD]
   cases e : pb[pb.length - m]? with
   | none => decide
   | some x => exact h x (List.mem_of_getElem? e)
theorem rg_push {n : Int} (h : 0 ≤ n ∧ n ≤ mx) : RgI ⟨1, n, 0⟩ := by
 unfold mx at h
 exact ⟨by show _ ≤ (1 : Int) ∧ (1 : Int) ≤ _; decide, by show _ ≤ n ∧ n ≤ _; omega, by show _ ≤ (0 : Int) ∧ (0 : Int) ≤ _; decide⟩
theorem rg_jump {i : Ins} (h : RgI i) : RgI ⟨14, i.a, 0⟩ := ⟨by show _ ≤ (14 : Int) ∧ (14 : Int) ≤ _; decide, h.2.1, by show _ ≤ (0 : Int) ∧ (0 : Int) ≤ _; decide⟩
set_option maxRecDepth 20000 in
set_option maxHeartbeats 8000000 in
theorem topP_m {b y lc : Nat} {la : Option Addr} {pb : List Ins} {ld : List Bool} {i : Ins} (hS : SmI pb) (hR : RgI i) (hl : pb.length < ld.length) (h2k : pb.length ≤ 2048) : MethE 46 [ptr b, insV i] (PEs b y la lc pb ld) fun v E2 => v = .tuple #[] ∧ ∃ la' lc', E2 = PEs b y la' lc' (opP pb ld i) ld := by
 refine ⟨by kernel_rfl, fun w0 E w M => ?_⟩
 simp only [List.cons_append, List.nil_append] at M
 have hcap := h2k
 refine sw_fn Tryd.func46 rfl 42 Tryd.ntmps46 rfl fun A F => ?_
 refine sw_seq ?_
 refine sw_reg ?_
 refine sw_box F M [.int .i64 i.op, .int .i64 i.a, .int .i64 i.b] ⟨rfl, rfl, rfl⟩ rfl rfl rfl fun x1 A w F M => ?_
 refine sw_end ?_
 show Code.wp _ _ _ _ _
 refine sw_seq ?_
 refine sw_reg ?_
 refine sw_move F ⟨rfl, rfl, rfl⟩ rfl rfl fun A F => ?_
 refine sw_callP [.box x1 [.int .i64 i.op, .int .i64 i.a, .int .i64 i.b] 31] (tlast2_m (b := b) (y := y) (la := la) (lc := lc) (pb := pb) (ld := ld) hl h2k) F M ⟨rfl, rfl, rfl⟩ rfl rfl ?_
 rintro _ _ A w ⟨rfl, rfl⟩ F M
 simp only [List.cons_append, List.nil_append] at M
 generalize hl2 : lastP pb ld 2 = l2 at F
 unfold insV at F
 refine sw_move F ⟨rfl, rfl, rfl⟩ rfl rfl fun A F => ?_
 refine sw_callP [.box x1 [.int .i64 i.op, .int .i64 i.a, .int .i64 i.b] 31] (tlast1_m (b := b) (y := y) (la := la) (lc := lc) (pb := pb) (ld := ld) hl h2k) F M ⟨rfl, rfl, rfl⟩ rfl rfl ?_
 rintro _ _ A w ⟨rfl, rfl⟩ F M
 simp only [List.cons_append, List.nil_append] at M
 generalize hl1 : lastP pb ld 1 = l1 at F
 unfold insV at F
 refine sw_alloc F M [.int .i64 0, .int .i64 0, .int .i64 0] ⟨rfl, rfl, rfl⟩ (by kernel_rfl) rfl fun x2 A w F M => ?_
 refine sw_alloc F M [.int .i64 0, .int .i64 0, .int .i64 0] ⟨rfl, rfl, rfl⟩ (by kernel_rfl) rfl fun x3 A w F M => ?_
 refine sw_setAll F M 1 ⟨rfl, rfl, rfl⟩ rfl rfl rfl (by kernel_rfl) rfl rfl fun w M => ?_
 simp only [List.set_cons_zero, List.set_cons_succ] at M
 refine sw_setAll F M 0 ⟨rfl, rfl, rfl⟩ rfl rfl rfl (by kernel_rfl) rfl rfl fun w M => ?_
 simp only [List.set_cons_zero, List.set_cons_succ] at M
 refine sw_end ?_
 show Code.wp _ _ _ _ _
 refine sw_seq ?_
 refine sw_reg ?_
 refine sw_fld F 0 ⟨rfl, rfl, rfl⟩ rfl (by kernel_rfl) rfl rfl fun A F => ?_
 refine sw_cell F M 2 ⟨rfl, rfl, rfl⟩ rfl rfl rfl (by kernel_rfl) rfl fun A F => ?_
 refine sw_fld F 1 ⟨rfl, rfl, rfl⟩ rfl (by kernel_rfl) rfl rfl fun A F => ?_
 refine sw_cell F M 1 ⟨rfl, rfl, rfl⟩ rfl rfl rfl (by kernel_rfl) rfl fun A F => ?_
 refine sw_fld F 1 ⟨rfl, rfl, rfl⟩ rfl (by kernel_rfl) rfl rfl fun A F => ?_
 refine sw_cell F M 0 ⟨rfl, rfl, rfl⟩ rfl rfl rfl (by kernel_rfl) rfl fun A F => ?_
 have q2 : 0 ≤ l2.a ∧ l2.a ≤ mx := by rw [← hl2]; exact lastP_sm hS _ _
 have q1 : 0 ≤ l1.a ∧ l1.a ≤ mx := by rw [← hl1]; exact lastP_sm hS _ _
 refine sw_callR (by kernel_rfl) (rktwo_any i.op l2.a l1.a _ q2 q1) F ⟨rfl, rfl, rfl⟩ rfl rfl ?_
 rintro _ w ⟨rfl, hb⟩
 refine ⟨_, rfl, fun A F => ?_⟩
 replace M := M.aft hb
 clear hb
 generalize hr : two i.op l2.a l1.a = r at F
 unfold okV at F
 refine sw_move F ⟨rfl, rfl, rfl⟩ rfl rfl fun A F => ?_
 refine sw_extr F ⟨rfl, rfl, rfl⟩ rfl rfl rfl fun A F => ?_
 refine sw_extr F ⟨rfl, rfl, rfl⟩ rfl rfl rfl fun A F => ?_
 refine sw_asg F ⟨rfl, rfl, rfl⟩ rfl rfl fun A F => ?_
 refine sw_asg F ⟨rfl, rfl, rfl⟩ rfl rfl fun A F => ?_
 refine sw_end ?_
 show Code.wp _ _ _ _ _
 refine sw_seq ?_
 refine sw_seq ?_
 refine sw_reg ?_
 refine sw_move F ⟨rfl, rfl, rfl⟩ rfl rfl fun A F => ?_
 refine sw_not F ⟨rfl, rfl, rfl⟩ rfl rfl fun A F => ?_
 refine sw_move F ⟨rfl, rfl, rfl⟩ rfl rfl fun A F => ?_
 cases c4 : (!r.isSome) with
 | true =>
  rw [c4] at F
  refine sw_off F 2 rfl rfl rfl rfl rfl rfl rfl fun A F => ?_
  refine sw_off F 2 rfl rfl rfl rfl rfl rfl rfl fun A F => ?_
  refine sw_off F 2 rfl rfl rfl rfl rfl rfl rfl fun A F => ?_
  refine sw_pickT F ⟨rfl, rfl, rfl⟩ rfl rfl rfl fun A F => ?_
  refine sw_move F ⟨rfl, rfl, rfl⟩ rfl rfl fun A F => ?_
  refine sw_off F 7 rfl rfl rfl rfl rfl rfl rfl fun A F => ?_
  refine sw_off F 7 rfl rfl rfl rfl rfl rfl rfl fun A F => ?_
  refine sw_off F 7 rfl rfl rfl rfl rfl rfl rfl fun A F => ?_
  refine sw_pickT F ⟨rfl, rfl, rfl⟩ rfl rfl rfl fun A F => ?_
  refine sw_end ?_
  show Code.wp _ _ _ _ _
  refine sw_true F rfl ?_
  refine sw_seq ?_
  refine sw_reg ?_
  refine sw_move F ⟨rfl, rfl, rfl⟩ rfl rfl fun A F => ?_
  refine sw_all F M 2 ⟨rfl, rfl, rfl⟩ rfl rfl (by kernel_rfl) (by kernel_rfl) rfl fun A F => ?_
  refine sw_callP [.box x3 [.int .i64 l1.op, .int .i64 l1.a, .int .i64 l1.b] 31, .box x2 [.int .i64 l2.op, .int .i64 l2.a, .int .i64 l2.b] 31, .box x1 [.int .i64 i.op, .int .i64 i.a, .int .i64 i.b] 31] (tput_m (b := b) (y := y) (la := la) (lc := lc) (pb := pb) (ld := ld) (i := i) (hR) (by have := hcap;  omega)) F M ⟨rfl, rfl, rfl⟩ rfl rfl ?_
  rintro _ _ A w ⟨_, la1, lc1, rfl⟩ F M
  simp only [List.cons_append, List.nil_append] at M
  refine sw_end ?_
  show Code.wp _ _ _ _ _
  refine wp_ret ?_
  repeat (first | refine then_ret ?_ | refine block_ret ?_)
  have hfin : opP pb ld i = (pb ++ [i]) := by
   have hn : r = none := by simpa using c4
   unfold opP; rw [hl2, hl1, hr, hn]
  rw [hfin]
  exact sw_retnone F Tryd.results46 ⟨_, PEs b y la1 lc1 (pb ++ [i]) ld, rfl, (((M.drop 0 rfl).drop 0 rfl).drop 0 rfl), rfl, _, _, rfl⟩
 | false =>
  rw [c4] at F
  refine sw_on F 2 rfl rfl rfl rfl rfl ?_
  refine sw_fld F 0 ⟨rfl, rfl, rfl⟩ rfl (by kernel_rfl) rfl rfl fun A F => ?_
  refine sw_on F 2 rfl rfl rfl rfl rfl ?_
  refine sw_cell F M 1 ⟨rfl, rfl, rfl⟩ rfl rfl rfl (by kernel_rfl) rfl fun A F => ?_
  refine sw_on F 2 rfl rfl rfl rfl rfl ?_
  refine sw_neq F ⟨rfl, rfl, rfl⟩ rfl rfl rfl fun A F => ?_
  refine sw_pickF F ⟨rfl, rfl, rfl⟩ rfl rfl rfl fun A F => ?_
  refine sw_move F ⟨rfl, rfl, rfl⟩ rfl rfl fun A F => ?_
  cases c5 : (l2.op != 1) with
  | true =>
   rw [c5] at F
   refine sw_off F 7 rfl rfl rfl rfl rfl rfl rfl fun A F => ?_
   refine sw_off F 7 rfl rfl rfl rfl rfl rfl rfl fun A F => ?_
   refine sw_off F 7 rfl rfl rfl rfl rfl rfl rfl fun A F => ?_
   refine sw_pickT F ⟨rfl, rfl, rfl⟩ rfl rfl rfl fun A F => ?_
   refine sw_end ?_
   show Code.wp _ _ _ _ _
   refine sw_true F rfl ?_
   refine sw_seq ?_
   refine sw_reg ?_
   refine sw_move F ⟨rfl, rfl, rfl⟩ rfl rfl fun A F => ?_
   refine sw_all F M 2 ⟨rfl, rfl, rfl⟩ rfl rfl (by kernel_rfl) (by kernel_rfl) rfl fun A F => ?_
   refine sw_callP [.box x3 [.int .i64 l1.op, .int .i64 l1.a, .int .i64 l1.b] 31, .box x2 [.int .i64 l2.op, .int .i64 l2.a, .int .i64 l2.b] 31, .box x1 [.int .i64 i.op, .int .i64 i.a, .int .i64 i.b] 31] (tput_m (b := b) (y := y) (la := la) (lc := lc) (pb := pb) (ld := ld) (i := i) (hR) (by have := hcap;  omega)) F M ⟨rfl, rfl, rfl⟩ rfl rfl ?_
   rintro _ _ A w ⟨_, la2, lc2, rfl⟩ F M
   simp only [List.cons_append, List.nil_append] at M
   refine sw_end ?_
   show Code.wp _ _ _ _ _
   refine wp_ret ?_
   repeat (first | refine then_ret ?_ | refine block_ret ?_)
   have hfin : opP pb ld i = (pb ++ [i]) := by
    unfold opP; rw [hl2, hl1]
    split
    ·exact if_neg fun q => (by simpa using c5 : l2.op ≠ 1) q.1
    ·rfl
   rw [hfin]
   exact sw_retnone F Tryd.results46 ⟨_, PEs b y la2 lc2 (pb ++ [i]) ld, rfl, (((M.drop 0 rfl).drop 0 rfl).drop 0 rfl), rfl, _, _, rfl⟩
  | false =>
   rw [c5] at F
   refine sw_on F 7 rfl rfl rfl rfl rfl ?_
   refine sw_fld F 0 ⟨rfl, rfl, rfl⟩ rfl (by kernel_rfl) rfl rfl fun A F => ?_
   refine sw_on F 7 rfl rfl rfl rfl rfl ?_
   refine sw_cell F M 0 ⟨rfl, rfl, rfl⟩ rfl rfl rfl (by kernel_rfl) rfl fun A F => ?_
   refine sw_on F 7 rfl rfl rfl rfl rfl ?_
   refine sw_neq F ⟨rfl, rfl, rfl⟩ rfl rfl rfl fun A F => ?_
   refine sw_pickF F ⟨rfl, rfl, rfl⟩ rfl rfl rfl fun A F => ?_
   refine sw_end ?_
   show Code.wp _ _ _ _ _
   refine sw_cond F rfl (fun hc6 => ?_) (fun hc6 => ?_)
   ·skip
    refine sw_seq ?_
    refine sw_reg ?_
    refine sw_move F ⟨rfl, rfl, rfl⟩ rfl rfl fun A F => ?_
    refine sw_all F M 2 ⟨rfl, rfl, rfl⟩ rfl rfl (by kernel_rfl) (by kernel_rfl) rfl fun A F => ?_
    refine sw_callP [.box x3 [.int .i64 l1.op, .int .i64 l1.a, .int .i64 l1.b] 31, .box x2 [.int .i64 l2.op, .int .i64 l2.a, .int .i64 l2.b] 31, .box x1 [.int .i64 i.op, .int .i64 i.a, .int .i64 i.b] 31] (tput_m (b := b) (y := y) (la := la) (lc := lc) (pb := pb) (ld := ld) (i := i) (hR) (by have := hcap;  omega)) F M ⟨rfl, rfl, rfl⟩ rfl rfl ?_
    rintro _ _ A w ⟨_, la3, lc3, rfl⟩ F M
    simp only [List.cons_append, List.nil_append] at M
    refine sw_end ?_
    show Code.wp _ _ _ _ _
    refine wp_ret ?_
    repeat (first | refine then_ret ?_ | refine block_ret ?_)
    have hfin : opP pb ld i = (pb ++ [i]) := by
     unfold opP; rw [hl2, hl1]
     split
     ·exact if_neg fun q => (by simpa using hc6 : l1.op ≠ 1) q.2
     ·rfl
    rw [hfin]
    exact sw_retnone F Tryd.results46 ⟨_, PEs b y la3 lc3 (pb ++ [i]) ld, rfl, (((M.drop 0 rfl).drop 0 rfl).drop 0 rfl), rfl, _, _, rfl⟩
   ·skip
    refine wp_skip ?_
    show Code.wp _ _ _ _ _
    refine sw_seq ?_
    refine sw_reg ?_
    refine sw_move F ⟨rfl, rfl, rfl⟩ rfl rfl fun A F => ?_
    have o2 : l2.op = 1 := by simpa using c5
    have o1 : l1.op = 1 := by simpa using hc6
    have hrs : ∃ n, r = some n := Option.isSome_iff_exists.1 (by simpa using c4)
    have hlen2 : 2 ≤ pb.length := by
     obtain ⟨p, l, u, e, _⟩ := lastP_two (pb := pb) (ld := ld) (o := 1) (by rw [hl2]; exact o2) (by decide)
     rw [e]; simp
    refine sw_callP [.box x3 [.int .i64 l1.op, .int .i64 l1.a, .int .i64 l1.b] 31, .box x2 [.int .i64 l2.op, .int .i64 l2.a, .int .i64 l2.b] 31, .box x1 [.int .i64 i.op, .int .i64 i.a, .int .i64 i.b] 31] (tdrop2_m (b := b) (y := y) (la := la) (lc := lc) (pb := pb) (ld := ld) (hlen2) (by omega)) F M ⟨rfl, rfl, rfl⟩ rfl rfl ?_
    rintro _ _ A w ⟨_, rfl⟩ F M
    simp only [List.cons_append, List.nil_append] at M
    refine sw_end ?_
    show Code.wp _ _ _ _ _
    refine sw_reg ?_
    refine sw_move F ⟨rfl, rfl, rfl⟩ rfl rfl fun A F => ?_
    refine sw_move F ⟨rfl, rfl, rfl⟩ rfl rfl fun A F => ?_
    refine sw_callP [.box x3 [.int .i64 l1.op, .int .i64 l1.a, .int .i64 l1.b] 31, .box x2 [.int .i64 l2.op, .int .i64 l2.a, .int .i64 l2.b] 31, .box x1 [.int .i64 i.op, .int .i64 i.a, .int .i64 i.b] 31] (tpush_m (b := b) (y := y) (la := la) (lc := lc) (pb := (pb.take (pb.length - 2))) (ld := ld) (n := (r.getD 0)) (rg_push (by obtain ⟨n, hn⟩ := hrs; rw [hn]; exact two_in q2 q1 (hr.trans hn))) (by have := hcap; rw [List.length_take]; omega)) F M ⟨rfl, rfl, rfl⟩ rfl rfl ?_
    rintro _ _ A w ⟨_, la4, lc4, rfl⟩ F M
    simp only [List.cons_append, List.nil_append] at M
    refine sw_end ?_
    repeat (refine block_norm ?_)
    have hfin : opP pb ld i = ((pb.take (pb.length - 2)) ++ [(⟨1, (r.getD 0), 0⟩ : Ins)]) := by
     obtain ⟨n, rfl⟩ := hrs
     unfold opP; rw [hl2, hl1, hr]
     exact if_pos ⟨o2, o1⟩
    rw [hfin]
    exact sw_endnone F Tryd.results46 ⟨_, PEs b y la4 lc4 ((pb.take (pb.length - 2)) ++ [(⟨1, (r.getD 0), 0⟩ : Ins)]) ld, rfl, (((M.drop 0 rfl).drop 0 rfl).drop 0 rfl), rfl, _, _, rfl⟩
set_option maxRecDepth 20000 in
set_option maxHeartbeats 8000000 in
theorem ttake_m {b y lc : Nat} {la : Option Addr} {pb : List Ins} {ld : List Bool} {i : Ins} (hS : SmI pb) (hR : RgI i) (hl : pb.length < ld.length) (h2k : pb.length ≤ 2048) : MethE 29 [ptr b, insV i] (PEs b y la lc pb ld) fun v E2 => v = .tuple #[] ∧ ∃ la' lc', E2 = PEs b y la' lc' (takeP pb ld i) ld := by
 refine ⟨by kernel_rfl, fun w0 E w M => ?_⟩
 simp only [List.cons_append, List.nil_append] at M
 have hcap := h2k
 refine sw_fn Tryd.func29 rfl 56 Tryd.ntmps29 rfl fun A F => ?_
 refine sw_seq ?_
 refine sw_reg ?_
 refine sw_box F M [.int .i64 i.op, .int .i64 i.a, .int .i64 i.b] ⟨rfl, rfl, rfl⟩ rfl rfl rfl fun x1 A w F M => ?_
 refine sw_end ?_
 show Code.wp _ _ _ _ _
 refine sw_seq ?_
 refine sw_reg ?_
 refine sw_move F ⟨rfl, rfl, rfl⟩ rfl rfl fun A F => ?_
 refine sw_callP [.box x1 [.int .i64 i.op, .int .i64 i.a, .int .i64 i.b] 31] (tlast1_m (b := b) (y := y) (la := la) (lc := lc) (pb := pb) (ld := ld) hl h2k) F M ⟨rfl, rfl, rfl⟩ rfl rfl ?_
 rintro _ _ A w ⟨rfl, rfl⟩ F M
 simp only [List.cons_append, List.nil_append] at M
 generalize hu : lastP pb ld 1 = u at F
 unfold insV at F
 refine sw_alloc F M [.int .i64 0, .int .i64 0, .int .i64 0] ⟨rfl, rfl, rfl⟩ (by kernel_rfl) rfl fun x2 A w F M => ?_
 refine sw_setAll F M 0 ⟨rfl, rfl, rfl⟩ rfl rfl rfl (by kernel_rfl) rfl rfl fun w M => ?_
 simp only [List.set_cons_zero, List.set_cons_succ] at M
 refine sw_end ?_
 show Code.wp _ _ _ _ _
 refine wp_block ?_
 refine sw_seq ?_
 refine sw_reg ?_
 refine sw_fld F 0 ⟨rfl, rfl, rfl⟩ rfl (by kernel_rfl) rfl rfl fun A F => ?_
 refine sw_cell F M 1 ⟨rfl, rfl, rfl⟩ rfl rfl rfl (by kernel_rfl) rfl fun A F => ?_
 refine sw_eql F ⟨rfl, rfl, rfl⟩ rfl rfl rfl fun A F => ?_
 refine sw_move F ⟨rfl, rfl, rfl⟩ rfl rfl fun A F => ?_
 cases c3 : (i.op == 2) with
 | true =>
  rw [c3] at F
  refine sw_on F 3 rfl rfl rfl rfl rfl ?_
  refine sw_all F M 0 ⟨rfl, rfl, rfl⟩ rfl rfl (by kernel_rfl) (by kernel_rfl) rfl fun A F => ?_
  refine sw_on F 3 rfl rfl rfl rfl rfl ?_
  refine sw_callR (by kernel_rfl) (tidle_any u _) F ⟨rfl, rfl, rfl⟩ rfl rfl ?_
  rintro _ w ⟨rfl, hb⟩
  refine ⟨_, rfl, fun A F => ?_⟩
  replace M := M.aft hb
  clear hb
  refine sw_pickT F ⟨rfl, rfl, rfl⟩ rfl rfl rfl fun A F => ?_
  refine sw_asg F ⟨rfl, rfl, rfl⟩ rfl rfl fun A F => ?_
  refine sw_end ?_
  show Code.wp _ _ _ _ _
  refine sw_cond F rfl (fun hc4 => ?_) (fun hc4 => ?_)
  ·skip
   refine sw_reg ?_
   refine sw_move F ⟨rfl, rfl, rfl⟩ rfl rfl fun A F => ?_
   have hlen1 : 1 ≤ pb.length := by
    obtain ⟨p, v, e, _⟩ := lastP_one (pb := pb) (ld := ld) (o := u.op) (by rw [hu]) (fun q => by
     have := hc4
     simp [idle, q] at this)
    rw [e]; simp
   refine sw_callP [.box x2 [.int .i64 u.op, .int .i64 u.a, .int .i64 u.b] 31, .box x1 [.int .i64 i.op, .int .i64 i.a, .int .i64 i.b] 31] (tdrop1_m (b := b) (y := y) (la := la) (lc := lc) (pb := pb) (ld := ld) (hlen1) (by omega)) F M ⟨rfl, rfl, rfl⟩ rfl rfl ?_
   rintro _ _ A w ⟨_, rfl⟩ F M
   simp only [List.cons_append, List.nil_append] at M
   refine sw_end ?_
   repeat (refine block_norm ?_)
   have hfin : takeP pb ld i = (pb.take (pb.length - 1)) := by
    unfold takeP; rw [hu]
    rw [if_pos (show i.op = 2 ∧ idle u = true from ⟨(by simpa using c3 : i.op = 2), hc4⟩)]
   rw [hfin]
   exact sw_endnone F Tryd.results29 ⟨_, PEs b y la lc (pb.take (pb.length - 1)) ld, rfl, ((M.drop 0 rfl).drop 0 rfl), rfl, _, _, rfl⟩
  ·skip
   refine sw_seq ?_
   refine sw_reg ?_
   refine sw_fld F 0 ⟨rfl, rfl, rfl⟩ rfl (by kernel_rfl) rfl rfl fun A F => ?_
   refine sw_cell F M 1 ⟨rfl, rfl, rfl⟩ rfl rfl rfl (by kernel_rfl) rfl fun A F => ?_
   refine sw_eql F ⟨rfl, rfl, rfl⟩ rfl rfl rfl fun A F => ?_
   refine sw_move F ⟨rfl, rfl, rfl⟩ rfl rfl fun A F => ?_
   cases c5 : (i.op == 13) with
   | true =>
    rw [c5] at F
    refine sw_on F 3 rfl rfl rfl rfl rfl ?_
    refine sw_fld F 0 ⟨rfl, rfl, rfl⟩ rfl (by kernel_rfl) rfl rfl fun A F => ?_
    refine sw_on F 3 rfl rfl rfl rfl rfl ?_
    refine sw_cell F M 0 ⟨rfl, rfl, rfl⟩ rfl rfl rfl (by kernel_rfl) rfl fun A F => ?_
    refine sw_on F 3 rfl rfl rfl rfl rfl ?_
    refine sw_eql F ⟨rfl, rfl, rfl⟩ rfl rfl rfl fun A F => ?_
    refine sw_pickT F ⟨rfl, rfl, rfl⟩ rfl rfl rfl fun A F => ?_
    refine sw_asg F ⟨rfl, rfl, rfl⟩ rfl rfl fun A F => ?_
    refine sw_end ?_
    show Code.wp _ _ _ _ _
    refine sw_cond F rfl (fun hc6 => ?_) (fun hc6 => ?_)
    ·skip
     refine sw_seq ?_
     refine sw_reg ?_
     refine sw_move F ⟨rfl, rfl, rfl⟩ rfl rfl fun A F => ?_
     have hlen1 : 1 ≤ pb.length := by
      obtain ⟨p, v, e, _⟩ := lastP_one (pb := pb) (ld := ld) (o := u.op) (by rw [hu]) (by rw [show u.op = 1 by simpa using hc6]; decide)
      rw [e]; simp
     refine sw_callP [.box x2 [.int .i64 u.op, .int .i64 u.a, .int .i64 u.b] 31, .box x1 [.int .i64 i.op, .int .i64 i.a, .int .i64 i.b] 31] (tdrop1_m (b := b) (y := y) (la := la) (lc := lc) (pb := pb) (ld := ld) (hlen1) (by omega)) F M ⟨rfl, rfl, rfl⟩ rfl rfl ?_
     rintro _ _ A w ⟨_, rfl⟩ F M
     simp only [List.cons_append, List.nil_append] at M
     refine sw_end ?_
     show Code.wp _ _ _ _ _
     refine sw_reg ?_
     refine sw_move F ⟨rfl, rfl, rfl⟩ rfl rfl fun A F => ?_
     refine sw_fld F 1 ⟨rfl, rfl, rfl⟩ rfl (by kernel_rfl) rfl rfl fun A F => ?_
     refine sw_cell F M 0 ⟨rfl, rfl, rfl⟩ rfl rfl rfl (by kernel_rfl) rfl fun A F => ?_
     refine sw_eql F ⟨rfl, rfl, rfl⟩ rfl rfl rfl fun A F => ?_
     refine sw_callR (by kernel_rfl) (truth_any (u.a == 0) _) F ⟨rfl, rfl, rfl⟩ rfl rfl ?_
     rintro _ w ⟨rfl, hb⟩
     refine ⟨_, rfl, fun A F => ?_⟩
     replace M := M.aft hb
     clear hb
     refine sw_callP [.box x2 [.int .i64 u.op, .int .i64 u.a, .int .i64 u.b] 31, .box x1 [.int .i64 i.op, .int .i64 i.a, .int .i64 i.b] 31] (tpush_m (b := b) (y := y) (la := la) (lc := lc) (pb := (pb.take (pb.length - 1))) (ld := ld) (n := (tr (u.a == 0))) (rg_push (tr_in _)) (by have := hcap; rw [List.length_take]; omega)) F M ⟨rfl, rfl, rfl⟩ rfl rfl ?_
     rintro _ _ A w ⟨_, la1, lc1, rfl⟩ F M
     simp only [List.cons_append, List.nil_append] at M
     refine sw_end ?_
     repeat (refine block_norm ?_)
     have hfin : takeP pb ld i = ((pb.take (pb.length - 1)) ++ [(⟨1, (tr (u.a == 0)), 0⟩ : Ins)]) := by
      unfold takeP; rw [hu]
      rw [if_neg (show ¬ (i.op = 2 ∧ idle u = true) from fun q => by rw [hc4] at q; exact absurd q.2 (by decide))]
      rw [if_pos (show i.op = 13 ∧ u.op = 1 from ⟨(by simpa using c5 : i.op = 13), (by simpa using hc6 : u.op = 1)⟩)]
      rfl
     rw [hfin]
     exact sw_endnone F Tryd.results29 ⟨_, PEs b y la1 lc1 ((pb.take (pb.length - 1)) ++ [(⟨1, (tr (u.a == 0)), 0⟩ : Ins)]) ld, rfl, ((M.drop 0 rfl).drop 0 rfl), rfl, _, _, rfl⟩
    ·skip
     refine sw_seq ?_
     refine sw_reg ?_
     refine sw_fld F 0 ⟨rfl, rfl, rfl⟩ rfl (by kernel_rfl) rfl rfl fun A F => ?_
     refine sw_cell F M 1 ⟨rfl, rfl, rfl⟩ rfl rfl rfl (by kernel_rfl) rfl fun A F => ?_
     refine sw_eql F ⟨rfl, rfl, rfl⟩ rfl rfl rfl fun A F => ?_
     refine sw_move F ⟨rfl, rfl, rfl⟩ rfl rfl fun A F => ?_
     cases c7 : (i.op == 15) with
     | true =>
      rw [c7] at F
      refine sw_on F 3 rfl rfl rfl rfl rfl ?_
      refine sw_fld F 0 ⟨rfl, rfl, rfl⟩ rfl (by kernel_rfl) rfl rfl fun A F => ?_
      refine sw_on F 3 rfl rfl rfl rfl rfl ?_
      refine sw_cell F M 0 ⟨rfl, rfl, rfl⟩ rfl rfl rfl (by kernel_rfl) rfl fun A F => ?_
      refine sw_on F 3 rfl rfl rfl rfl rfl ?_
      refine sw_eql F ⟨rfl, rfl, rfl⟩ rfl rfl rfl fun A F => ?_
      refine sw_pickT F ⟨rfl, rfl, rfl⟩ rfl rfl rfl fun A F => ?_
      refine sw_asg F ⟨rfl, rfl, rfl⟩ rfl rfl fun A F => ?_
      refine sw_end ?_
      show Code.wp _ _ _ _ _
      refine sw_cond F rfl (fun hc8 => ?_) (fun hc8 => ?_)
      ·skip
       refine sw_seq ?_
       refine sw_reg ?_
       refine sw_move F ⟨rfl, rfl, rfl⟩ rfl rfl fun A F => ?_
       have hlen1 : 1 ≤ pb.length := by
        obtain ⟨p, v, e, _⟩ := lastP_one (pb := pb) (ld := ld) (o := u.op) (by rw [hu]) (by rw [show u.op = 1 by simpa using hc8]; decide)
        rw [e]; simp
       refine sw_callP [.box x2 [.int .i64 u.op, .int .i64 u.a, .int .i64 u.b] 31, .box x1 [.int .i64 i.op, .int .i64 i.a, .int .i64 i.b] 31] (tdrop1_m (b := b) (y := y) (la := la) (lc := lc) (pb := pb) (ld := ld) (hlen1) (by omega)) F M ⟨rfl, rfl, rfl⟩ rfl rfl ?_
       rintro _ _ A w ⟨_, rfl⟩ F M
       simp only [List.cons_append, List.nil_append] at M
       refine sw_end ?_
       show Code.wp _ _ _ _ _
       refine sw_seq ?_
       refine sw_reg ?_
       refine sw_fld F 1 ⟨rfl, rfl, rfl⟩ rfl (by kernel_rfl) rfl rfl fun A F => ?_
       refine sw_cell F M 0 ⟨rfl, rfl, rfl⟩ rfl rfl rfl (by kernel_rfl) rfl fun A F => ?_
       refine sw_eql F ⟨rfl, rfl, rfl⟩ rfl rfl rfl fun A F => ?_
       refine sw_end ?_
       show Code.wp _ _ _ _ _
       refine sw_cond F rfl (fun hc9 => ?_) (fun hc9 => ?_)
       ·skip
        refine sw_reg ?_
        refine sw_move F ⟨rfl, rfl, rfl⟩ rfl rfl fun A F => ?_
        refine sw_fld F 1 ⟨rfl, rfl, rfl⟩ rfl (by kernel_rfl) rfl rfl fun A F => ?_
        refine sw_cell F M 1 ⟨rfl, rfl, rfl⟩ rfl rfl rfl (by kernel_rfl) rfl fun A F => ?_
        refine sw_build F _ [.int .i64 14, .int .i64 i.a, .int .i64 0] ⟨rfl, rfl, rfl⟩ rfl (by kernel_rfl) rfl fun A F => ?_
        refine sw_callP [.box x2 [.int .i64 u.op, .int .i64 u.a, .int .i64 u.b] 31, .box x1 [.int .i64 i.op, .int .i64 i.a, .int .i64 i.b] 31] (tput_m (b := b) (y := y) (la := la) (lc := lc) (pb := (pb.take (pb.length - 1))) (ld := ld) (i := (⟨14, i.a, 0⟩ : Ins)) (rg_jump hR) (by have := hcap; rw [List.length_take]; omega)) F M ⟨rfl, rfl, rfl⟩ rfl rfl ?_
        rintro _ _ A w ⟨_, la2, lc2, rfl⟩ F M
        simp only [List.cons_append, List.nil_append] at M
        refine sw_end ?_
        repeat (refine block_norm ?_)
        have hfin : takeP pb ld i = ((pb.take (pb.length - 1)) ++ [(⟨14, i.a, 0⟩ : Ins)]) := by
         unfold takeP; rw [hu]
         rw [if_neg (show ¬ (i.op = 2 ∧ idle u = true) from fun q => by rw [hc4] at q; exact absurd q.2 (by decide))]
         rw [if_neg (show ¬ (i.op = 13 ∧ u.op = 1) from fun q => (by simpa using hc6 : u.op ≠ 1) q.2)]
         rw [if_pos (show i.op = 15 ∧ u.op = 1 from ⟨(by simpa using c7 : i.op = 15), (by simpa using hc8 : u.op = 1)⟩)]
         exact if_pos (by simpa using hc9 : u.a = 0)
        rw [hfin]
        exact sw_endnone F Tryd.results29 ⟨_, PEs b y la2 lc2 ((pb.take (pb.length - 1)) ++ [(⟨14, i.a, 0⟩ : Ins)]) ld, rfl, ((M.drop 0 rfl).drop 0 rfl), rfl, _, _, rfl⟩
       ·skip
        refine wp_skip ?_
        repeat (refine block_norm ?_)
        have hfin : takeP pb ld i = (pb.take (pb.length - 1)) := by
         unfold takeP; rw [hu]
         rw [if_neg (show ¬ (i.op = 2 ∧ idle u = true) from fun q => by rw [hc4] at q; exact absurd q.2 (by decide))]
         rw [if_neg (show ¬ (i.op = 13 ∧ u.op = 1) from fun q => (by simpa using hc6 : u.op ≠ 1) q.2)]
         rw [if_pos (show i.op = 15 ∧ u.op = 1 from ⟨(by simpa using c7 : i.op = 15), (by simpa using hc8 : u.op = 1)⟩)]
         exact if_neg (by simpa using hc9 : u.a ≠ 0)
        rw [hfin]
        exact sw_endnone F Tryd.results29 ⟨_, PEs b y la lc (pb.take (pb.length - 1)) ld, rfl, ((M.drop 0 rfl).drop 0 rfl), rfl, _, _, rfl⟩
      ·skip
       refine sw_reg ?_
       refine sw_move F ⟨rfl, rfl, rfl⟩ rfl rfl fun A F => ?_
       refine sw_all F M 1 ⟨rfl, rfl, rfl⟩ rfl rfl (by kernel_rfl) (by kernel_rfl) rfl fun A F => ?_
       refine sw_callP [.box x2 [.int .i64 u.op, .int .i64 u.a, .int .i64 u.b] 31, .box x1 [.int .i64 i.op, .int .i64 i.a, .int .i64 i.b] 31] (topP_m (b := b) (y := y) (la := la) (lc := lc) (pb := pb) (ld := ld) (i := i) hS hR hl h2k) F M ⟨rfl, rfl, rfl⟩ rfl rfl ?_
       rintro _ _ A w ⟨_, la3, lc3, rfl⟩ F M
       simp only [List.cons_append, List.nil_append] at M
       refine sw_end ?_
       repeat (refine block_norm ?_)
       have hfin : takeP pb ld i = (opP pb ld i) := by
        unfold takeP; rw [hu]
        rw [if_neg (show ¬ (i.op = 2 ∧ idle u = true) from fun q => by rw [hc4] at q; exact absurd q.2 (by decide))]
        rw [if_neg (show ¬ (i.op = 13 ∧ u.op = 1) from fun q => (by simpa using hc6 : u.op ≠ 1) q.2)]
        rw [if_neg (show ¬ (i.op = 15 ∧ u.op = 1) from fun q => (by simpa using hc8 : u.op ≠ 1) q.2)]
       rw [hfin]
       exact sw_endnone F Tryd.results29 ⟨_, PEs b y la3 lc3 (opP pb ld i) ld, rfl, ((M.drop 0 rfl).drop 0 rfl), rfl, _, _, rfl⟩
     | false =>
      rw [c7] at F
      refine sw_off F 3 rfl rfl rfl rfl rfl rfl rfl fun A F => ?_
      refine sw_off F 3 rfl rfl rfl rfl rfl rfl rfl fun A F => ?_
      refine sw_off F 3 rfl rfl rfl rfl rfl rfl rfl fun A F => ?_
      refine sw_pickF F ⟨rfl, rfl, rfl⟩ rfl rfl rfl fun A F => ?_
      refine sw_asg F ⟨rfl, rfl, rfl⟩ rfl rfl fun A F => ?_
      refine sw_end ?_
      show Code.wp _ _ _ _ _
      refine sw_false F rfl ?_
      refine sw_reg ?_
      refine sw_move F ⟨rfl, rfl, rfl⟩ rfl rfl fun A F => ?_
      refine sw_all F M 1 ⟨rfl, rfl, rfl⟩ rfl rfl (by kernel_rfl) (by kernel_rfl) rfl fun A F => ?_
      refine sw_callP [.box x2 [.int .i64 u.op, .int .i64 u.a, .int .i64 u.b] 31, .box x1 [.int .i64 i.op, .int .i64 i.a, .int .i64 i.b] 31] (topP_m (b := b) (y := y) (la := la) (lc := lc) (pb := pb) (ld := ld) (i := i) hS hR hl h2k) F M ⟨rfl, rfl, rfl⟩ rfl rfl ?_
      rintro _ _ A w ⟨_, la4, lc4, rfl⟩ F M
      simp only [List.cons_append, List.nil_append] at M
      refine sw_end ?_
      repeat (refine block_norm ?_)
      have hfin : takeP pb ld i = (opP pb ld i) := by
       unfold takeP; rw [hu]
       rw [if_neg (show ¬ (i.op = 2 ∧ idle u = true) from fun q => by rw [hc4] at q; exact absurd q.2 (by decide))]
       rw [if_neg (show ¬ (i.op = 13 ∧ u.op = 1) from fun q => (by simpa using hc6 : u.op ≠ 1) q.2)]
       rw [if_neg (show ¬ (i.op = 15 ∧ u.op = 1) from fun q => (by simpa using c7 : i.op ≠ 15) q.1)]
      rw [hfin]
      exact sw_endnone F Tryd.results29 ⟨_, PEs b y la4 lc4 (opP pb ld i) ld, rfl, ((M.drop 0 rfl).drop 0 rfl), rfl, _, _, rfl⟩
   | false =>
    rw [c5] at F
    refine sw_off F 3 rfl rfl rfl rfl rfl rfl rfl fun A F => ?_
    refine sw_off F 3 rfl rfl rfl rfl rfl rfl rfl fun A F => ?_
    refine sw_off F 3 rfl rfl rfl rfl rfl rfl rfl fun A F => ?_
    refine sw_pickF F ⟨rfl, rfl, rfl⟩ rfl rfl rfl fun A F => ?_
    refine sw_asg F ⟨rfl, rfl, rfl⟩ rfl rfl fun A F => ?_
    refine sw_end ?_
    show Code.wp _ _ _ _ _
    refine sw_false F rfl ?_
    refine sw_seq ?_
    refine sw_reg ?_
    refine sw_fld F 0 ⟨rfl, rfl, rfl⟩ rfl (by kernel_rfl) rfl rfl fun A F => ?_
    refine sw_cell F M 1 ⟨rfl, rfl, rfl⟩ rfl rfl rfl (by kernel_rfl) rfl fun A F => ?_
    refine sw_eql F ⟨rfl, rfl, rfl⟩ rfl rfl rfl fun A F => ?_
    refine sw_move F ⟨rfl, rfl, rfl⟩ rfl rfl fun A F => ?_
    cases c10 : (i.op == 15) with
    | true =>
     rw [c10] at F
     refine sw_on F 3 rfl rfl rfl rfl rfl ?_
     refine sw_fld F 0 ⟨rfl, rfl, rfl⟩ rfl (by kernel_rfl) rfl rfl fun A F => ?_
     refine sw_on F 3 rfl rfl rfl rfl rfl ?_
     refine sw_cell F M 0 ⟨rfl, rfl, rfl⟩ rfl rfl rfl (by kernel_rfl) rfl fun A F => ?_
     refine sw_on F 3 rfl rfl rfl rfl rfl ?_
     refine sw_eql F ⟨rfl, rfl, rfl⟩ rfl rfl rfl fun A F => ?_
     refine sw_pickT F ⟨rfl, rfl, rfl⟩ rfl rfl rfl fun A F => ?_
     refine sw_asg F ⟨rfl, rfl, rfl⟩ rfl rfl fun A F => ?_
     refine sw_end ?_
     show Code.wp _ _ _ _ _
     refine sw_cond F rfl (fun hc11 => ?_) (fun hc11 => ?_)
     ·skip
      refine sw_seq ?_
      refine sw_reg ?_
      refine sw_move F ⟨rfl, rfl, rfl⟩ rfl rfl fun A F => ?_
      have hlen1 : 1 ≤ pb.length := by
       obtain ⟨p, v, e, _⟩ := lastP_one (pb := pb) (ld := ld) (o := u.op) (by rw [hu]) (by rw [show u.op = 1 by simpa using hc11]; decide)
       rw [e]; simp
      refine sw_callP [.box x2 [.int .i64 u.op, .int .i64 u.a, .int .i64 u.b] 31, .box x1 [.int .i64 i.op, .int .i64 i.a, .int .i64 i.b] 31] (tdrop1_m (b := b) (y := y) (la := la) (lc := lc) (pb := pb) (ld := ld) (hlen1) (by omega)) F M ⟨rfl, rfl, rfl⟩ rfl rfl ?_
      rintro _ _ A w ⟨_, rfl⟩ F M
      simp only [List.cons_append, List.nil_append] at M
      refine sw_end ?_
      show Code.wp _ _ _ _ _
      refine sw_seq ?_
      refine sw_reg ?_
      refine sw_fld F 1 ⟨rfl, rfl, rfl⟩ rfl (by kernel_rfl) rfl rfl fun A F => ?_
      refine sw_cell F M 0 ⟨rfl, rfl, rfl⟩ rfl rfl rfl (by kernel_rfl) rfl fun A F => ?_
      refine sw_eql F ⟨rfl, rfl, rfl⟩ rfl rfl rfl fun A F => ?_
      refine sw_end ?_
      show Code.wp _ _ _ _ _
      refine sw_cond F rfl (fun hc12 => ?_) (fun hc12 => ?_)
      ·skip
       refine sw_reg ?_
       refine sw_move F ⟨rfl, rfl, rfl⟩ rfl rfl fun A F => ?_
       refine sw_fld F 1 ⟨rfl, rfl, rfl⟩ rfl (by kernel_rfl) rfl rfl fun A F => ?_
       refine sw_cell F M 1 ⟨rfl, rfl, rfl⟩ rfl rfl rfl (by kernel_rfl) rfl fun A F => ?_
       refine sw_build F _ [.int .i64 14, .int .i64 i.a, .int .i64 0] ⟨rfl, rfl, rfl⟩ rfl (by kernel_rfl) rfl fun A F => ?_
       refine sw_callP [.box x2 [.int .i64 u.op, .int .i64 u.a, .int .i64 u.b] 31, .box x1 [.int .i64 i.op, .int .i64 i.a, .int .i64 i.b] 31] (tput_m (b := b) (y := y) (la := la) (lc := lc) (pb := (pb.take (pb.length - 1))) (ld := ld) (i := (⟨14, i.a, 0⟩ : Ins)) (rg_jump hR) (by have := hcap; rw [List.length_take]; omega)) F M ⟨rfl, rfl, rfl⟩ rfl rfl ?_
       rintro _ _ A w ⟨_, la5, lc5, rfl⟩ F M
       simp only [List.cons_append, List.nil_append] at M
       refine sw_end ?_
       repeat (refine block_norm ?_)
       have hfin : takeP pb ld i = ((pb.take (pb.length - 1)) ++ [(⟨14, i.a, 0⟩ : Ins)]) := by
        unfold takeP; rw [hu]
        rw [if_neg (show ¬ (i.op = 2 ∧ idle u = true) from fun q => by rw [hc4] at q; exact absurd q.2 (by decide))]
        rw [if_neg (show ¬ (i.op = 13 ∧ u.op = 1) from fun q => (by simpa using c5 : i.op ≠ 13) q.1)]
        rw [if_pos (show i.op = 15 ∧ u.op = 1 from ⟨(by simpa using c10 : i.op = 15), (by simpa using hc11 : u.op = 1)⟩)]
        exact if_pos (by simpa using hc12 : u.a = 0)
       rw [hfin]
       exact sw_endnone F Tryd.results29 ⟨_, PEs b y la5 lc5 ((pb.take (pb.length - 1)) ++ [(⟨14, i.a, 0⟩ : Ins)]) ld, rfl, ((M.drop 0 rfl).drop 0 rfl), rfl, _, _, rfl⟩
      ·skip
       refine wp_skip ?_
       repeat (refine block_norm ?_)
       have hfin : takeP pb ld i = (pb.take (pb.length - 1)) := by
        unfold takeP; rw [hu]
        rw [if_neg (show ¬ (i.op = 2 ∧ idle u = true) from fun q => by rw [hc4] at q; exact absurd q.2 (by decide))]
        rw [if_neg (show ¬ (i.op = 13 ∧ u.op = 1) from fun q => (by simpa using c5 : i.op ≠ 13) q.1)]
        rw [if_pos (show i.op = 15 ∧ u.op = 1 from ⟨(by simpa using c10 : i.op = 15), (by simpa using hc11 : u.op = 1)⟩)]
        exact if_neg (by simpa using hc12 : u.a ≠ 0)
       rw [hfin]
       exact sw_endnone F Tryd.results29 ⟨_, PEs b y la lc (pb.take (pb.length - 1)) ld, rfl, ((M.drop 0 rfl).drop 0 rfl), rfl, _, _, rfl⟩
     ·skip
      refine sw_reg ?_
      refine sw_move F ⟨rfl, rfl, rfl⟩ rfl rfl fun A F => ?_
      refine sw_all F M 1 ⟨rfl, rfl, rfl⟩ rfl rfl (by kernel_rfl) (by kernel_rfl) rfl fun A F => ?_
      refine sw_callP [.box x2 [.int .i64 u.op, .int .i64 u.a, .int .i64 u.b] 31, .box x1 [.int .i64 i.op, .int .i64 i.a, .int .i64 i.b] 31] (topP_m (b := b) (y := y) (la := la) (lc := lc) (pb := pb) (ld := ld) (i := i) hS hR hl h2k) F M ⟨rfl, rfl, rfl⟩ rfl rfl ?_
      rintro _ _ A w ⟨_, la6, lc6, rfl⟩ F M
      simp only [List.cons_append, List.nil_append] at M
      refine sw_end ?_
      repeat (refine block_norm ?_)
      have hfin : takeP pb ld i = (opP pb ld i) := by
       unfold takeP; rw [hu]
       rw [if_neg (show ¬ (i.op = 2 ∧ idle u = true) from fun q => by rw [hc4] at q; exact absurd q.2 (by decide))]
       rw [if_neg (show ¬ (i.op = 13 ∧ u.op = 1) from fun q => (by simpa using c5 : i.op ≠ 13) q.1)]
       rw [if_neg (show ¬ (i.op = 15 ∧ u.op = 1) from fun q => (by simpa using hc11 : u.op ≠ 1) q.2)]
      rw [hfin]
      exact sw_endnone F Tryd.results29 ⟨_, PEs b y la6 lc6 (opP pb ld i) ld, rfl, ((M.drop 0 rfl).drop 0 rfl), rfl, _, _, rfl⟩
    | false =>
     rw [c10] at F
     refine sw_off F 3 rfl rfl rfl rfl rfl rfl rfl fun A F => ?_
     refine sw_off F 3 rfl rfl rfl rfl rfl rfl rfl fun A F => ?_
     refine sw_off F 3 rfl rfl rfl rfl rfl rfl rfl fun A F => ?_
     refine sw_pickF F ⟨rfl, rfl, rfl⟩ rfl rfl rfl fun A F => ?_
     refine sw_asg F ⟨rfl, rfl, rfl⟩ rfl rfl fun A F => ?_
     refine sw_end ?_
     show Code.wp _ _ _ _ _
     refine sw_false F rfl ?_
     refine sw_reg ?_
     refine sw_move F ⟨rfl, rfl, rfl⟩ rfl rfl fun A F => ?_
     refine sw_all F M 1 ⟨rfl, rfl, rfl⟩ rfl rfl (by kernel_rfl) (by kernel_rfl) rfl fun A F => ?_
     refine sw_callP [.box x2 [.int .i64 u.op, .int .i64 u.a, .int .i64 u.b] 31, .box x1 [.int .i64 i.op, .int .i64 i.a, .int .i64 i.b] 31] (topP_m (b := b) (y := y) (la := la) (lc := lc) (pb := pb) (ld := ld) (i := i) hS hR hl h2k) F M ⟨rfl, rfl, rfl⟩ rfl rfl ?_
     rintro _ _ A w ⟨_, la7, lc7, rfl⟩ F M
     simp only [List.cons_append, List.nil_append] at M
     refine sw_end ?_
     repeat (refine block_norm ?_)
     have hfin : takeP pb ld i = (opP pb ld i) := by
      unfold takeP; rw [hu]
      rw [if_neg (show ¬ (i.op = 2 ∧ idle u = true) from fun q => by rw [hc4] at q; exact absurd q.2 (by decide))]
      rw [if_neg (show ¬ (i.op = 13 ∧ u.op = 1) from fun q => (by simpa using c5 : i.op ≠ 13) q.1)]
      rw [if_neg (show ¬ (i.op = 15 ∧ u.op = 1) from fun q => (by simpa using c10 : i.op ≠ 15) q.1)]
     rw [hfin]
     exact sw_endnone F Tryd.results29 ⟨_, PEs b y la7 lc7 (opP pb ld i) ld, rfl, ((M.drop 0 rfl).drop 0 rfl), rfl, _, _, rfl⟩
 | false =>
  rw [c3] at F
  refine sw_off F 3 rfl rfl rfl rfl rfl rfl rfl fun A F => ?_
  refine sw_off F 3 rfl rfl rfl rfl rfl rfl rfl fun A F => ?_
  refine sw_pickF F ⟨rfl, rfl, rfl⟩ rfl rfl rfl fun A F => ?_
  refine sw_asg F ⟨rfl, rfl, rfl⟩ rfl rfl fun A F => ?_
  refine sw_end ?_
  show Code.wp _ _ _ _ _
  refine sw_false F rfl ?_
  refine sw_seq ?_
  refine sw_reg ?_
  refine sw_fld F 0 ⟨rfl, rfl, rfl⟩ rfl (by kernel_rfl) rfl rfl fun A F => ?_
  refine sw_cell F M 1 ⟨rfl, rfl, rfl⟩ rfl rfl rfl (by kernel_rfl) rfl fun A F => ?_
  refine sw_eql F ⟨rfl, rfl, rfl⟩ rfl rfl rfl fun A F => ?_
  refine sw_move F ⟨rfl, rfl, rfl⟩ rfl rfl fun A F => ?_
  cases c13 : (i.op == 13) with
  | true =>
   rw [c13] at F
   refine sw_on F 3 rfl rfl rfl rfl rfl ?_
   refine sw_fld F 0 ⟨rfl, rfl, rfl⟩ rfl (by kernel_rfl) rfl rfl fun A F => ?_
   refine sw_on F 3 rfl rfl rfl rfl rfl ?_
   refine sw_cell F M 0 ⟨rfl, rfl, rfl⟩ rfl rfl rfl (by kernel_rfl) rfl fun A F => ?_
   refine sw_on F 3 rfl rfl rfl rfl rfl ?_
   refine sw_eql F ⟨rfl, rfl, rfl⟩ rfl rfl rfl fun A F => ?_
   refine sw_pickT F ⟨rfl, rfl, rfl⟩ rfl rfl rfl fun A F => ?_
   refine sw_asg F ⟨rfl, rfl, rfl⟩ rfl rfl fun A F => ?_
   refine sw_end ?_
   show Code.wp _ _ _ _ _
   refine sw_cond F rfl (fun hc14 => ?_) (fun hc14 => ?_)
   ·skip
    refine sw_seq ?_
    refine sw_reg ?_
    refine sw_move F ⟨rfl, rfl, rfl⟩ rfl rfl fun A F => ?_
    have hlen1 : 1 ≤ pb.length := by
     obtain ⟨p, v, e, _⟩ := lastP_one (pb := pb) (ld := ld) (o := u.op) (by rw [hu]) (by rw [show u.op = 1 by simpa using hc14]; decide)
     rw [e]; simp
    refine sw_callP [.box x2 [.int .i64 u.op, .int .i64 u.a, .int .i64 u.b] 31, .box x1 [.int .i64 i.op, .int .i64 i.a, .int .i64 i.b] 31] (tdrop1_m (b := b) (y := y) (la := la) (lc := lc) (pb := pb) (ld := ld) (hlen1) (by omega)) F M ⟨rfl, rfl, rfl⟩ rfl rfl ?_
    rintro _ _ A w ⟨_, rfl⟩ F M
    simp only [List.cons_append, List.nil_append] at M
    refine sw_end ?_
    show Code.wp _ _ _ _ _
    refine sw_reg ?_
    refine sw_move F ⟨rfl, rfl, rfl⟩ rfl rfl fun A F => ?_
    refine sw_fld F 1 ⟨rfl, rfl, rfl⟩ rfl (by kernel_rfl) rfl rfl fun A F => ?_
    refine sw_cell F M 0 ⟨rfl, rfl, rfl⟩ rfl rfl rfl (by kernel_rfl) rfl fun A F => ?_
    refine sw_eql F ⟨rfl, rfl, rfl⟩ rfl rfl rfl fun A F => ?_
    refine sw_callR (by kernel_rfl) (truth_any (u.a == 0) _) F ⟨rfl, rfl, rfl⟩ rfl rfl ?_
    rintro _ w ⟨rfl, hb⟩
    refine ⟨_, rfl, fun A F => ?_⟩
    replace M := M.aft hb
    clear hb
    refine sw_callP [.box x2 [.int .i64 u.op, .int .i64 u.a, .int .i64 u.b] 31, .box x1 [.int .i64 i.op, .int .i64 i.a, .int .i64 i.b] 31] (tpush_m (b := b) (y := y) (la := la) (lc := lc) (pb := (pb.take (pb.length - 1))) (ld := ld) (n := (tr (u.a == 0))) (rg_push (tr_in _)) (by have := hcap; rw [List.length_take]; omega)) F M ⟨rfl, rfl, rfl⟩ rfl rfl ?_
    rintro _ _ A w ⟨_, la8, lc8, rfl⟩ F M
    simp only [List.cons_append, List.nil_append] at M
    refine sw_end ?_
    repeat (refine block_norm ?_)
    have hfin : takeP pb ld i = ((pb.take (pb.length - 1)) ++ [(⟨1, (tr (u.a == 0)), 0⟩ : Ins)]) := by
     unfold takeP; rw [hu]
     rw [if_neg (show ¬ (i.op = 2 ∧ idle u = true) from fun q => (by simpa using c3 : i.op ≠ 2) q.1)]
     rw [if_pos (show i.op = 13 ∧ u.op = 1 from ⟨(by simpa using c13 : i.op = 13), (by simpa using hc14 : u.op = 1)⟩)]
     rfl
    rw [hfin]
    exact sw_endnone F Tryd.results29 ⟨_, PEs b y la8 lc8 ((pb.take (pb.length - 1)) ++ [(⟨1, (tr (u.a == 0)), 0⟩ : Ins)]) ld, rfl, ((M.drop 0 rfl).drop 0 rfl), rfl, _, _, rfl⟩
   ·skip
    refine sw_seq ?_
    refine sw_reg ?_
    refine sw_fld F 0 ⟨rfl, rfl, rfl⟩ rfl (by kernel_rfl) rfl rfl fun A F => ?_
    refine sw_cell F M 1 ⟨rfl, rfl, rfl⟩ rfl rfl rfl (by kernel_rfl) rfl fun A F => ?_
    refine sw_eql F ⟨rfl, rfl, rfl⟩ rfl rfl rfl fun A F => ?_
    refine sw_move F ⟨rfl, rfl, rfl⟩ rfl rfl fun A F => ?_
    cases c15 : (i.op == 15) with
    | true =>
     rw [c15] at F
     refine sw_on F 3 rfl rfl rfl rfl rfl ?_
     refine sw_fld F 0 ⟨rfl, rfl, rfl⟩ rfl (by kernel_rfl) rfl rfl fun A F => ?_
     refine sw_on F 3 rfl rfl rfl rfl rfl ?_
     refine sw_cell F M 0 ⟨rfl, rfl, rfl⟩ rfl rfl rfl (by kernel_rfl) rfl fun A F => ?_
     refine sw_on F 3 rfl rfl rfl rfl rfl ?_
     refine sw_eql F ⟨rfl, rfl, rfl⟩ rfl rfl rfl fun A F => ?_
     refine sw_pickT F ⟨rfl, rfl, rfl⟩ rfl rfl rfl fun A F => ?_
     refine sw_asg F ⟨rfl, rfl, rfl⟩ rfl rfl fun A F => ?_
     refine sw_end ?_
     show Code.wp _ _ _ _ _
     refine sw_cond F rfl (fun hc16 => ?_) (fun hc16 => ?_)
     ·skip
      refine sw_seq ?_
      refine sw_reg ?_
      refine sw_move F ⟨rfl, rfl, rfl⟩ rfl rfl fun A F => ?_
      have hlen1 : 1 ≤ pb.length := by
       obtain ⟨p, v, e, _⟩ := lastP_one (pb := pb) (ld := ld) (o := u.op) (by rw [hu]) (by rw [show u.op = 1 by simpa using hc16]; decide)
       rw [e]; simp
      refine sw_callP [.box x2 [.int .i64 u.op, .int .i64 u.a, .int .i64 u.b] 31, .box x1 [.int .i64 i.op, .int .i64 i.a, .int .i64 i.b] 31] (tdrop1_m (b := b) (y := y) (la := la) (lc := lc) (pb := pb) (ld := ld) (hlen1) (by omega)) F M ⟨rfl, rfl, rfl⟩ rfl rfl ?_
      rintro _ _ A w ⟨_, rfl⟩ F M
      simp only [List.cons_append, List.nil_append] at M
      refine sw_end ?_
      show Code.wp _ _ _ _ _
      refine sw_seq ?_
      refine sw_reg ?_
      refine sw_fld F 1 ⟨rfl, rfl, rfl⟩ rfl (by kernel_rfl) rfl rfl fun A F => ?_
      refine sw_cell F M 0 ⟨rfl, rfl, rfl⟩ rfl rfl rfl (by kernel_rfl) rfl fun A F => ?_
      refine sw_eql F ⟨rfl, rfl, rfl⟩ rfl rfl rfl fun A F => ?_
      refine sw_end ?_
      show Code.wp _ _ _ _ _
      refine sw_cond F rfl (fun hc17 => ?_) (fun hc17 => ?_)
      ·skip
       refine sw_reg ?_
       refine sw_move F ⟨rfl, rfl, rfl⟩ rfl rfl fun A F => ?_
       refine sw_fld F 1 ⟨rfl, rfl, rfl⟩ rfl (by kernel_rfl) rfl rfl fun A F => ?_
       refine sw_cell F M 1 ⟨rfl, rfl, rfl⟩ rfl rfl rfl (by kernel_rfl) rfl fun A F => ?_
       refine sw_build F _ [.int .i64 14, .int .i64 i.a, .int .i64 0] ⟨rfl, rfl, rfl⟩ rfl (by kernel_rfl) rfl fun A F => ?_
       refine sw_callP [.box x2 [.int .i64 u.op, .int .i64 u.a, .int .i64 u.b] 31, .box x1 [.int .i64 i.op, .int .i64 i.a, .int .i64 i.b] 31] (tput_m (b := b) (y := y) (la := la) (lc := lc) (pb := (pb.take (pb.length - 1))) (ld := ld) (i := (⟨14, i.a, 0⟩ : Ins)) (rg_jump hR) (by have := hcap; rw [List.length_take]; omega)) F M ⟨rfl, rfl, rfl⟩ rfl rfl ?_
       rintro _ _ A w ⟨_, la9, lc9, rfl⟩ F M
       simp only [List.cons_append, List.nil_append] at M
       refine sw_end ?_
       repeat (refine block_norm ?_)
       have hfin : takeP pb ld i = ((pb.take (pb.length - 1)) ++ [(⟨14, i.a, 0⟩ : Ins)]) := by
        unfold takeP; rw [hu]
        rw [if_neg (show ¬ (i.op = 2 ∧ idle u = true) from fun q => (by simpa using c3 : i.op ≠ 2) q.1)]
        rw [if_neg (show ¬ (i.op = 13 ∧ u.op = 1) from fun q => (by simpa using hc14 : u.op ≠ 1) q.2)]
        rw [if_pos (show i.op = 15 ∧ u.op = 1 from ⟨(by simpa using c15 : i.op = 15), (by simpa using hc16 : u.op = 1)⟩)]
        exact if_pos (by simpa using hc17 : u.a = 0)
       rw [hfin]
       exact sw_endnone F Tryd.results29 ⟨_, PEs b y la9 lc9 ((pb.take (pb.length - 1)) ++ [(⟨14, i.a, 0⟩ : Ins)]) ld, rfl, ((M.drop 0 rfl).drop 0 rfl), rfl, _, _, rfl⟩
      ·skip
       refine wp_skip ?_
       repeat (refine block_norm ?_)
       have hfin : takeP pb ld i = (pb.take (pb.length - 1)) := by
        unfold takeP; rw [hu]
        rw [if_neg (show ¬ (i.op = 2 ∧ idle u = true) from fun q => (by simpa using c3 : i.op ≠ 2) q.1)]
        rw [if_neg (show ¬ (i.op = 13 ∧ u.op = 1) from fun q => (by simpa using hc14 : u.op ≠ 1) q.2)]
        rw [if_pos (show i.op = 15 ∧ u.op = 1 from ⟨(by simpa using c15 : i.op = 15), (by simpa using hc16 : u.op = 1)⟩)]
        exact if_neg (by simpa using hc17 : u.a ≠ 0)
       rw [hfin]
       exact sw_endnone F Tryd.results29 ⟨_, PEs b y la lc (pb.take (pb.length - 1)) ld, rfl, ((M.drop 0 rfl).drop 0 rfl), rfl, _, _, rfl⟩
     ·skip
      refine sw_reg ?_
      refine sw_move F ⟨rfl, rfl, rfl⟩ rfl rfl fun A F => ?_
      refine sw_all F M 1 ⟨rfl, rfl, rfl⟩ rfl rfl (by kernel_rfl) (by kernel_rfl) rfl fun A F => ?_
      refine sw_callP [.box x2 [.int .i64 u.op, .int .i64 u.a, .int .i64 u.b] 31, .box x1 [.int .i64 i.op, .int .i64 i.a, .int .i64 i.b] 31] (topP_m (b := b) (y := y) (la := la) (lc := lc) (pb := pb) (ld := ld) (i := i) hS hR hl h2k) F M ⟨rfl, rfl, rfl⟩ rfl rfl ?_
      rintro _ _ A w ⟨_, la10, lc10, rfl⟩ F M
      simp only [List.cons_append, List.nil_append] at M
      refine sw_end ?_
      repeat (refine block_norm ?_)
      have hfin : takeP pb ld i = (opP pb ld i) := by
       unfold takeP; rw [hu]
       rw [if_neg (show ¬ (i.op = 2 ∧ idle u = true) from fun q => (by simpa using c3 : i.op ≠ 2) q.1)]
       rw [if_neg (show ¬ (i.op = 13 ∧ u.op = 1) from fun q => (by simpa using hc14 : u.op ≠ 1) q.2)]
       rw [if_neg (show ¬ (i.op = 15 ∧ u.op = 1) from fun q => (by simpa using hc16 : u.op ≠ 1) q.2)]
      rw [hfin]
      exact sw_endnone F Tryd.results29 ⟨_, PEs b y la10 lc10 (opP pb ld i) ld, rfl, ((M.drop 0 rfl).drop 0 rfl), rfl, _, _, rfl⟩
    | false =>
     rw [c15] at F
     refine sw_off F 3 rfl rfl rfl rfl rfl rfl rfl fun A F => ?_
     refine sw_off F 3 rfl rfl rfl rfl rfl rfl rfl fun A F => ?_
     refine sw_off F 3 rfl rfl rfl rfl rfl rfl rfl fun A F => ?_
     refine sw_pickF F ⟨rfl, rfl, rfl⟩ rfl rfl rfl fun A F => ?_
     refine sw_asg F ⟨rfl, rfl, rfl⟩ rfl rfl fun A F => ?_
     refine sw_end ?_
     show Code.wp _ _ _ _ _
     refine sw_false F rfl ?_
     refine sw_reg ?_
     refine sw_move F ⟨rfl, rfl, rfl⟩ rfl rfl fun A F => ?_
     refine sw_all F M 1 ⟨rfl, rfl, rfl⟩ rfl rfl (by kernel_rfl) (by kernel_rfl) rfl fun A F => ?_
     refine sw_callP [.box x2 [.int .i64 u.op, .int .i64 u.a, .int .i64 u.b] 31, .box x1 [.int .i64 i.op, .int .i64 i.a, .int .i64 i.b] 31] (topP_m (b := b) (y := y) (la := la) (lc := lc) (pb := pb) (ld := ld) (i := i) hS hR hl h2k) F M ⟨rfl, rfl, rfl⟩ rfl rfl ?_
     rintro _ _ A w ⟨_, la11, lc11, rfl⟩ F M
     simp only [List.cons_append, List.nil_append] at M
     refine sw_end ?_
     repeat (refine block_norm ?_)
     have hfin : takeP pb ld i = (opP pb ld i) := by
      unfold takeP; rw [hu]
      rw [if_neg (show ¬ (i.op = 2 ∧ idle u = true) from fun q => (by simpa using c3 : i.op ≠ 2) q.1)]
      rw [if_neg (show ¬ (i.op = 13 ∧ u.op = 1) from fun q => (by simpa using hc14 : u.op ≠ 1) q.2)]
      rw [if_neg (show ¬ (i.op = 15 ∧ u.op = 1) from fun q => (by simpa using c15 : i.op ≠ 15) q.1)]
     rw [hfin]
     exact sw_endnone F Tryd.results29 ⟨_, PEs b y la11 lc11 (opP pb ld i) ld, rfl, ((M.drop 0 rfl).drop 0 rfl), rfl, _, _, rfl⟩
  | false =>
   rw [c13] at F
   refine sw_off F 3 rfl rfl rfl rfl rfl rfl rfl fun A F => ?_
   refine sw_off F 3 rfl rfl rfl rfl rfl rfl rfl fun A F => ?_
   refine sw_off F 3 rfl rfl rfl rfl rfl rfl rfl fun A F => ?_
   refine sw_pickF F ⟨rfl, rfl, rfl⟩ rfl rfl rfl fun A F => ?_
   refine sw_asg F ⟨rfl, rfl, rfl⟩ rfl rfl fun A F => ?_
   refine sw_end ?_
   show Code.wp _ _ _ _ _
   refine sw_false F rfl ?_
   refine sw_seq ?_
   refine sw_reg ?_
   refine sw_fld F 0 ⟨rfl, rfl, rfl⟩ rfl (by kernel_rfl) rfl rfl fun A F => ?_
   refine sw_cell F M 1 ⟨rfl, rfl, rfl⟩ rfl rfl rfl (by kernel_rfl) rfl fun A F => ?_
   refine sw_eql F ⟨rfl, rfl, rfl⟩ rfl rfl rfl fun A F => ?_
   refine sw_move F ⟨rfl, rfl, rfl⟩ rfl rfl fun A F => ?_
   cases c18 : (i.op == 15) with
   | true =>
    rw [c18] at F
    refine sw_on F 3 rfl rfl rfl rfl rfl ?_
    refine sw_fld F 0 ⟨rfl, rfl, rfl⟩ rfl (by kernel_rfl) rfl rfl fun A F => ?_
    refine sw_on F 3 rfl rfl rfl rfl rfl ?_
    refine sw_cell F M 0 ⟨rfl, rfl, rfl⟩ rfl rfl rfl (by kernel_rfl) rfl fun A F => ?_
    refine sw_on F 3 rfl rfl rfl rfl rfl ?_
    refine sw_eql F ⟨rfl, rfl, rfl⟩ rfl rfl rfl fun A F => ?_
    refine sw_pickT F ⟨rfl, rfl, rfl⟩ rfl rfl rfl fun A F => ?_
    refine sw_asg F ⟨rfl, rfl, rfl⟩ rfl rfl fun A F => ?_
    refine sw_end ?_
    show Code.wp _ _ _ _ _
    refine sw_cond F rfl (fun hc19 => ?_) (fun hc19 => ?_)
    ·skip
     refine sw_seq ?_
     refine sw_reg ?_
     refine sw_move F ⟨rfl, rfl, rfl⟩ rfl rfl fun A F => ?_
     have hlen1 : 1 ≤ pb.length := by
      obtain ⟨p, v, e, _⟩ := lastP_one (pb := pb) (ld := ld) (o := u.op) (by rw [hu]) (by rw [show u.op = 1 by simpa using hc19]; decide)
      rw [e]; simp
     refine sw_callP [.box x2 [.int .i64 u.op, .int .i64 u.a, .int .i64 u.b] 31, .box x1 [.int .i64 i.op, .int .i64 i.a, .int .i64 i.b] 31] (tdrop1_m (b := b) (y := y) (la := la) (lc := lc) (pb := pb) (ld := ld) (hlen1) (by omega)) F M ⟨rfl, rfl, rfl⟩ rfl rfl ?_
     rintro _ _ A w ⟨_, rfl⟩ F M
     simp only [List.cons_append, List.nil_append] at M
     refine sw_end ?_
     show Code.wp _ _ _ _ _
     refine sw_seq ?_
     refine sw_reg ?_
     refine sw_fld F 1 ⟨rfl, rfl, rfl⟩ rfl (by kernel_rfl) rfl rfl fun A F => ?_
     refine sw_cell F M 0 ⟨rfl, rfl, rfl⟩ rfl rfl rfl (by kernel_rfl) rfl fun A F => ?_
     refine sw_eql F ⟨rfl, rfl, rfl⟩ rfl rfl rfl fun A F => ?_
     refine sw_end ?_
     show Code.wp _ _ _ _ _
     refine sw_cond F rfl (fun hc20 => ?_) (fun hc20 => ?_)
     ·skip
      refine sw_reg ?_
      refine sw_move F ⟨rfl, rfl, rfl⟩ rfl rfl fun A F => ?_
      refine sw_fld F 1 ⟨rfl, rfl, rfl⟩ rfl (by kernel_rfl) rfl rfl fun A F => ?_
      refine sw_cell F M 1 ⟨rfl, rfl, rfl⟩ rfl rfl rfl (by kernel_rfl) rfl fun A F => ?_
      refine sw_build F _ [.int .i64 14, .int .i64 i.a, .int .i64 0] ⟨rfl, rfl, rfl⟩ rfl (by kernel_rfl) rfl fun A F => ?_
      refine sw_callP [.box x2 [.int .i64 u.op, .int .i64 u.a, .int .i64 u.b] 31, .box x1 [.int .i64 i.op, .int .i64 i.a, .int .i64 i.b] 31] (tput_m (b := b) (y := y) (la := la) (lc := lc) (pb := (pb.take (pb.length - 1))) (ld := ld) (i := (⟨14, i.a, 0⟩ : Ins)) (rg_jump hR) (by have := hcap; rw [List.length_take]; omega)) F M ⟨rfl, rfl, rfl⟩ rfl rfl ?_
      rintro _ _ A w ⟨_, la12, lc12, rfl⟩ F M
      simp only [List.cons_append, List.nil_append] at M
      refine sw_end ?_
      repeat (refine block_norm ?_)
      have hfin : takeP pb ld i = ((pb.take (pb.length - 1)) ++ [(⟨14, i.a, 0⟩ : Ins)]) := by
       unfold takeP; rw [hu]
       rw [if_neg (show ¬ (i.op = 2 ∧ idle u = true) from fun q => (by simpa using c3 : i.op ≠ 2) q.1)]
       rw [if_neg (show ¬ (i.op = 13 ∧ u.op = 1) from fun q => (by simpa using c13 : i.op ≠ 13) q.1)]
       rw [if_pos (show i.op = 15 ∧ u.op = 1 from ⟨(by simpa using c18 : i.op = 15), (by simpa using hc19 : u.op = 1)⟩)]
       exact if_pos (by simpa using hc20 : u.a = 0)
      rw [hfin]
      exact sw_endnone F Tryd.results29 ⟨_, PEs b y la12 lc12 ((pb.take (pb.length - 1)) ++ [(⟨14, i.a, 0⟩ : Ins)]) ld, rfl, ((M.drop 0 rfl).drop 0 rfl), rfl, _, _, rfl⟩
     ·skip
      refine wp_skip ?_
      repeat (refine block_norm ?_)
      have hfin : takeP pb ld i = (pb.take (pb.length - 1)) := by
       unfold takeP; rw [hu]
       rw [if_neg (show ¬ (i.op = 2 ∧ idle u = true) from fun q => (by simpa using c3 : i.op ≠ 2) q.1)]
       rw [if_neg (show ¬ (i.op = 13 ∧ u.op = 1) from fun q => (by simpa using c13 : i.op ≠ 13) q.1)]
       rw [if_pos (show i.op = 15 ∧ u.op = 1 from ⟨(by simpa using c18 : i.op = 15), (by simpa using hc19 : u.op = 1)⟩)]
       exact if_neg (by simpa using hc20 : u.a ≠ 0)
      rw [hfin]
      exact sw_endnone F Tryd.results29 ⟨_, PEs b y la lc (pb.take (pb.length - 1)) ld, rfl, ((M.drop 0 rfl).drop 0 rfl), rfl, _, _, rfl⟩
    ·skip
     refine sw_reg ?_
     refine sw_move F ⟨rfl, rfl, rfl⟩ rfl rfl fun A F => ?_
     refine sw_all F M 1 ⟨rfl, rfl, rfl⟩ rfl rfl (by kernel_rfl) (by kernel_rfl) rfl fun A F => ?_
     refine sw_callP [.box x2 [.int .i64 u.op, .int .i64 u.a, .int .i64 u.b] 31, .box x1 [.int .i64 i.op, .int .i64 i.a, .int .i64 i.b] 31] (topP_m (b := b) (y := y) (la := la) (lc := lc) (pb := pb) (ld := ld) (i := i) hS hR hl h2k) F M ⟨rfl, rfl, rfl⟩ rfl rfl ?_
     rintro _ _ A w ⟨_, la13, lc13, rfl⟩ F M
     simp only [List.cons_append, List.nil_append] at M
     refine sw_end ?_
     repeat (refine block_norm ?_)
     have hfin : takeP pb ld i = (opP pb ld i) := by
      unfold takeP; rw [hu]
      rw [if_neg (show ¬ (i.op = 2 ∧ idle u = true) from fun q => (by simpa using c3 : i.op ≠ 2) q.1)]
      rw [if_neg (show ¬ (i.op = 13 ∧ u.op = 1) from fun q => (by simpa using c13 : i.op ≠ 13) q.1)]
      rw [if_neg (show ¬ (i.op = 15 ∧ u.op = 1) from fun q => (by simpa using hc19 : u.op ≠ 1) q.2)]
     rw [hfin]
     exact sw_endnone F Tryd.results29 ⟨_, PEs b y la13 lc13 (opP pb ld i) ld, rfl, ((M.drop 0 rfl).drop 0 rfl), rfl, _, _, rfl⟩
   | false =>
    rw [c18] at F
    refine sw_off F 3 rfl rfl rfl rfl rfl rfl rfl fun A F => ?_
    refine sw_off F 3 rfl rfl rfl rfl rfl rfl rfl fun A F => ?_
    refine sw_off F 3 rfl rfl rfl rfl rfl rfl rfl fun A F => ?_
    refine sw_pickF F ⟨rfl, rfl, rfl⟩ rfl rfl rfl fun A F => ?_
    refine sw_asg F ⟨rfl, rfl, rfl⟩ rfl rfl fun A F => ?_
    refine sw_end ?_
    show Code.wp _ _ _ _ _
    refine sw_false F rfl ?_
    refine sw_reg ?_
    refine sw_move F ⟨rfl, rfl, rfl⟩ rfl rfl fun A F => ?_
    refine sw_all F M 1 ⟨rfl, rfl, rfl⟩ rfl rfl (by kernel_rfl) (by kernel_rfl) rfl fun A F => ?_
    refine sw_callP [.box x2 [.int .i64 u.op, .int .i64 u.a, .int .i64 u.b] 31, .box x1 [.int .i64 i.op, .int .i64 i.a, .int .i64 i.b] 31] (topP_m (b := b) (y := y) (la := la) (lc := lc) (pb := pb) (ld := ld) (i := i) hS hR hl h2k) F M ⟨rfl, rfl, rfl⟩ rfl rfl ?_
    rintro _ _ A w ⟨_, la14, lc14, rfl⟩ F M
    simp only [List.cons_append, List.nil_append] at M
    refine sw_end ?_
    repeat (refine block_norm ?_)
    have hfin : takeP pb ld i = (opP pb ld i) := by
     unfold takeP; rw [hu]
     rw [if_neg (show ¬ (i.op = 2 ∧ idle u = true) from fun q => (by simpa using c3 : i.op ≠ 2) q.1)]
     rw [if_neg (show ¬ (i.op = 13 ∧ u.op = 1) from fun q => (by simpa using c13 : i.op ≠ 13) q.1)]
     rw [if_neg (show ¬ (i.op = 15 ∧ u.op = 1) from fun q => (by simpa using c18 : i.op ≠ 15) q.1)]
    rw [hfin]
    exact sw_endnone F Tryd.results29 ⟨_, PEs b y la14 lc14 (opP pb ld i) ld, rfl, ((M.drop 0 rfl).drop 0 rfl), rfl, _, _, rfl⟩
end Go.Proofs.YtemjajljpoaioaaDoor
