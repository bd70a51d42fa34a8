import Derived.Test.YtemjajljpoaioaaDoorYT9
namespace Go.Proofs.YtemjajljpoaioaaDoor
open Go.RowKit
set_option linter.unusedVariables false
set_option linter.unusedSimpArgs false
set_option maxRecDepth 20000
set_option maxHeartbeats 8000000
set_option maxRecDepth 20000 in
set_option maxHeartbeats 8000000 in
theorem tput_m {b y lc : Nat} {la : Option Addr} {pb : List Ins} {ld : List Bool} {i : Ins} (hR : RgI i) (hl : pb.length ≤ 100000) : MethE 45 [ptr b, insV i] (PEs b y la lc pb ld) fun v E2 => v = .tuple #[] ∧ ∃ la' lc', E2 = PEs b y la' lc' (pb ++ [i]) ld := by
 refine ⟨by kernel_rfl, fun w0 E w M => ?_⟩
 simp only [List.cons_append, List.nil_append] at M
 refine sw_fn Tryd.func45 rfl 14 Tryd.ntmps45 rfl fun A F => ?_
 refine sw_seq ?_
 refine sw_reg ?_
 refine sw_box F M [.int .i64 i.op, .int .i64 i.a, .int .i64 i.b] ⟨rfl, rfl, rfl⟩ rfl rfl rfl fun x1 A w F M => ?_
 refine sw_end ?_
 show Code.wp _ _ _ _ _
 refine wp_region_late (fun w' => w'.cell? ⟨b, 0, none⟩ = some (.slice la pb.length lc) ∧ w'.rangeAt x1 0 [.int .i64 i.op, .int .i64 i.a, .int .i64 i.b]) 10 (by kernel_rfl) ?_
 show wpAnyM _ _ _ _ _ _ _ _ _ w.drew
 replace M := M.drew
 have hS : w.drew.cell? ⟨b, 0, none⟩ = some (.slice la pb.length lc) ∧ w.drew.rangeAt x1 0 [.int .i64 i.op, .int .i64 i.a, .int .i64 i.b] := ⟨M.cell 1 rfl rfl, (M.mem.box (k := 0) rfl).1.range⟩
 refine sm_move F 0 rfl ⟨rfl, rfl, rfl⟩ rfl (by kernel_rfl) (by kernel_rfl) (by kernel_rfl) rfl (fun _ _ _ h => h) rfl hS fun A F => ?_
 refine sm_move F 1 rfl ⟨rfl, rfl, rfl⟩ rfl (by kernel_rfl) (by kernel_rfl) (by kernel_rfl) rfl (fun _ _ _ h => h) rfl hS fun A F => ?_
 refine sm_nil F 2 rfl ⟨rfl, rfl, rfl⟩ rfl (by kernel_rfl) (by kernel_rfl) (by kernel_rfl) rfl (fun _ _ _ h => h) rfl hS fun A F => ?_
 refine sm_fld F 3 0 rfl ⟨rfl, rfl, rfl⟩ rfl (by kernel_rfl) rfl (by kernel_rfl) (by kernel_rfl) (by kernel_rfl) rfl (fun _ _ _ h => h) rfl hS fun A F => ?_
 refine sm_cell F 4 rfl ⟨rfl, rfl, rfl⟩ rfl (by kernel_rfl) (fun _ h => h.1) (by kernel_rfl) (by kernel_rfl) (by kernel_rfl) (by kernel_rfl) rfl (fun _ _ _ h => h) rfl hS fun A F => ?_
 refine sm_rng F 5 rfl ⟨rfl, rfl, rfl⟩ rfl (by kernel_rfl) (by kernel_rfl) (fun _ h => h.2) (by kernel_rfl) (by kernel_rfl) (by kernel_rfl) (by kernel_rfl) rfl (fun _ _ _ h => h) rfl hS fun A F => ?_
 clear hS
 refine sm_one 6 rfl (by kernel_rfl) rfl ?_
 refine sw_mkrow (ety := 31) (sz := 3) (z := .agg #[.int .i64 0, .int .i64 0, .int .i64 0]) F M _ [i.flds] ⟨rfl, rfl, rfl⟩ rfl Tryd.underlying32 (by kernel_rfl) rfl (by kernel_rfl) rfl ?_ ?_ rfl fun xr A w F M => ?_
 ·intro d hd
  rw [List.mem_singleton.1 hd]
  exact ⟨rfl, rg_lies hR⟩
 ·intro _ _ c _ _ d hd
  rw [List.mem_singleton.1 hd]
  exact ins_apart i c
 have hS : w.cell? ⟨b, 0, none⟩ = some (.slice la pb.length lc) ∧ w.rangeAt x1 0 [.int .i64 i.op, .int .i64 i.a, .int .i64 i.b] := ⟨M.cell 2 rfl rfl, (M.mem.box (k := 1) rfl).1.range⟩
 refine sw_end ⟨fun _ => hS, ?_⟩
 clear hS
 refine sm_one 7 rfl (by kernel_rfl) rfl ?_
 refine sw_appRow (sz := 3) (z := .agg #[.int .i64 0, .int .i64 0, .int .i64 0]) F M 3 0 ⟨rfl, rfl, rfl⟩ rfl rfl rfl (by decide) rfl rfl rfl Tryd.underlying32 (by kernel_rfl) rfl rfl (by simp; omega) rfl fun la2 lc2 A w F M => ?_
 simp only [List.set_cons_zero, List.set_cons_succ] at M
 rw [show pb.map Ins.flds ++ [i.flds] = (pb ++ [i]).map Ins.flds by simp] at M F
 rw [List.length_map] at M F
 have hS : w.cell? ⟨b, 0, none⟩ = some (.slice la pb.length lc) ∧ w.rangeAt x1 0 [.int .i64 i.op, .int .i64 i.a, .int .i64 i.b] := ⟨M.cell 2 rfl rfl, (M.mem.box (k := 1) rfl).1.range⟩
 refine sw_end ⟨fun _ => hS, ?_⟩
 refine sm_nil F 8 rfl ⟨rfl, rfl, rfl⟩ rfl (by kernel_rfl) (by kernel_rfl) (by kernel_rfl) rfl (fun _ _ _ h => h) rfl hS fun A F => ?_
 refine sm_fld F 9 0 rfl ⟨rfl, rfl, rfl⟩ rfl (by kernel_rfl) rfl (by kernel_rfl) (by kernel_rfl) (by kernel_rfl) rfl (fun _ _ _ h => h) rfl hS fun A F => ?_
 clear hS
 refine sm_one 10 rfl (by kernel_rfl) rfl ?_
 refine sw_set F M 2 ⟨rfl, rfl, rfl⟩ rfl rfl rfl (by kernel_rfl) rfl rfl rfl fun w M => ?_
 simp only [List.set_cons_zero, List.set_cons_succ] at M
 refine sw_end ⟨fun h => absurd h (by decide), ?_⟩
 refine wpAnyM_done (by kernel_rfl) ?_ _
 exact sw_endnone F Tryd.results45 ⟨_, _, rfl, (M.drop 0 rfl).drop 0 rfl, rfl, _, _, rfl⟩
set_option maxRecDepth 20000 in
set_option maxHeartbeats 8000000 in
theorem tdrop1_m {b y lc : Nat} {la : Option Addr} {pb : List Ins} {ld : List Bool} (hm : 1 ≤ pb.length) (hl : pb.length ≤ 100000) : MethE 42 [ptr b, .int .i64 1] (PEs b y la lc pb ld) fun v E2 => v = .tuple #[] ∧ E2 = PEs b y la lc (pb.take (pb.length - 1)) ld := by
 refine ⟨by kernel_rfl, fun w0 E w M => ?_⟩
 simp only [List.cons_append, List.nil_append] at M
 refine sw_fn Tryd.func42 rfl 19 Tryd.ntmps42 rfl fun A F => ?_
 refine wp_region_late (fun w' => w'.cell? ⟨b, 0, none⟩ = some (.slice la pb.length lc)) 15 (by kernel_rfl) ?_
 show wpAnyM _ _ _ _ _ _ _ _ _ w.drew
 replace M := M.drew
 have hS : w.drew.cell? ⟨b, 0, none⟩ = some (.slice la pb.length lc) := M.cell 0 rfl rfl
 refine sm_move F 0 rfl ⟨rfl, rfl, rfl⟩ rfl (by kernel_rfl) (by kernel_rfl) (by kernel_rfl) rfl (fun _ _ _ h => h) rfl hS fun A F => ?_
 refine sm_move F 1 rfl ⟨rfl, rfl, rfl⟩ rfl (by kernel_rfl) (by kernel_rfl) (by kernel_rfl) rfl (fun _ _ _ h => h) rfl hS fun A F => ?_
 refine sm_move F 5 rfl ⟨rfl, rfl, rfl⟩ rfl (by kernel_rfl) (by kernel_rfl) (by kernel_rfl) rfl (fun _ _ _ h => h) rfl hS fun A F => ?_
 refine sm_move F 10 rfl ⟨rfl, rfl, rfl⟩ rfl (by kernel_rfl) (by kernel_rfl) (by kernel_rfl) rfl (fun _ _ _ h => h) rfl hS fun A F => ?_
 refine sm_nil F 2 rfl ⟨rfl, rfl, rfl⟩ rfl (by kernel_rfl) (by kernel_rfl) (by kernel_rfl) rfl (fun _ _ _ h => h) rfl hS fun A F => ?_
 refine sm_nil F 6 rfl ⟨rfl, rfl, rfl⟩ rfl (by kernel_rfl) (by kernel_rfl) (by kernel_rfl) rfl (fun _ _ _ h => h) rfl hS fun A F => ?_
 refine sm_fld F 3 0 rfl ⟨rfl, rfl, rfl⟩ rfl (by kernel_rfl) rfl (by kernel_rfl) (by kernel_rfl) (by kernel_rfl) rfl (fun _ _ _ h => h) rfl hS fun A F => ?_
 refine sm_fld F 7 0 rfl ⟨rfl, rfl, rfl⟩ rfl (by kernel_rfl) rfl (by kernel_rfl) (by kernel_rfl) (by kernel_rfl) rfl (fun _ _ _ h => h) rfl hS fun A F => ?_
 refine sm_cell F 4 rfl ⟨rfl, rfl, rfl⟩ rfl (by kernel_rfl) (fun _ h => h) (by kernel_rfl) (by kernel_rfl) (by kernel_rfl) (by kernel_rfl) rfl (fun _ _ _ h => h) rfl hS fun A F => ?_
 refine sm_cell F 8 rfl ⟨rfl, rfl, rfl⟩ rfl (by kernel_rfl) (fun _ h => h) (by kernel_rfl) (by kernel_rfl) (by kernel_rfl) (by kernel_rfl) rfl (fun _ _ _ h => h) rfl hS fun A F => ?_
 clear hS
 refine sm_one 9 rfl (by kernel_rfl) rfl ?_
 refine sw_len F ⟨rfl, rfl, rfl⟩ rfl Tryd.underlying32 rfl fun A F => ?_
 have hS : w.cell? ⟨b, 0, none⟩ = some (.slice la pb.length lc) := M.cell 0 rfl rfl
 refine sw_end ⟨fun _ => hS, ?_⟩
 clear hS
 refine sm_one 11 rfl (by kernel_rfl) rfl ?_
 refine sw_sub F ⟨rfl, rfl, rfl⟩ rfl rfl (by omega) rfl fun A F => ?_
 rw [show ((pb.length : Nat) : Int) - 1 = ((pb.length - 1 : Nat) : Int) by omega] at F
 have hS : w.cell? ⟨b, 0, none⟩ = some (.slice la pb.length lc) := M.cell 0 rfl rfl
 refine sw_end ⟨fun _ => hS, ?_⟩
 clear hS
 refine sm_one 12 rfl (by kernel_rfl) rfl ?_
 refine sw_rowtake F (n := pb.length) (k := pb.length - 1) (sz := 3) ⟨rfl, rfl, rfl⟩ rfl rfl (by omega) (M.rowlen 1 rfl).2 Tryd.underlying32 (by kernel_rfl) rfl fun A F => ?_
 have hS : w.cell? ⟨b, 0, none⟩ = some (.slice la pb.length lc) := M.cell 0 rfl rfl
 refine sw_end ⟨fun _ => hS, ?_⟩
 refine sm_nil F 13 rfl ⟨rfl, rfl, rfl⟩ rfl (by kernel_rfl) (by kernel_rfl) (by kernel_rfl) rfl (fun _ _ _ h => h) rfl hS fun A F => ?_
 refine sm_fld F 14 0 rfl ⟨rfl, rfl, rfl⟩ rfl (by kernel_rfl) rfl (by kernel_rfl) (by kernel_rfl) (by kernel_rfl) rfl (fun _ _ _ h => h) rfl hS fun A F => ?_
 clear hS
 refine sm_one 15 rfl (by kernel_rfl) rfl ?_
 refine sw_set F M 0 ⟨rfl, rfl, rfl⟩ rfl rfl rfl (by kernel_rfl) rfl rfl rfl fun w M => ?_
 simp only [List.set_cons_zero, List.set_cons_succ] at M
 refine sw_end ⟨fun h => absurd h (by decide), ?_⟩
 refine wpAnyM_done (by kernel_rfl) ?_ _
 replace M := M.takeR 1 (pb.length - 1) rfl (by omega)
 simp only [List.set_cons_zero, List.set_cons_succ] at M
 refine sw_endnone F Tryd.results42 ⟨_, PEs b y la lc (pb.take (pb.length - 1)) ld, rfl, ?_, rfl, rfl⟩
 have e : (pb.take (pb.length - 1)).length = pb.length - 1 := by rw [List.length_take]; omega
 unfold PEs
 rw [e, List.map_take]
 exact M
set_option maxRecDepth 20000 in
set_option maxHeartbeats 8000000 in
theorem tdrop2_m {b y lc : Nat} {la : Option Addr} {pb : List Ins} {ld : List Bool} (hm : 2 ≤ pb.length) (hl : pb.length ≤ 100000) : MethE 42 [ptr b, .int .i64 2] (PEs b y la lc pb ld) fun v E2 => v = .tuple #[] ∧ E2 = PEs b y la lc (pb.take (pb.length - 2)) ld := by
 refine ⟨by kernel_rfl, fun w0 E w M => ?_⟩
 simp only [List.cons_append, List.nil_append] at M
 refine sw_fn Tryd.func42 rfl 19 Tryd.ntmps42 rfl fun A F => ?_
 refine wp_region_late (fun w' => w'.cell? ⟨b, 0, none⟩ = some (.slice la pb.length lc)) 15 (by kernel_rfl) ?_
 show wpAnyM _ _ _ _ _ _ _ _ _ w.drew
 replace M := M.drew
 have hS : w.drew.cell? ⟨b, 0, none⟩ = some (.slice la pb.length lc) := M.cell 0 rfl rfl
 refine sm_move F 0 rfl ⟨rfl, rfl, rfl⟩ rfl (by kernel_rfl) (by kernel_rfl) (by kernel_rfl) rfl (fun _ _ _ h => h) rfl hS fun A F => ?_
 refine sm_move F 1 rfl ⟨rfl, rfl, rfl⟩ rfl (by kernel_rfl) (by kernel_rfl) (by kernel_rfl) rfl (fun _ _ _ h => h) rfl hS fun A F => ?_
 refine sm_move F 5 rfl ⟨rfl, rfl, rfl⟩ rfl (by kernel_rfl) (by kernel_rfl) (by kernel_rfl) rfl (fun _ _ _ h => h) rfl hS fun A F => ?_
 refine sm_move F 10 rfl ⟨rfl, rfl, rfl⟩ rfl (by kernel_rfl) (by kernel_rfl) (by kernel_rfl) rfl (fun _ _ _ h => h) rfl hS fun A F => ?_
 refine sm_nil F 2 rfl ⟨rfl, rfl, rfl⟩ rfl (by kernel_rfl) (by kernel_rfl) (by kernel_rfl) rfl (fun _ _ _ h => h) rfl hS fun A F => ?_
 refine sm_nil F 6 rfl ⟨rfl, rfl, rfl⟩ rfl (by kernel_rfl) (by kernel_rfl) (by kernel_rfl) rfl (fun _ _ _ h => h) rfl hS fun A F => ?_
 refine sm_fld F 3 0 rfl ⟨rfl, rfl, rfl⟩ rfl (by kernel_rfl) rfl (by kernel_rfl) (by kernel_rfl) (by kernel_rfl) rfl (fun _ _ _ h => h) rfl hS fun A F => ?_
 refine sm_fld F 7 0 rfl ⟨rfl, rfl, rfl⟩ rfl (by kernel_rfl) rfl (by kernel_rfl) (by kernel_rfl) (by kernel_rfl) rfl (fun _ _ _ h => h) rfl hS fun A F => ?_
 refine sm_cell F 4 rfl ⟨rfl, rfl, rfl⟩ rfl (by kernel_rfl) (fun _ h => h) (by kernel_rfl) (by kernel_rfl) (by kernel_rfl) (by kernel_rfl) rfl (fun _ _ _ h => h) rfl hS fun A F => ?_
 refine sm_cell F 8 rfl ⟨rfl, rfl, rfl⟩ rfl (by kernel_rfl) (fun _ h => h) (by kernel_rfl) (by kernel_rfl) (by kernel_rfl) (by kernel_rfl) rfl (fun _ _ _ h => h) rfl hS fun A F => ?_
 clear hS
 refine sm_one 9 rfl (by kernel_rfl) rfl ?_
 refine sw_len F ⟨rfl, rfl, rfl⟩ rfl Tryd.underlying32 rfl fun A F => ?_
 have hS : w.cell? ⟨b, 0, none⟩ = some (.slice la pb.length lc) := M.cell 0 rfl rfl
 refine sw_end ⟨fun _ => hS, ?_⟩
 clear hS
 refine sm_one 11 rfl (by kernel_rfl) rfl ?_
 refine sw_sub F ⟨rfl, rfl, rfl⟩ rfl rfl (by omega) rfl fun A F => ?_
 rw [show ((pb.length : Nat) : Int) - 2 = ((pb.length - 2 : Nat) : Int) by omega] at F
 have hS : w.cell? ⟨b, 0, none⟩ = some (.slice la pb.length lc) := M.cell 0 rfl rfl
 refine sw_end ⟨fun _ => hS, ?_⟩
 clear hS
 refine sm_one 12 rfl (by kernel_rfl) rfl ?_
 refine sw_rowtake F (n := pb.length) (k := pb.length - 2) (sz := 3) ⟨rfl, rfl, rfl⟩ rfl rfl (by omega) (M.rowlen 1 rfl).2 Tryd.underlying32 (by kernel_rfl) rfl fun A F => ?_
 have hS : w.cell? ⟨b, 0, none⟩ = some (.slice la pb.length lc) := M.cell 0 rfl rfl
 refine sw_end ⟨fun _ => hS, ?_⟩
 refine sm_nil F 13 rfl ⟨rfl, rfl, rfl⟩ rfl (by kernel_rfl) (by kernel_rfl) (by kernel_rfl) rfl (fun _ _ _ h => h) rfl hS fun A F => ?_
 refine sm_fld F 14 0 rfl ⟨rfl, rfl, rfl⟩ rfl (by kernel_rfl) rfl (by kernel_rfl) (by kernel_rfl) (by kernel_rfl) rfl (fun _ _ _ h => h) rfl hS fun A F => ?_
 clear hS
 refine sm_one 15 rfl (by kernel_rfl) rfl ?_
 refine sw_set F M 0 ⟨rfl, rfl, rfl⟩ rfl rfl rfl (by kernel_rfl) rfl rfl rfl fun w M => ?_
 simp only [List.set_cons_zero, List.set_cons_succ] at M
 refine sw_end ⟨fun h => absurd h (by decide), ?_⟩
 refine wpAnyM_done (by kernel_rfl) ?_ _
 replace M := M.takeR 1 (pb.length - 2) rfl (by omega)
 simp only [List.set_cons_zero, List.set_cons_succ] at M
 refine sw_endnone F Tryd.results42 ⟨_, PEs b y la lc (pb.take (pb.length - 2)) ld, rfl, ?_, rfl, rfl⟩
 have e : (pb.take (pb.length - 2)).length = pb.length - 2 := by rw [List.length_take]; omega
 unfold PEs
 rw [e, List.map_take]
 exact M
set_option maxRecDepth 20000 in
set_option maxHeartbeats 8000000 in
theorem tpush_m {b y lc : Nat} {la : Option Addr} {pb : List Ins} {ld : List Bool} {n : Int} (hR : RgI ⟨1, n, 0⟩) (hl : pb.length ≤ 100000) : MethE 43 [ptr b, .int .i64 n] (PEs b y la lc pb ld) fun v E2 => v = .tuple #[] ∧ ∃ la' lc', E2 = PEs b y la' lc' (pb ++ [⟨1, n, 0⟩]) ld := by
 refine ⟨by kernel_rfl, fun w0 E w M => ?_⟩
 simp only [List.cons_append, List.nil_append] at M
 refine sw_fn Tryd.func43 rfl 8 Tryd.ntmps43 rfl fun A F => ?_
 refine sw_reg ?_
 refine sw_move F ⟨rfl, rfl, rfl⟩ rfl rfl fun A F => ?_
 refine sw_move F ⟨rfl, rfl, rfl⟩ rfl rfl fun A F => ?_
 refine sw_build F _ [.int .i64 1, .int .i64 n, .int .i64 0] ⟨rfl, rfl, rfl⟩ rfl (by kernel_rfl) rfl fun A F => ?_
 refine sw_callP [] (tput_m (b := b) (y := y) (lc := lc) (la := la) (pb := pb) (ld := ld) (i := ⟨1, n, 0⟩) hR hl) F M ⟨rfl, rfl, rfl⟩ rfl rfl ?_
 rintro _ _ A w ⟨rfl, la2, lc2, rfl⟩ F M
 refine sw_end ?_
 exact sw_endnone F Tryd.results43 ⟨_, _, rfl, M, rfl, _, _, rfl⟩
end Go.Proofs.YtemjajljpoaioaaDoor
