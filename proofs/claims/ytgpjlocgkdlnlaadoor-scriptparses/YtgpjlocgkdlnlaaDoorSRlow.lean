/- The answer's Parser: bad, is. -/
import Derived.Test.YtgpjlocgkdlnlaaDoorM25
namespace Go.Proofs.YtgpjlocgkdlnlaaDoor
open Go.RowKit
set_option linter.unusedVariables false
set_option linter.unusedSimpArgs false

set_option maxRecDepth 8000 in
set_option maxHeartbeats 3200000 in
theorem bad_0 (er : Int) (text : Key) (c : C4) (b at_ : Nat) (kd : Int) (tx : Key) (n lv : Int) (wO : World) (kb : Blk wO b (pC text at_ kd tx n lv 0 c) 43) : Calls Tryd.prog 28 ([ptr b, .int .i64 er] : List Value).toArray wO fun e w' => e = .returned (.tuple #[]) ∧ But (fun k => k = b) wO w' ∧ Blk w' b (pC text at_ kd tx n lv er c) 43 := by
  have hB := But.refl (fun k => k = b) wO
  refine sw_fn Tryd.func28 rfl 13 Tryd.ntmps28 rfl fun A F => ?_
  refine sw_seq ?_
  refine sw_reg ?_
  refine sw_move F ⟨rfl, rfl, rfl⟩ rfl rfl fun A F => ?_
  refine sw_nil F ⟨rfl, rfl, rfl⟩ rfl rfl fun A F => ?_
  refine sw_fld F 6 ⟨rfl, rfl, rfl⟩ rfl (by kernel_rfl) rfl rfl fun A F => ?_
  refine sw_ext F ((kb.cell 6).trans rfl) ⟨rfl, rfl, rfl⟩ rfl (by kernel_rfl) rfl fun A F => ?_
  refine sw_eql F ⟨rfl, rfl, rfl⟩ rfl rfl rfl fun A F => ?_
  refine sw_end ?_
  show Code.wp _ _ _ _ _
  refine sw_true F rfl ?_
  refine sw_reg ?_
  refine sw_move F ⟨rfl, rfl, rfl⟩ rfl rfl fun A F => ?_
  refine sw_move F ⟨rfl, rfl, rfl⟩ rfl rfl fun A F => ?_
  refine sw_nil F ⟨rfl, rfl, rfl⟩ rfl rfl fun A F => ?_
  refine sw_fld F 6 ⟨rfl, rfl, rfl⟩ rfl (by kernel_rfl) rfl rfl fun A F => ?_
  refine sw_setX1 F ⟨rfl, rfl, rfl⟩ rfl rfl kb (by kernel_rfl) rfl rfl rfl fun w B kb => ?_
  replace hB := hB.trans B
  refine sw_end ?_
  repeat (first | refine then_norm ?_ | refine block_norm ?_)
  exact sw_endnone F Tryd.results28 ⟨rfl, hB, kb⟩
set_option maxRecDepth 8000 in
set_option maxHeartbeats 3200000 in
theorem bad_1 (er e0 : Int) (he : (e0 == 0) = false) (text : Key) (c : C4) (b at_ : Nat) (kd : Int) (tx : Key) (n lv : Int) (wO : World) (kb : Blk wO b (pC text at_ kd tx n lv e0 c) 43) : Calls Tryd.prog 28 ([ptr b, .int .i64 er] : List Value).toArray wO fun e w' => e = .returned (.tuple #[]) ∧ But (fun k => k = b) wO w' ∧ Blk w' b (pC text at_ kd tx n lv e0 c) 43 := by
  have hB := But.refl (fun k => k = b) wO
  refine sw_fn Tryd.func28 rfl 13 Tryd.ntmps28 rfl fun A F => ?_
  refine sw_seq ?_
  refine sw_reg ?_
  refine sw_move F ⟨rfl, rfl, rfl⟩ rfl rfl fun A F => ?_
  refine sw_nil F ⟨rfl, rfl, rfl⟩ rfl rfl fun A F => ?_
  refine sw_fld F 6 ⟨rfl, rfl, rfl⟩ rfl (by kernel_rfl) rfl rfl fun A F => ?_
  refine sw_ext F ((kb.cell 6).trans rfl) ⟨rfl, rfl, rfl⟩ rfl (by kernel_rfl) rfl fun A F => ?_
  refine sw_eql F ⟨rfl, rfl, rfl⟩ rfl rfl rfl fun A F => ?_
  rw [he] at F
  refine sw_end ?_
  show Code.wp _ _ _ _ _
  refine sw_false F rfl ?_
  refine wp_skip ?_
  repeat (first | refine then_norm ?_ | refine block_norm ?_)
  exact sw_endnone F Tryd.results28 ⟨rfl, hB, kb⟩
theorem bad_m (er : Int) (her : er ≠ 0) (text : Key) (c : C4) (b : Nat) (S : ES) : Meth Tryd.prog (PdX text c b) (fun k => k = b) 28 [ptr b, .int .i64 er] S fun v fs S' => Rv (fun _ => (failT er : PM Unit)) S () S' := by
  refine ⟨by kernel_rfl, fun w R _ => ?_⟩
  cases S with
  | ok σ =>
    obtain ⟨a, t, h1, h2, k, h3⟩ := R
    refine (bad_0 er text c b _ _ _ _ _ w k).mono ?_
    rintro e w' ⟨rfl, hB, k'⟩
    exact ⟨_, [], .error er, rfl, hB, ⟨her, _, _, _, _, _, k'⟩, lie_nil _ _, Rv.of (Rel.of_err rfl)⟩
  | error e0 =>
    obtain ⟨h, a, kd, t, n, lv, k⟩ := R
    refine (bad_1 er e0 (by simpa using h) text c b _ _ _ _ _ w k).mono ?_
    rintro e w' ⟨rfl, hB, k'⟩
    exact ⟨_, [], .error e0, rfl, hB, ⟨h, _, _, _, _, _, k'⟩, lie_nil _ _, Rv.of rfl⟩
set_option maxRecDepth 8000 in
set_option maxHeartbeats 3200000 in
theorem is_0 (s : Key) (text : Key) (c : C4) (b at_ : Nat) (tx : Key) (n lv : Int) (wO : World) (kb : Blk wO b (pC text at_ 0 tx n lv 0 c) 43) : Calls Tryd.prog 13 ([ptr b, .string (str s)] : List Value).toArray wO fun e w' => e = .returned (.bool (false)) ∧ But (fun k => k = b) wO w' ∧ Blk w' b (pC text at_ 0 tx n lv 0 c) 43 := by
  have hB := But.refl (fun k => k = b) wO
  refine sw_fn Tryd.func13 rfl 35 Tryd.ntmps13 rfl fun A F => ?_
  refine sw_seq ?_
  refine sw_reg ?_
  refine sw_asg F ⟨rfl, rfl, rfl⟩ rfl rfl fun A F => ?_
  refine sw_end ?_
  show Code.wp _ _ _ _ _
  refine sw_seq ?_
  refine sw_reg ?_
  refine sw_move F ⟨rfl, rfl, rfl⟩ rfl rfl fun A F => ?_
  refine sw_nil F ⟨rfl, rfl, rfl⟩ rfl rfl fun A F => ?_
  refine sw_fld F 6 ⟨rfl, rfl, rfl⟩ rfl (by kernel_rfl) rfl rfl fun A F => ?_
  refine sw_ext F ((kb.cell 6).trans rfl) ⟨rfl, rfl, rfl⟩ rfl (by kernel_rfl) rfl fun A F => ?_
  refine sw_eql F ⟨rfl, rfl, rfl⟩ rfl rfl rfl fun A F => ?_
  refine sw_move F ⟨rfl, rfl, rfl⟩ rfl rfl fun A F => ?_
  refine sw_on F 5 rfl rfl rfl rfl rfl ?_
  refine sw_move F ⟨rfl, rfl, rfl⟩ rfl rfl fun A F => ?_
  refine sw_on F 5 rfl rfl rfl rfl rfl ?_
  refine sw_nil F ⟨rfl, rfl, rfl⟩ rfl rfl fun A F => ?_
  refine sw_on F 5 rfl rfl rfl rfl rfl ?_
  refine sw_fld F 2 ⟨rfl, rfl, rfl⟩ rfl (by kernel_rfl) rfl rfl fun A F => ?_
  refine sw_on F 5 rfl rfl rfl rfl rfl ?_
  refine sw_fld F 0 ⟨rfl, rfl, rfl⟩ rfl (by kernel_rfl) rfl rfl fun A F => ?_
  refine sw_on F 5 rfl rfl rfl rfl rfl ?_
  refine sw_ext F ((kb.cell 2).trans rfl) ⟨rfl, rfl, rfl⟩ rfl (by kernel_rfl) rfl fun A F => ?_
  refine sw_on F 5 rfl rfl rfl rfl rfl ?_
  refine sw_eql F ⟨rfl, rfl, rfl⟩ rfl rfl rfl fun A F => ?_
  refine sw_on F 5 rfl rfl rfl rfl rfl ?_
  refine sw_move F ⟨rfl, rfl, rfl⟩ rfl rfl fun A F => ?_
  refine sw_on F 12 rfl rfl rfl rfl rfl ?_
  refine sw_move F ⟨rfl, rfl, rfl⟩ rfl rfl fun A F => ?_
  refine sw_on F 12 rfl rfl rfl rfl rfl ?_
  refine sw_nil F ⟨rfl, rfl, rfl⟩ rfl rfl fun A F => ?_
  refine sw_on F 12 rfl rfl rfl rfl rfl ?_
  refine sw_fld F 2 ⟨rfl, rfl, rfl⟩ rfl (by kernel_rfl) rfl rfl fun A F => ?_
  refine sw_on F 12 rfl rfl rfl rfl rfl ?_
  refine sw_fld F 0 ⟨rfl, rfl, rfl⟩ rfl (by kernel_rfl) rfl rfl fun A F => ?_
  refine sw_on F 12 rfl rfl rfl rfl rfl ?_
  refine sw_ext F ((kb.cell 2).trans rfl) ⟨rfl, rfl, rfl⟩ rfl (by kernel_rfl) rfl fun A F => ?_
  refine sw_on F 12 rfl rfl rfl rfl rfl ?_
  refine sw_eql F ⟨rfl, rfl, rfl⟩ rfl rfl rfl fun A F => ?_
  refine sw_on F 5 rfl rfl rfl rfl rfl ?_
  refine sw_pickF F ⟨rfl, rfl, rfl⟩ rfl rfl rfl fun A F => ?_
  refine sw_pickT F ⟨rfl, rfl, rfl⟩ rfl rfl rfl fun A F => ?_
  refine sw_move F ⟨rfl, rfl, rfl⟩ rfl rfl fun A F => ?_
  refine sw_off F 21 rfl rfl rfl rfl rfl rfl rfl fun A F => ?_
  refine sw_off F 21 rfl rfl rfl rfl rfl rfl rfl fun A F => ?_
  refine sw_off F 21 rfl rfl rfl rfl rfl rfl rfl fun A F => ?_
  refine sw_off F 21 rfl rfl rfl rfl rfl rfl rfl fun A F => ?_
  refine sw_off F 21 rfl rfl rfl rfl rfl rfl rfl fun A F => ?_
  refine sw_off F 21 rfl rfl rfl rfl rfl rfl rfl fun A F => ?_
  refine sw_off F 21 rfl rfl rfl rfl rfl rfl rfl fun A F => ?_
  refine sw_pickF F ⟨rfl, rfl, rfl⟩ rfl rfl rfl fun A F => ?_
  refine sw_asg F ⟨rfl, rfl, rfl⟩ rfl rfl fun A F => ?_
  refine sw_end ?_
  show Code.wp _ _ _ _ _
  refine wp_ret ?_
  repeat (first | refine then_ret ?_ | refine block_ret ?_)
  exact sw_rettmp F Tryd.results13 rfl ⟨rfl, hB, kb⟩
set_option maxRecDepth 8000 in
set_option maxHeartbeats 3200000 in
theorem is_101 (s : Key) (text : Key) (c : C4) (b at_ : Nat) (tx : Key) (n lv : Int) (wO : World) (kb : Blk wO b (pC text at_ 101 tx n lv 0 c) 43) : Calls Tryd.prog 13 ([ptr b, .string (str s)] : List Value).toArray wO fun e w' => e = .returned (.bool (false)) ∧ But (fun k => k = b) wO w' ∧ Blk w' b (pC text at_ 101 tx n lv 0 c) 43 := by
  have hB := But.refl (fun k => k = b) wO
  refine sw_fn Tryd.func13 rfl 35 Tryd.ntmps13 rfl fun A F => ?_
  refine sw_seq ?_
  refine sw_reg ?_
  refine sw_asg F ⟨rfl, rfl, rfl⟩ rfl rfl fun A F => ?_
  refine sw_end ?_
  show Code.wp _ _ _ _ _
  refine sw_seq ?_
  refine sw_reg ?_
  refine sw_move F ⟨rfl, rfl, rfl⟩ rfl rfl fun A F => ?_
  refine sw_nil F ⟨rfl, rfl, rfl⟩ rfl rfl fun A F => ?_
  refine sw_fld F 6 ⟨rfl, rfl, rfl⟩ rfl (by kernel_rfl) rfl rfl fun A F => ?_
  refine sw_ext F ((kb.cell 6).trans rfl) ⟨rfl, rfl, rfl⟩ rfl (by kernel_rfl) rfl fun A F => ?_
  refine sw_eql F ⟨rfl, rfl, rfl⟩ rfl rfl rfl fun A F => ?_
  refine sw_move F ⟨rfl, rfl, rfl⟩ rfl rfl fun A F => ?_
  refine sw_on F 5 rfl rfl rfl rfl rfl ?_
  refine sw_move F ⟨rfl, rfl, rfl⟩ rfl rfl fun A F => ?_
  refine sw_on F 5 rfl rfl rfl rfl rfl ?_
  refine sw_nil F ⟨rfl, rfl, rfl⟩ rfl rfl fun A F => ?_
  refine sw_on F 5 rfl rfl rfl rfl rfl ?_
  refine sw_fld F 2 ⟨rfl, rfl, rfl⟩ rfl (by kernel_rfl) rfl rfl fun A F => ?_
  refine sw_on F 5 rfl rfl rfl rfl rfl ?_
  refine sw_fld F 0 ⟨rfl, rfl, rfl⟩ rfl (by kernel_rfl) rfl rfl fun A F => ?_
  refine sw_on F 5 rfl rfl rfl rfl rfl ?_
  refine sw_ext F ((kb.cell 2).trans rfl) ⟨rfl, rfl, rfl⟩ rfl (by kernel_rfl) rfl fun A F => ?_
  refine sw_on F 5 rfl rfl rfl rfl rfl ?_
  refine sw_eql F ⟨rfl, rfl, rfl⟩ rfl rfl rfl fun A F => ?_
  refine sw_on F 5 rfl rfl rfl rfl rfl ?_
  refine sw_move F ⟨rfl, rfl, rfl⟩ rfl rfl fun A F => ?_
  refine sw_on F 12 rfl rfl rfl rfl rfl ?_
  refine sw_move F ⟨rfl, rfl, rfl⟩ rfl rfl fun A F => ?_
  refine sw_on F 12 rfl rfl rfl rfl rfl ?_
  refine sw_nil F ⟨rfl, rfl, rfl⟩ rfl rfl fun A F => ?_
  refine sw_on F 12 rfl rfl rfl rfl rfl ?_
  refine sw_fld F 2 ⟨rfl, rfl, rfl⟩ rfl (by kernel_rfl) rfl rfl fun A F => ?_
  refine sw_on F 12 rfl rfl rfl rfl rfl ?_
  refine sw_fld F 0 ⟨rfl, rfl, rfl⟩ rfl (by kernel_rfl) rfl rfl fun A F => ?_
  refine sw_on F 12 rfl rfl rfl rfl rfl ?_
  refine sw_ext F ((kb.cell 2).trans rfl) ⟨rfl, rfl, rfl⟩ rfl (by kernel_rfl) rfl fun A F => ?_
  refine sw_on F 12 rfl rfl rfl rfl rfl ?_
  refine sw_eql F ⟨rfl, rfl, rfl⟩ rfl rfl rfl fun A F => ?_
  refine sw_on F 5 rfl rfl rfl rfl rfl ?_
  refine sw_pickF F ⟨rfl, rfl, rfl⟩ rfl rfl rfl fun A F => ?_
  refine sw_pickT F ⟨rfl, rfl, rfl⟩ rfl rfl rfl fun A F => ?_
  refine sw_move F ⟨rfl, rfl, rfl⟩ rfl rfl fun A F => ?_
  refine sw_off F 21 rfl rfl rfl rfl rfl rfl rfl fun A F => ?_
  refine sw_off F 21 rfl rfl rfl rfl rfl rfl rfl fun A F => ?_
  refine sw_off F 21 rfl rfl rfl rfl rfl rfl rfl fun A F => ?_
  refine sw_off F 21 rfl rfl rfl rfl rfl rfl rfl fun A F => ?_
  refine sw_off F 21 rfl rfl rfl rfl rfl rfl rfl fun A F => ?_
  refine sw_off F 21 rfl rfl rfl rfl rfl rfl rfl fun A F => ?_
  refine sw_off F 21 rfl rfl rfl rfl rfl rfl rfl fun A F => ?_
  refine sw_pickF F ⟨rfl, rfl, rfl⟩ rfl rfl rfl fun A F => ?_
  refine sw_asg F ⟨rfl, rfl, rfl⟩ rfl rfl fun A F => ?_
  refine sw_end ?_
  show Code.wp _ _ _ _ _
  refine wp_ret ?_
  repeat (first | refine then_ret ?_ | refine block_ret ?_)
  exact sw_rettmp F Tryd.results13 rfl ⟨rfl, hB, kb⟩
set_option maxRecDepth 8000 in
set_option maxHeartbeats 3200000 in
theorem is_110 (s : Key) (text : Key) (c : C4) (b at_ : Nat) (tx : Key) (n lv : Int) (wO : World) (kb : Blk wO b (pC text at_ 110 tx n lv 0 c) 43) : Calls Tryd.prog 13 ([ptr b, .string (str s)] : List Value).toArray wO fun e w' => e = .returned (.bool (false)) ∧ But (fun k => k = b) wO w' ∧ Blk w' b (pC text at_ 110 tx n lv 0 c) 43 := by
  have hB := But.refl (fun k => k = b) wO
  refine sw_fn Tryd.func13 rfl 35 Tryd.ntmps13 rfl fun A F => ?_
  refine sw_seq ?_
  refine sw_reg ?_
  refine sw_asg F ⟨rfl, rfl, rfl⟩ rfl rfl fun A F => ?_
  refine sw_end ?_
  show Code.wp _ _ _ _ _
  refine sw_seq ?_
  refine sw_reg ?_
  refine sw_move F ⟨rfl, rfl, rfl⟩ rfl rfl fun A F => ?_
  refine sw_nil F ⟨rfl, rfl, rfl⟩ rfl rfl fun A F => ?_
  refine sw_fld F 6 ⟨rfl, rfl, rfl⟩ rfl (by kernel_rfl) rfl rfl fun A F => ?_
  refine sw_ext F ((kb.cell 6).trans rfl) ⟨rfl, rfl, rfl⟩ rfl (by kernel_rfl) rfl fun A F => ?_
  refine sw_eql F ⟨rfl, rfl, rfl⟩ rfl rfl rfl fun A F => ?_
  refine sw_move F ⟨rfl, rfl, rfl⟩ rfl rfl fun A F => ?_
  refine sw_on F 5 rfl rfl rfl rfl rfl ?_
  refine sw_move F ⟨rfl, rfl, rfl⟩ rfl rfl fun A F => ?_
  refine sw_on F 5 rfl rfl rfl rfl rfl ?_
  refine sw_nil F ⟨rfl, rfl, rfl⟩ rfl rfl fun A F => ?_
  refine sw_on F 5 rfl rfl rfl rfl rfl ?_
  refine sw_fld F 2 ⟨rfl, rfl, rfl⟩ rfl (by kernel_rfl) rfl rfl fun A F => ?_
  refine sw_on F 5 rfl rfl rfl rfl rfl ?_
  refine sw_fld F 0 ⟨rfl, rfl, rfl⟩ rfl (by kernel_rfl) rfl rfl fun A F => ?_
  refine sw_on F 5 rfl rfl rfl rfl rfl ?_
  refine sw_ext F ((kb.cell 2).trans rfl) ⟨rfl, rfl, rfl⟩ rfl (by kernel_rfl) rfl fun A F => ?_
  refine sw_on F 5 rfl rfl rfl rfl rfl ?_
  refine sw_eql F ⟨rfl, rfl, rfl⟩ rfl rfl rfl fun A F => ?_
  refine sw_on F 5 rfl rfl rfl rfl rfl ?_
  refine sw_move F ⟨rfl, rfl, rfl⟩ rfl rfl fun A F => ?_
  refine sw_on F 12 rfl rfl rfl rfl rfl ?_
  refine sw_move F ⟨rfl, rfl, rfl⟩ rfl rfl fun A F => ?_
  refine sw_on F 12 rfl rfl rfl rfl rfl ?_
  refine sw_nil F ⟨rfl, rfl, rfl⟩ rfl rfl fun A F => ?_
  refine sw_on F 12 rfl rfl rfl rfl rfl ?_
  refine sw_fld F 2 ⟨rfl, rfl, rfl⟩ rfl (by kernel_rfl) rfl rfl fun A F => ?_
  refine sw_on F 12 rfl rfl rfl rfl rfl ?_
  refine sw_fld F 0 ⟨rfl, rfl, rfl⟩ rfl (by kernel_rfl) rfl rfl fun A F => ?_
  refine sw_on F 12 rfl rfl rfl rfl rfl ?_
  refine sw_ext F ((kb.cell 2).trans rfl) ⟨rfl, rfl, rfl⟩ rfl (by kernel_rfl) rfl fun A F => ?_
  refine sw_on F 12 rfl rfl rfl rfl rfl ?_
  refine sw_eql F ⟨rfl, rfl, rfl⟩ rfl rfl rfl fun A F => ?_
  refine sw_on F 5 rfl rfl rfl rfl rfl ?_
  refine sw_pickF F ⟨rfl, rfl, rfl⟩ rfl rfl rfl fun A F => ?_
  refine sw_pickT F ⟨rfl, rfl, rfl⟩ rfl rfl rfl fun A F => ?_
  refine sw_move F ⟨rfl, rfl, rfl⟩ rfl rfl fun A F => ?_
  refine sw_off F 21 rfl rfl rfl rfl rfl rfl rfl fun A F => ?_
  refine sw_off F 21 rfl rfl rfl rfl rfl rfl rfl fun A F => ?_
  refine sw_off F 21 rfl rfl rfl rfl rfl rfl rfl fun A F => ?_
  refine sw_off F 21 rfl rfl rfl rfl rfl rfl rfl fun A F => ?_
  refine sw_off F 21 rfl rfl rfl rfl rfl rfl rfl fun A F => ?_
  refine sw_off F 21 rfl rfl rfl rfl rfl rfl rfl fun A F => ?_
  refine sw_off F 21 rfl rfl rfl rfl rfl rfl rfl fun A F => ?_
  refine sw_pickF F ⟨rfl, rfl, rfl⟩ rfl rfl rfl fun A F => ?_
  refine sw_asg F ⟨rfl, rfl, rfl⟩ rfl rfl fun A F => ?_
  refine sw_end ?_
  show Code.wp _ _ _ _ _
  refine wp_ret ?_
  repeat (first | refine then_ret ?_ | refine block_ret ?_)
  exact sw_rettmp F Tryd.results13 rfl ⟨rfl, hB, kb⟩
set_option maxRecDepth 8000 in
set_option maxHeartbeats 3200000 in
theorem is_48 (s : Key) (text : Key) (c : C4) (b at_ : Nat) (tx : Key) (n lv : Int) (wO : World) (kb : Blk wO b (pC text at_ 48 tx n lv 0 c) 43) : Calls Tryd.prog 13 ([ptr b, .string (str s)] : List Value).toArray wO fun e w' => e = .returned (.bool (false)) ∧ But (fun k => k = b) wO w' ∧ Blk w' b (pC text at_ 48 tx n lv 0 c) 43 := by
  have hB := But.refl (fun k => k = b) wO
  refine sw_fn Tryd.func13 rfl 35 Tryd.ntmps13 rfl fun A F => ?_
  refine sw_seq ?_
  refine sw_reg ?_
  refine sw_asg F ⟨rfl, rfl, rfl⟩ rfl rfl fun A F => ?_
  refine sw_end ?_
  show Code.wp _ _ _ _ _
  refine sw_seq ?_
  refine sw_reg ?_
  refine sw_move F ⟨rfl, rfl, rfl⟩ rfl rfl fun A F => ?_
  refine sw_nil F ⟨rfl, rfl, rfl⟩ rfl rfl fun A F => ?_
  refine sw_fld F 6 ⟨rfl, rfl, rfl⟩ rfl (by kernel_rfl) rfl rfl fun A F => ?_
  refine sw_ext F ((kb.cell 6).trans rfl) ⟨rfl, rfl, rfl⟩ rfl (by kernel_rfl) rfl fun A F => ?_
  refine sw_eql F ⟨rfl, rfl, rfl⟩ rfl rfl rfl fun A F => ?_
  refine sw_move F ⟨rfl, rfl, rfl⟩ rfl rfl fun A F => ?_
  refine sw_on F 5 rfl rfl rfl rfl rfl ?_
  refine sw_move F ⟨rfl, rfl, rfl⟩ rfl rfl fun A F => ?_
  refine sw_on F 5 rfl rfl rfl rfl rfl ?_
  refine sw_nil F ⟨rfl, rfl, rfl⟩ rfl rfl fun A F => ?_
  refine sw_on F 5 rfl rfl rfl rfl rfl ?_
  refine sw_fld F 2 ⟨rfl, rfl, rfl⟩ rfl (by kernel_rfl) rfl rfl fun A F => ?_
  refine sw_on F 5 rfl rfl rfl rfl rfl ?_
  refine sw_fld F 0 ⟨rfl, rfl, rfl⟩ rfl (by kernel_rfl) rfl rfl fun A F => ?_
  refine sw_on F 5 rfl rfl rfl rfl rfl ?_
  refine sw_ext F ((kb.cell 2).trans rfl) ⟨rfl, rfl, rfl⟩ rfl (by kernel_rfl) rfl fun A F => ?_
  refine sw_on F 5 rfl rfl rfl rfl rfl ?_
  refine sw_eql F ⟨rfl, rfl, rfl⟩ rfl rfl rfl fun A F => ?_
  refine sw_on F 5 rfl rfl rfl rfl rfl ?_
  refine sw_move F ⟨rfl, rfl, rfl⟩ rfl rfl fun A F => ?_
  refine sw_on F 12 rfl rfl rfl rfl rfl ?_
  refine sw_move F ⟨rfl, rfl, rfl⟩ rfl rfl fun A F => ?_
  refine sw_on F 12 rfl rfl rfl rfl rfl ?_
  refine sw_nil F ⟨rfl, rfl, rfl⟩ rfl rfl fun A F => ?_
  refine sw_on F 12 rfl rfl rfl rfl rfl ?_
  refine sw_fld F 2 ⟨rfl, rfl, rfl⟩ rfl (by kernel_rfl) rfl rfl fun A F => ?_
  refine sw_on F 12 rfl rfl rfl rfl rfl ?_
  refine sw_fld F 0 ⟨rfl, rfl, rfl⟩ rfl (by kernel_rfl) rfl rfl fun A F => ?_
  refine sw_on F 12 rfl rfl rfl rfl rfl ?_
  refine sw_ext F ((kb.cell 2).trans rfl) ⟨rfl, rfl, rfl⟩ rfl (by kernel_rfl) rfl fun A F => ?_
  refine sw_on F 12 rfl rfl rfl rfl rfl ?_
  refine sw_eql F ⟨rfl, rfl, rfl⟩ rfl rfl rfl fun A F => ?_
  refine sw_on F 5 rfl rfl rfl rfl rfl ?_
  refine sw_pickF F ⟨rfl, rfl, rfl⟩ rfl rfl rfl fun A F => ?_
  refine sw_pickT F ⟨rfl, rfl, rfl⟩ rfl rfl rfl fun A F => ?_
  refine sw_move F ⟨rfl, rfl, rfl⟩ rfl rfl fun A F => ?_
  refine sw_off F 21 rfl rfl rfl rfl rfl rfl rfl fun A F => ?_
  refine sw_off F 21 rfl rfl rfl rfl rfl rfl rfl fun A F => ?_
  refine sw_off F 21 rfl rfl rfl rfl rfl rfl rfl fun A F => ?_
  refine sw_off F 21 rfl rfl rfl rfl rfl rfl rfl fun A F => ?_
  refine sw_off F 21 rfl rfl rfl rfl rfl rfl rfl fun A F => ?_
  refine sw_off F 21 rfl rfl rfl rfl rfl rfl rfl fun A F => ?_
  refine sw_off F 21 rfl rfl rfl rfl rfl rfl rfl fun A F => ?_
  refine sw_pickF F ⟨rfl, rfl, rfl⟩ rfl rfl rfl fun A F => ?_
  refine sw_asg F ⟨rfl, rfl, rfl⟩ rfl rfl fun A F => ?_
  refine sw_end ?_
  show Code.wp _ _ _ _ _
  refine wp_ret ?_
  repeat (first | refine then_ret ?_ | refine block_ret ?_)
  exact sw_rettmp F Tryd.results13 rfl ⟨rfl, hB, kb⟩
set_option maxRecDepth 8000 in
set_option maxHeartbeats 3200000 in
theorem is_119 (s : Key) (text : Key) (c : C4) (b at_ : Nat) (tx : Key) (n lv : Int) (wO : World) (kb : Blk wO b (pC text at_ 119 tx n lv 0 c) 43) : Calls Tryd.prog 13 ([ptr b, .string (str s)] : List Value).toArray wO fun e w' => e = .returned (.bool (tx == s)) ∧ But (fun k => k = b) wO w' ∧ Blk w' b (pC text at_ 119 tx n lv 0 c) 43 := by
  have hB := But.refl (fun k => k = b) wO
  refine sw_fn Tryd.func13 rfl 35 Tryd.ntmps13 rfl fun A F => ?_
  refine sw_seq ?_
  refine sw_reg ?_
  refine sw_asg F ⟨rfl, rfl, rfl⟩ rfl rfl fun A F => ?_
  refine sw_end ?_
  show Code.wp _ _ _ _ _
  refine sw_seq ?_
  refine sw_reg ?_
  refine sw_move F ⟨rfl, rfl, rfl⟩ rfl rfl fun A F => ?_
  refine sw_nil F ⟨rfl, rfl, rfl⟩ rfl rfl fun A F => ?_
  refine sw_fld F 6 ⟨rfl, rfl, rfl⟩ rfl (by kernel_rfl) rfl rfl fun A F => ?_
  refine sw_ext F ((kb.cell 6).trans rfl) ⟨rfl, rfl, rfl⟩ rfl (by kernel_rfl) rfl fun A F => ?_
  refine sw_eql F ⟨rfl, rfl, rfl⟩ rfl rfl rfl fun A F => ?_
  refine sw_move F ⟨rfl, rfl, rfl⟩ rfl rfl fun A F => ?_
  refine sw_on F 5 rfl rfl rfl rfl rfl ?_
  refine sw_move F ⟨rfl, rfl, rfl⟩ rfl rfl fun A F => ?_
  refine sw_on F 5 rfl rfl rfl rfl rfl ?_
  refine sw_nil F ⟨rfl, rfl, rfl⟩ rfl rfl fun A F => ?_
  refine sw_on F 5 rfl rfl rfl rfl rfl ?_
  refine sw_fld F 2 ⟨rfl, rfl, rfl⟩ rfl (by kernel_rfl) rfl rfl fun A F => ?_
  refine sw_on F 5 rfl rfl rfl rfl rfl ?_
  refine sw_fld F 0 ⟨rfl, rfl, rfl⟩ rfl (by kernel_rfl) rfl rfl fun A F => ?_
  refine sw_on F 5 rfl rfl rfl rfl rfl ?_
  refine sw_ext F ((kb.cell 2).trans rfl) ⟨rfl, rfl, rfl⟩ rfl (by kernel_rfl) rfl fun A F => ?_
  refine sw_on F 5 rfl rfl rfl rfl rfl ?_
  refine sw_eql F ⟨rfl, rfl, rfl⟩ rfl rfl rfl fun A F => ?_
  refine sw_on F 5 rfl rfl rfl rfl rfl ?_
  refine sw_move F ⟨rfl, rfl, rfl⟩ rfl rfl fun A F => ?_
  refine sw_on F 12 rfl rfl rfl rfl rfl ?_
  refine sw_move F ⟨rfl, rfl, rfl⟩ rfl rfl fun A F => ?_
  refine sw_on F 12 rfl rfl rfl rfl rfl ?_
  refine sw_nil F ⟨rfl, rfl, rfl⟩ rfl rfl fun A F => ?_
  refine sw_on F 12 rfl rfl rfl rfl rfl ?_
  refine sw_fld F 2 ⟨rfl, rfl, rfl⟩ rfl (by kernel_rfl) rfl rfl fun A F => ?_
  refine sw_on F 12 rfl rfl rfl rfl rfl ?_
  refine sw_fld F 0 ⟨rfl, rfl, rfl⟩ rfl (by kernel_rfl) rfl rfl fun A F => ?_
  refine sw_on F 12 rfl rfl rfl rfl rfl ?_
  refine sw_ext F ((kb.cell 2).trans rfl) ⟨rfl, rfl, rfl⟩ rfl (by kernel_rfl) rfl fun A F => ?_
  refine sw_on F 12 rfl rfl rfl rfl rfl ?_
  refine sw_eql F ⟨rfl, rfl, rfl⟩ rfl rfl rfl fun A F => ?_
  refine sw_on F 5 rfl rfl rfl rfl rfl ?_
  refine sw_pickF F ⟨rfl, rfl, rfl⟩ rfl rfl rfl fun A F => ?_
  refine sw_pickT F ⟨rfl, rfl, rfl⟩ rfl rfl rfl fun A F => ?_
  refine sw_move F ⟨rfl, rfl, rfl⟩ rfl rfl fun A F => ?_
  refine sw_on F 21 rfl rfl rfl rfl rfl ?_
  refine sw_move F ⟨rfl, rfl, rfl⟩ rfl rfl fun A F => ?_
  refine sw_on F 21 rfl rfl rfl rfl rfl ?_
  refine sw_nil F ⟨rfl, rfl, rfl⟩ rfl rfl fun A F => ?_
  refine sw_on F 21 rfl rfl rfl rfl rfl ?_
  refine sw_fld F 2 ⟨rfl, rfl, rfl⟩ rfl (by kernel_rfl) rfl rfl fun A F => ?_
  refine sw_on F 21 rfl rfl rfl rfl rfl ?_
  refine sw_fld F 1 ⟨rfl, rfl, rfl⟩ rfl (by kernel_rfl) rfl rfl fun A F => ?_
  refine sw_on F 21 rfl rfl rfl rfl rfl ?_
  refine sw_ext F ((kb.cell 3).trans rfl) ⟨rfl, rfl, rfl⟩ rfl (by kernel_rfl) rfl fun A F => ?_
  refine sw_on F 21 rfl rfl rfl rfl rfl ?_
  refine sw_move F ⟨rfl, rfl, rfl⟩ rfl rfl fun A F => ?_
  refine sw_on F 21 rfl rfl rfl rfl rfl ?_
  refine sw_seq2 F ⟨rfl, rfl, rfl⟩ rfl rfl rfl fun A F => ?_
  refine sw_pickT F ⟨rfl, rfl, rfl⟩ rfl rfl rfl fun A F => ?_
  refine sw_asg F ⟨rfl, rfl, rfl⟩ rfl rfl fun A F => ?_
  refine sw_end ?_
  show Code.wp _ _ _ _ _
  refine wp_ret ?_
  repeat (first | refine then_ret ?_ | refine block_ret ?_)
  exact sw_rettmp F Tryd.results13 rfl ⟨rfl, hB, kb⟩
set_option maxRecDepth 8000 in
set_option maxHeartbeats 3200000 in
theorem is_115 (s : Key) (text : Key) (c : C4) (b at_ : Nat) (tx : Key) (n lv : Int) (wO : World) (kb : Blk wO b (pC text at_ 115 tx n lv 0 c) 43) : Calls Tryd.prog 13 ([ptr b, .string (str s)] : List Value).toArray wO fun e w' => e = .returned (.bool (tx == s)) ∧ But (fun k => k = b) wO w' ∧ Blk w' b (pC text at_ 115 tx n lv 0 c) 43 := by
  have hB := But.refl (fun k => k = b) wO
  refine sw_fn Tryd.func13 rfl 35 Tryd.ntmps13 rfl fun A F => ?_
  refine sw_seq ?_
  refine sw_reg ?_
  refine sw_asg F ⟨rfl, rfl, rfl⟩ rfl rfl fun A F => ?_
  refine sw_end ?_
  show Code.wp _ _ _ _ _
  refine sw_seq ?_
  refine sw_reg ?_
  refine sw_move F ⟨rfl, rfl, rfl⟩ rfl rfl fun A F => ?_
  refine sw_nil F ⟨rfl, rfl, rfl⟩ rfl rfl fun A F => ?_
  refine sw_fld F 6 ⟨rfl, rfl, rfl⟩ rfl (by kernel_rfl) rfl rfl fun A F => ?_
  refine sw_ext F ((kb.cell 6).trans rfl) ⟨rfl, rfl, rfl⟩ rfl (by kernel_rfl) rfl fun A F => ?_
  refine sw_eql F ⟨rfl, rfl, rfl⟩ rfl rfl rfl fun A F => ?_
  refine sw_move F ⟨rfl, rfl, rfl⟩ rfl rfl fun A F => ?_
  refine sw_on F 5 rfl rfl rfl rfl rfl ?_
  refine sw_move F ⟨rfl, rfl, rfl⟩ rfl rfl fun A F => ?_
  refine sw_on F 5 rfl rfl rfl rfl rfl ?_
  refine sw_nil F ⟨rfl, rfl, rfl⟩ rfl rfl fun A F => ?_
  refine sw_on F 5 rfl rfl rfl rfl rfl ?_
  refine sw_fld F 2 ⟨rfl, rfl, rfl⟩ rfl (by kernel_rfl) rfl rfl fun A F => ?_
  refine sw_on F 5 rfl rfl rfl rfl rfl ?_
  refine sw_fld F 0 ⟨rfl, rfl, rfl⟩ rfl (by kernel_rfl) rfl rfl fun A F => ?_
  refine sw_on F 5 rfl rfl rfl rfl rfl ?_
  refine sw_ext F ((kb.cell 2).trans rfl) ⟨rfl, rfl, rfl⟩ rfl (by kernel_rfl) rfl fun A F => ?_
  refine sw_on F 5 rfl rfl rfl rfl rfl ?_
  refine sw_eql F ⟨rfl, rfl, rfl⟩ rfl rfl rfl fun A F => ?_
  refine sw_on F 5 rfl rfl rfl rfl rfl ?_
  refine sw_move F ⟨rfl, rfl, rfl⟩ rfl rfl fun A F => ?_
  refine sw_off F 12 rfl rfl rfl rfl rfl rfl rfl fun A F => ?_
  refine sw_off F 12 rfl rfl rfl rfl rfl rfl rfl fun A F => ?_
  refine sw_off F 12 rfl rfl rfl rfl rfl rfl rfl fun A F => ?_
  refine sw_off F 12 rfl rfl rfl rfl rfl rfl rfl fun A F => ?_
  refine sw_off F 12 rfl rfl rfl rfl rfl rfl rfl fun A F => ?_
  refine sw_off F 12 rfl rfl rfl rfl rfl rfl rfl fun A F => ?_
  refine sw_on F 5 rfl rfl rfl rfl rfl ?_
  refine sw_pickT F ⟨rfl, rfl, rfl⟩ rfl rfl rfl fun A F => ?_
  refine sw_pickT F ⟨rfl, rfl, rfl⟩ rfl rfl rfl fun A F => ?_
  refine sw_move F ⟨rfl, rfl, rfl⟩ rfl rfl fun A F => ?_
  refine sw_on F 21 rfl rfl rfl rfl rfl ?_
  refine sw_move F ⟨rfl, rfl, rfl⟩ rfl rfl fun A F => ?_
  refine sw_on F 21 rfl rfl rfl rfl rfl ?_
  refine sw_nil F ⟨rfl, rfl, rfl⟩ rfl rfl fun A F => ?_
  refine sw_on F 21 rfl rfl rfl rfl rfl ?_
  refine sw_fld F 2 ⟨rfl, rfl, rfl⟩ rfl (by kernel_rfl) rfl rfl fun A F => ?_
  refine sw_on F 21 rfl rfl rfl rfl rfl ?_
  refine sw_fld F 1 ⟨rfl, rfl, rfl⟩ rfl (by kernel_rfl) rfl rfl fun A F => ?_
  refine sw_on F 21 rfl rfl rfl rfl rfl ?_
  refine sw_ext F ((kb.cell 3).trans rfl) ⟨rfl, rfl, rfl⟩ rfl (by kernel_rfl) rfl fun A F => ?_
  refine sw_on F 21 rfl rfl rfl rfl rfl ?_
  refine sw_move F ⟨rfl, rfl, rfl⟩ rfl rfl fun A F => ?_
  refine sw_on F 21 rfl rfl rfl rfl rfl ?_
  refine sw_seq2 F ⟨rfl, rfl, rfl⟩ rfl rfl rfl fun A F => ?_
  refine sw_pickT F ⟨rfl, rfl, rfl⟩ rfl rfl rfl fun A F => ?_
  refine sw_asg F ⟨rfl, rfl, rfl⟩ rfl rfl fun A F => ?_
  refine sw_end ?_
  show Code.wp _ _ _ _ _
  refine wp_ret ?_
  repeat (first | refine then_ret ?_ | refine block_ret ?_)
  exact sw_rettmp F Tryd.results13 rfl ⟨rfl, hB, kb⟩
set_option maxRecDepth 8000 in
set_option maxHeartbeats 3200000 in
theorem is_e (e0 : Int) (he : (e0 == 0) = false) (s : Key) (text : Key) (c : C4) (b at_ : Nat) (kd : Int) (tx : Key) (n lv : Int) (wO : World) (kb : Blk wO b (pC text at_ kd tx n lv e0 c) 43) : Calls Tryd.prog 13 ([ptr b, .string (str s)] : List Value).toArray wO fun e w' => e = .returned (.bool (false)) ∧ But (fun k => k = b) wO w' ∧ Blk w' b (pC text at_ kd tx n lv e0 c) 43 := by
  have hB := But.refl (fun k => k = b) wO
  refine sw_fn Tryd.func13 rfl 35 Tryd.ntmps13 rfl fun A F => ?_
  refine sw_seq ?_
  refine sw_reg ?_
  refine sw_asg F ⟨rfl, rfl, rfl⟩ rfl rfl fun A F => ?_
  refine sw_end ?_
  show Code.wp _ _ _ _ _
  refine sw_seq ?_
  refine sw_reg ?_
  refine sw_move F ⟨rfl, rfl, rfl⟩ rfl rfl fun A F => ?_
  refine sw_nil F ⟨rfl, rfl, rfl⟩ rfl rfl fun A F => ?_
  refine sw_fld F 6 ⟨rfl, rfl, rfl⟩ rfl (by kernel_rfl) rfl rfl fun A F => ?_
  refine sw_ext F ((kb.cell 6).trans rfl) ⟨rfl, rfl, rfl⟩ rfl (by kernel_rfl) rfl fun A F => ?_
  refine sw_eql F ⟨rfl, rfl, rfl⟩ rfl rfl rfl fun A F => ?_
  rw [he] at F
  refine sw_move F ⟨rfl, rfl, rfl⟩ rfl rfl fun A F => ?_
  refine sw_off F 5 rfl rfl rfl rfl rfl rfl rfl fun A F => ?_
  refine sw_off F 5 rfl rfl rfl rfl rfl rfl rfl fun A F => ?_
  refine sw_off F 5 rfl rfl rfl rfl rfl rfl rfl fun A F => ?_
  refine sw_off F 5 rfl rfl rfl rfl rfl rfl rfl fun A F => ?_
  refine sw_off F 5 rfl rfl rfl rfl rfl rfl rfl fun A F => ?_
  refine sw_off F 5 rfl rfl rfl rfl rfl rfl rfl fun A F => ?_
  refine sw_off F 5 rfl rfl rfl rfl rfl rfl rfl fun A F => ?_
  refine sw_offU F 12 rfl rfl rfl rfl rfl rfl fun A F => ?_
  refine sw_offU F 12 rfl rfl rfl rfl rfl rfl fun A F => ?_
  refine sw_offU F 12 rfl rfl rfl rfl rfl rfl fun A F => ?_
  refine sw_offU F 12 rfl rfl rfl rfl rfl rfl fun A F => ?_
  refine sw_offU F 12 rfl rfl rfl rfl rfl rfl fun A F => ?_
  refine sw_offU F 12 rfl rfl rfl rfl rfl rfl fun A F => ?_
  refine sw_off F 5 rfl rfl rfl rfl rfl rfl rfl fun A F => ?_
  refine sw_pickF F ⟨rfl, rfl, rfl⟩ rfl rfl rfl fun A F => ?_
  refine sw_move F ⟨rfl, rfl, rfl⟩ rfl rfl fun A F => ?_
  refine sw_off F 21 rfl rfl rfl rfl rfl rfl rfl fun A F => ?_
  refine sw_off F 21 rfl rfl rfl rfl rfl rfl rfl fun A F => ?_
  refine sw_off F 21 rfl rfl rfl rfl rfl rfl rfl fun A F => ?_
  refine sw_off F 21 rfl rfl rfl rfl rfl rfl rfl fun A F => ?_
  refine sw_off F 21 rfl rfl rfl rfl rfl rfl rfl fun A F => ?_
  refine sw_off F 21 rfl rfl rfl rfl rfl rfl rfl fun A F => ?_
  refine sw_off F 21 rfl rfl rfl rfl rfl rfl rfl fun A F => ?_
  refine sw_pickF F ⟨rfl, rfl, rfl⟩ rfl rfl rfl fun A F => ?_
  refine sw_asg F ⟨rfl, rfl, rfl⟩ rfl rfl fun A F => ?_
  refine sw_end ?_
  show Code.wp _ _ _ _ _
  refine wp_ret ?_
  repeat (first | refine then_ret ?_ | refine block_ret ?_)
  exact sw_rettmp F Tryd.results13 rfl ⟨rfl, hB, kb⟩
theorem ris_m (s : Key) (text : Key) (c : C4) (b : Nat) (S : ES) : Meth Tryd.prog (PdX text c b) (fun k => k = b) 13 [ptr b, .string (str s)] S fun v fs S' => v = .bool (stands s S) ∧ S = S' := by
  refine ⟨by kernel_rfl, fun w R _ => ?_⟩
  cases S with
  | error e0 =>
    obtain ⟨h, a, kd, t, n, lv, k⟩ := R
    refine (is_e e0 (by simpa using h) s text c b _ _ _ _ _ w k).mono ?_
    rintro e w' ⟨rfl, hB, k'⟩
    exact ⟨_, [], .error e0, rfl, hB, ⟨h, _, _, _, _, _, k'⟩, lie_nil _ _, rfl, rfl⟩
  | ok σ =>
    have R0 := R
    obtain ⟨a, t, h1, h2, k, h3, h4⟩ := R
    have fin : ∀ (w' : World) (x : Bool), But (fun k => k = b) w w' → Blk w' b (pC text a (tokK σ.now) t σ.now.n σ.lv 0 c) 43 → x = stands s (.ok σ) → ∃ v fs s', Ending.returned (.bool x) = .returned v ∧ But (fun k => k = b) w w' ∧ PdX text c b s' w' ∧ lieAll w.heap.size w' fs ∧ v = .bool (stands s (.ok σ)) ∧ .ok σ = s' := fun w' x hB k' hx => ⟨_, [], .ok σ, rfl, hB, ⟨a, t, h1, h2, k', h3, h4⟩, lie_nil _ _, by rw [hx], rfl⟩
    cases hn : σ.now with
    | none =>
      rw [hn] at k fin
      refine (is_0 s text c b _ _ _ _ w k).mono ?_
      rintro e w' ⟨rfl, hB, k'⟩
      exact fin w' _ hB k' (by simp [stands, hn])
    | fin =>
      rw [hn] at k fin
      refine (is_101 s text c b _ _ _ _ w k).mono ?_
      rintro e w' ⟨rfl, hB, k'⟩
      exact fin w' _ hB k' (by simp [stands, hn])
    | name r =>
      rw [hn] at k fin
      refine (is_110 s text c b _ _ _ _ w k).mono ?_
      rintro e w' ⟨rfl, hB, k'⟩
      exact fin w' _ hB k' (by simp [stands, hn])
    | num m =>
      rw [hn] at k fin
      refine (is_48 s text c b _ _ _ _ w k).mono ?_
      rintro e w' ⟨rfl, hB, k'⟩
      exact fin w' _ hB k' (by simp [stands, hn])
    | fixed r =>
      rw [hn] at k fin h3
      obtain ⟨rfl, h3⟩ := h3
      have hx : (t == s) = stands s (.ok σ) := by
        simp only [stands, hn]
        rw [Bool.eq_iff_iff]
        simp
      by_cases hw : wordL.contains t = true
      · have hk : tokK (.fixed t) = 119 := by simp only [tokK, hw, if_true]
        rw [hk] at k fin
        refine (is_119 s text c b _ _ _ _ w k).mono ?_
        rintro e w' ⟨rfl, hB, k'⟩
        exact fin w' _ hB k' hx
      · have hk : tokK (.fixed t) = 115 := by simp only [tokK, hw]; rfl
        rw [hk] at k fin
        refine (is_115 s text c b _ _ _ _ w k).mono ?_
        rintro e w' ⟨rfl, hB, k'⟩
        exact fin w' _ hB k' hx
end Go.Proofs.YtgpjlocgkdlnlaaDoor
