/- Seats are sorted by Who: SortFunc. -/
import Derived.Test.YtigbfbniicfpdaaGreatHSort
import Derived.Test.YtigbfbniicfpdaaGreatWBits
namespace Go.Proofs.YtigbfbniicfpdaaGreat
open Go.RowKit
set_option linter.unusedVariables false
set_option linter.unusedSimpArgs false

theorem ins_none (sa : Option Addr) (sc : Nat) (w : World) : Calls Tryz.prog 61 #[.slice sa 0 sc, .int .i64 0, .int .i64 0, .func (.func 25) #[] #[]] w fun e w' => e = .returned (.tuple #[]) ∧ w = w' := by
  go_enter Tryz.func61, Tryz.ntmps61
  go_wp2_with fail
  go_loopw [8] (fun iv wv => iv = .int .i64 1 ∧ w = wv) (fun _ _ => 0)
  case atStart => exact ⟨rfl, rfl⟩
  case round =>
    obtain ⟨rfl, rfl⟩ := hrel
    go_wp2
    go_end0
    exact ⟨rfl, rfl⟩

set_option maxRecDepth 8000 in
theorem pdq_any (sa : Option Addr) (sc n : Nat) (hn : n ≤ 12) (lim : Int) (w : World) (R : World → Prop)
    (K : Calls Tryz.prog 61 #[.slice sa n sc, .int .i64 0, .int .i64 n, .func (.func 25) #[] #[]] w fun e w' => e = .returned (.tuple #[]) ∧ R w') :
    Calls Tryz.prog 42 #[.slice sa n sc, .int .i64 0, .int .i64 n, .int .i64 lim, .func (.func 25) #[] #[]] w fun e w' => e = .returned (.tuple #[]) ∧ R w' := by
  have hle : (n : Int) ≤ 12 := by omega
  go_enter Tryz.func42, Tryz.ntmps42
  go_wp2_with fail
  go_loopw [1, 2] (fun av bv wv => av = .int .i64 0 ∧ bv = .int .i64 n ∧ w = wv) (fun _ _ _ => 0)
  case atStart => exact ⟨rfl, rfl, rfl⟩
  case round =>
    obtain ⟨rfl, rfl, rfl⟩ := hrel
    go_wp2_with fail
    refine K.mono ?_
    rintro e w1 ⟨rfl, h1⟩
    go_wp2
    refine bodyPost_ret (results_none rfl _ _ _) rfl ?_
    exact ⟨rfl, h1⟩

theorem bitsLen_any (n : Nat) (hn : n ≤ 100) (w : World) : Calls Tryz.prog 43 #[.int .u64 n] w fun e w' => e = .returned (.int .i64 (Lib.bitLen n)) ∧ w = w' := by
  go_enter Tryz.func43, Tryz.ntmps43
  go_wp2_with fail
  refine (Go.Proofs.YtigbfbniicfpdaaGreat.W.len64_any (n : Int) w (by omega) (by omega)).mono ?_
  rintro e w1 ⟨rfl, rfl⟩
  go_wp2
  go_ret
  exact ⟨by simp, rfl⟩

theorem sortF_any (sa : Option Addr) (sc n : Nat) (hn : n ≤ 12) (w : World) (R : World → Prop)
    (K : Calls Tryz.prog 61 #[.slice sa n sc, .int .i64 0, .int .i64 n, .func (.func 25) #[] #[]] w fun e w' => e = .returned (.tuple #[]) ∧ R w') :
    Calls Tryz.prog 24 #[.slice sa n sc, .func (.func 25) #[] #[]] w fun e w' => e = .returned (.tuple #[]) ∧ R w' := by
  go_enter Tryz.func24, Tryz.ntmps24
  go_wp2_with fail
  refine (bitsLen_any n (by omega) w).mono ?_
  rintro e w1 ⟨rfl, rfl⟩
  go_wp2_with fail
  refine (pdq_any sa sc n hn _ w R K).mono ?_
  rintro e w2 ⟨rfl, h2⟩
  go_wp2
  go_end0
  exact ⟨rfl, h2⟩
end Go.Proofs.YtigbfbniicfpdaaGreat
