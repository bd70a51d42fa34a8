/- VoteChecks: whatever the seats, the cert and the two votes: whether the votes prove their voter guilty, and whether the cert is a decision of the bench that is made of the seats, is as the answer says. No condition. -/
import Derived.Test.YtomkiglagpfnoaaRows
import Derived.Test.YtomkiglagpfnoaaVLaw
import Derived.Test.YtomkiglagpfnoaaVOpen
import Derived.WalkKit
import Derived.ProofKit
import Derived.OpenShut
import Derived.ShutString
import Derived.ChangeOld
import Derived.Below
import Derived.SizedLaws
namespace Go.Proofs.Ytomkiglagpfnoaa.voteChecks
open Go.ChangeShapes Go.WideShapes Go.ChangeAt Go.RowKit
set_option linter.unusedVariables false

theorem own : ownKnob Try.prog.godebug = none := by kernel_rfl
theorem laidOut : laidOutB Try.prog = true := by kernel_rfl

set_option maxRecDepth 100000 in
set_option maxHeartbeats 8000000 in
theorem lifted (os : Os) (started : os.Started) (H : Type) (enc : TypeId × Value → H) :
    ReturnsInHanded {} Try.checked os 3 .any (Rows.voteChecksSpec.pre6 enc Try.prog Try.f3 Rows.voteChecksRow.domain false) (Rows.voteChecksSpec.post enc Try.prog Try.f3 false true false false) := by
  refine returnsInHanded_of_change_sized (C := Try.checked) own started (by kernel_rfl) Try.func3
    (ChangeSpec.witness6 (enc := enc) (C := Try.checked) false ⟨#[], #[.slice none 0 0, .agg #[.int .i64 0, .int .i64 0, .int .i64 0, .bool false, .int .u64 0, .slice none 0 0], .agg #[.int .i64 0, .int .i64 0, .int .i64 0, .bool false, .int .u64 0, .int .i64 0, .int .i64 0, .int .i64 0, .int .i64 0, .bool false, .int .u64 0, .int .i64 0]], []⟩ 8 (by kernel_rfl) (by kernel_rfl) (by kernel_rfl) (by kernel_rfl)) ?_
  intro W base args ds gs before hval0 hW hcnd hsz0 _
  have hval : ∀ (j : Nat) t v, Try.f3.params[j]? = some t → args[j]? = some v → Value.okWide Try.prog W .any base t v := hval0
  have hW' := hW
  obtain ⟨p, q, hA0, hV, rfl, hfz, hnd⟩ := hW
  have hA : DataW.TrodAll enc Try.prog W 0 (fun _ => true) true Try.f3.params.toList args.toList ds p := hA0
  rw [Try.params3] at hA hval
  obtain ⟨v0, vs0, d0, ds0, p0, q0, hargs, rfl, rfl, h0, r0⟩ := trodAll_cons hA
  obtain ⟨v1, vs1, d1, ds1, p1, q1, rfl, rfl, rfl, h1, r1⟩ := trodAll_cons r0
  obtain ⟨v2, vs2, d2, ds2, p2, q2, rfl, rfl, rfl, h2, r2⟩ := trodAll_cons r1
  obtain ⟨rfl, rfl, rfl⟩ := trodAll_nil r2
  obtain rfl : args = #[v0, v1, v2] := by cases args; simp_all
  obtain ⟨rfl, rfl⟩ := trodVars_none hV
  obtain ⟨ad, len, cap, rfl⟩ := okWide_slice Try.underlying22 (hval 0 22 v0 rfl rfl)
  obtain ⟨cs1, rfl, hcs1⟩ := okWide_struct Try.underlying27 (hval 1 27 v1 rfl rfl)
  obtain ⟨cs2, rfl, hcs2⟩ := okWide_struct Try.underlying31 (hval 2 31 v2 rfl rfl)
  have k0 := h0
  have k1 := h1
  have k2 := h2
  have lt0 : ∀ x ∈ p0, x.block < W.heap.size := by obtain ⟨m, hm⟩ := k0; exact DataW.trod_lt m _ _ _ hm
  have lt1 : ∀ x ∈ p1, x.block < W.heap.size := by obtain ⟨m, hm⟩ := k1; exact DataW.trod_lt m _ _ _ hm
  have lt2 : ∀ x ∈ p2, x.block < W.heap.size := by obtain ⟨m, hm⟩ := k2; exact DataW.trod_lt m _ _ _ hm
  obtain ⟨f0, hf0⟩ := h0
  obtain ⟨la, l, lc, hl, hn, hk, hI⟩ := open_seats hf0
  simp only [Value.cells, List.cons.injEq, Value.slice.injEq, and_true] at hl
  obtain ⟨rfl, rfl, rfl⟩ := hl
  obtain ⟨f1, hf1⟩ := h1
  have g1 : DataW.trod enc Try.prog W 0 (fun _ => true) true f1 27 cs1.toList = some (d1, p1) := hf1
  obtain ⟨ch, cr, cs, chas, cbl, fa, fr, fc, e1, bh, br, bs, bbl, hfc, hfm, hfi, hF⟩ := open_cert g1
  have ea1 : cs1 = #[.int .i64 ch, .int .i64 cr, .int .i64 cs, .bool chas, .int .u64 cbl, .slice fa fr.length fc] := by
    apply Array.ext'
    rw [e1]
  subst ea1
  obtain ⟨f2, hf2⟩ := h2
  have g2 : DataW.trod enc Try.prog W 0 (fun _ => true) true f2 31 cs2.toList = some (d2, p2) := hf2
  obtain ⟨vh, vr, vs, has, bl, vf, vh2, vr2, vs2, has2, bl2, vf2, e2, ⟨q1, q2, q3, q4, q5⟩, q6, q7, q8, q9, q10⟩ := open_guilt g2
  have ea2 : cs2 = #[.int .i64 vh, .int .i64 vr, .int .i64 vs, .bool has, .int .u64 bl, .int .i64 vf, .int .i64 vh2, .int .i64 vr2, .int .i64 vs2, .bool has2, .int .u64 bl2, .int .i64 vf2] := by
    apply Array.ext'
    rw [e2]
  subst ea2
  clear hA0 hval0
  have hfl : fr.length ≤ maxLen := Nat.le_trans hfc hfm
  refine (checks_any ad fa cap fc l fr ch cr cs chas cbl vh vr vs has bl vf vh2 vr2 vs2 has2 bl2 vf2 W _ _ _ _ hn hk hI hfl hF (fun x => Go.Proofs.Ytomkiglagpfnoaa.W.wputGuilt_any vh vr vs has bl vf vh2 vr2 vs2 has2 bl2 vf2 x q1 q2 q3 q4 q5 q6 q7 q8 q9 q10) (fun x => Go.Proofs.Ytomkiglagpfnoaa.W.rputGuilt_any vh vr vs has bl vf vh2 vr2 vs2 has2 bl2 vf2 x q1 q2 q3 q4 q5 q6 q7 q8 q9 q10)
    (fun h4 y hy => Go.Proofs.Ytomkiglagpfnoaa.W.wputCert_anyX (certX ch cr cs chas cbl fa fc fr) y (cert_wt ch cr cs chas cbl fa fc fr h4) (cert_goods bh br bs bbl hfc hfm hfi (hF.below hy))) (fun h4 y hy => Go.Proofs.Ytomkiglagpfnoaa.W.rputCert_anyX (certX ch cr cs chas cbl fa fc fr) y (cert_wt ch cr cs chas cbl fa fc fr h4) (cert_goods bh br bs bbl hfc hfm hfi (hF.below hy)))).mono fun e W' ⟨he, bel⟩ => ?_
  subst he
  exact ⟨_, rfl, _, _, _, [], _, [], hW', trodAll_mk1 (shut_bool Try.underlying4 _), (trodAll_cons_mk (Below.trod laidOut (by kernel_rfl) (of_decide_eq_true (by kernel_rfl)) k0 bel lt0) (trodAll_cons_mk (Below.trod laidOut (by kernel_rfl) (of_decide_eq_true (by kernel_rfl)) k1 bel lt1) (trodAll_cons_mk (Below.trod laidOut (by kernel_rfl) (of_decide_eq_true (by kernel_rfl)) k2 bel lt2) trodAll_mk0))), rfl, bel.frame _, fun h => by cases h⟩

theorem over : Rows.voteChecksRow.holds Try.pinned (OpenSpec.ofChange Rows.voteChecksSpec) :=
  OpenClaim.holds_of_wide 3 Try.f3 rfl rfl rfl rfl rfl rfl rfl ⟨rfl, rfl, rfl, rfl, rfl⟩ rfl rfl rfl rfl rfl (by kernel_rfl) Try.func3 (by kernel_rfl)
    (of_decide_eq_true (by kernel_rfl)) (by unfold Func.isWrapper; first | (rw [if_pos (by decide +kernel)]; kernel_rfl) | (rw [if_neg (by decide +kernel)]; exact ⟨rfl, rfl⟩))
    (fun os started H enc _ => lifted os started H enc)

end Go.Proofs.Ytomkiglagpfnoaa.voteChecks
namespace Go.Proofs.Ytomkiglagpfnoaa

/-- The statement. -/
theorem voteChecks_holds : Rows.VoteChecksSaid := voteChecks.over
end Go.Proofs.Ytomkiglagpfnoaa
