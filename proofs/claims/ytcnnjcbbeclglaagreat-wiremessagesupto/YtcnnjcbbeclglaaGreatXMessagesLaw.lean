/- WireMessages, where what it reads is of bulk at most 1048576: of every message Put of the program says what the answer says. The condition: the bound on the bulk. -/
import Derived.Test.YtcnnjcbbeclglaaGreatRows
import Derived.Test.YtcnnjcbbeclglaaGreatWM8
import Derived.Test.YtcnnjcbbeclglaaGreatXHeavy3
import Derived.WalkKit
import Derived.ProofKit
import Derived.OpenShut
import Derived.ShutString
import Derived.ChangeOld
import Derived.ChangeArms
import Derived.Below
import Derived.JoinedCond
import Derived.Deep.CutRange
import Derived.Deep.DeepCutAuto
namespace Go.Proofs.YtcnnjcbbeclglaaGreat.wireMessages
open Go.ChangeShapes Go.WideShapes Go.ChangeAt Go.RowKit
set_option linter.unusedVariables false
set_option linter.unusedSimpArgs false

theorem own : ownKnob Tryz.prog.godebug = none := by kernel_rfl
theorem laidOut : laidOutB Tryz.prog = true := by kernel_rfl

set_option maxRecDepth 20000 in
set_option maxHeartbeats 12800000 in
theorem walk (m : Message) (w : World) (hm : wtL m.atoms ≤ 1099400000000) (gm : goods w.heap.size w m.flds) :
    Calls Tryz.prog 3 #[.agg #[.int .i64 m.fr, .int .i64 m.to, .int .i64 m.h, .slice m.vo.la m.vo.xs.length m.vo.lc, .slice m.mo.la m.mo.xs.length m.mo.lc, .slice m.kn.la m.kn.xs.length m.kn.lc, .slice m.tx.la m.tx.xs.length m.tx.lc]] w fun e w' => e = .returned (.bool true) ∧ Below w.heap.size w w' := by
  obtain ⟨S0, E0, cw0, cr0⟩ : ∃ (S : ByteArray) (E : Int), (∀ y : World, Below w.heap.size w y → Calls Tryz.prog 6 #[.agg #[.int .i64 m.fr, .int .i64 m.to, .int .i64 m.h, .slice m.vo.la m.vo.xs.length m.vo.lc, .slice m.mo.la m.mo.xs.length m.mo.lc, .slice m.kn.la m.kn.xs.length m.kn.lc, .slice m.tx.la m.tx.xs.length m.tx.lc]] y fun e w' => e = .returned (.tuple #[.string S, .int .i64 E]) ∧ Below y.heap.size y w') ∧ (∀ y : World, Below w.heap.size w y → Calls Tryz.prog 7 #[.agg #[.int .i64 m.fr, .int .i64 m.to, .int .i64 m.h, .slice m.vo.la m.vo.xs.length m.vo.lc, .slice m.mo.la m.mo.xs.length m.mo.lc, .slice m.kn.la m.kn.xs.length m.kn.lc, .slice m.tx.la m.tx.xs.length m.tx.lc]] y fun e w' => e = .returned (.tuple #[.string S, .int .i64 E]) ∧ Below y.heap.size y w') :=
    ⟨_, _, fun y hy => wputMessage_anyX m y hm ((gm.below hy).mono hy.size), fun y hy => rputMessage_anyX m y hm ((gm.below hy).mono hy.size)⟩
  have kM := Blk.new w #[.int .i64 m.fr, .int .i64 m.to, .int .i64 m.h, .slice m.vo.la m.vo.xs.length m.vo.lc, .slice m.mo.la m.mo.xs.length m.mo.lc, .slice m.kn.la m.kn.xs.length m.kn.lc, .slice m.tx.la m.tx.xs.length m.tx.lc] 27
  have bw : Below w.heap.size w (w.alloc (.cells #[.int .i64 m.fr, .int .i64 m.to, .int .i64 m.h, .slice m.vo.la m.vo.xs.length m.vo.lc, .slice m.mo.la m.mo.xs.length m.mo.lc, .slice m.kn.la m.kn.xs.length m.kn.lc, .slice m.tx.la m.tx.xs.length m.tx.lc] 27)) := (Below.refl _ _).alloc (Nat.le_refl _) _
  have key : ∀ y : World, Below w.heap.size w y → Calls Tryz.prog 5 #[.agg #[.int .i64 m.fr, .int .i64 m.to, .int .i64 m.h, .slice m.vo.la m.vo.xs.length m.vo.lc, .slice m.mo.la m.mo.xs.length m.mo.lc, .slice m.kn.la m.kn.xs.length m.kn.lc, .slice m.tx.la m.tx.xs.length m.tx.lc]] y fun e w' => IsBool e ∧ Below y.heap.size y w' := fun y hy =>
    heavyMessage_any m y ((gm.below hy).mono hy.size) hm
  clear gm hm
  go_enter Tryz.func3, Tryz.ntmps3
  go_wp2_with fail
  generalize hWA : w.alloc (.cells #[.int .i64 m.fr, .int .i64 m.to, .int .i64 m.h, .slice m.vo.la m.vo.xs.length m.vo.lc, .slice m.mo.la m.mo.xs.length m.mo.lc, .slice m.kn.la m.kn.xs.length m.kn.lc, .slice m.tx.la m.tx.xs.length m.tx.lc] 27) = wA at *
  clear hWA
  refine (key _ bw).mono ?_
  rintro e w0 ⟨⟨z, rfl⟩, B0⟩
  have bw0 := bw.trans (B0.mono bw.size)
  clear key
  cases z
  rotate_left
  · go_wp2
    go_ret
    exact ⟨rfl, bw0⟩
  have T := kM.below B0 kM.lt
  have q0 := T.cell 0
  have q1 := T.cell 1
  have q2 := T.cell 2
  have q3 := T.cell 3
  have q4 := T.cell 4
  have q5 := T.cell 5
  have q6 := T.cell 6
  simp only [List.getElem?_toArray, List.getElem?_cons_succ, List.getElem?_cons_zero] at q0 q1 q2 q3 q4 q5 q6
  have hz := T.lt
  clear T
  go_wp2_with fail
  refine (cw0 _ (bw.trans (B0.mono bw.size))).mono ?_
  rintro e w1 ⟨rfl, b1⟩
  have B1 := B0.trans (b1.mono B0.size)
  clear q0 q1 q2 q3 q4 q5 q6 hz
  have T := kM.below B1 kM.lt
  have q0 := T.cell 0
  have q1 := T.cell 1
  have q2 := T.cell 2
  have q3 := T.cell 3
  have q4 := T.cell 4
  have q5 := T.cell 5
  have q6 := T.cell 6
  simp only [List.getElem?_toArray, List.getElem?_cons_succ, List.getElem?_cons_zero] at q0 q1 q2 q3 q4 q5 q6
  have hz := T.lt
  clear T
  go_wp2_with fail
  refine (cr0 _ (bw.trans (B1.mono bw.size))).mono ?_
  rintro e w2 ⟨rfl, b2⟩
  have B2 := B1.trans (b2.mono B1.size)
  clear q0 q1 q2 q3 q4 q5 q6 hz
  go_wp2
  go_ret
  exact ⟨by simp, bw.trans (B2.mono bw.size)⟩

set_option maxRecDepth 100000 in
set_option maxHeartbeats 8000000 in
theorem lifted (os : Os) (started : os.Started) (H : Type) (enc : TypeId × Value → H) (F : Stop.Interp) :
    ReturnsInHanded {} Tryz.checked os 3 .any ((Rows.OpenSpec.upto Rows.wireMessagesSpec).pre6 enc Tryz.prog Tryz.f3 Rows.wireMessagesUptoRow.domain false) (((Rows.OpenSpec.upto Rows.wireMessagesSpec).at F).post enc Tryz.prog Tryz.f3 false true false false) := by
  refine returnsInHanded_of_cond (C := Tryz.checked) (s := Rows.OpenSpec.upto Rows.wireMessagesSpec) (k := Rows.uptoSmall) rfl own started (by kernel_rfl) Tryz.func3
    (OpenSpec.witness (enc := enc) (C := Tryz.checked) (s := Rows.OpenSpec.upto Rows.wireMessagesSpec) (k := Rows.uptoSmall) rfl false ⟨#[], #[.agg #[.int .i64 0, .int .i64 0, .int .i64 0, .slice none 0 0, .slice none 0 0, .slice none 0 0, .slice none 0 0]], []⟩ 8 (by kernel_rfl) (by kernel_rfl) (by kernel_rfl)
      (x := ([.agg [.lit (.int .i64 0), .lit (.int .i64 0), .lit (.int .i64 0), .nil, .nil, .nil, .nil]], [], [])) (by kernel_rfl) rfl (by kernel_rfl)) ?_
  intro W base args ds gs before hval0 hW _ hk0 _
  have hval : ∀ (j : Nat) t v, Tryz.f3.params[j]? = some t → args[j]? = some v → Value.okWide Tryz.prog W .any base t v := hval0
  have hk : Rows.uptoSmall H (ds ++ gs) = true := hk0
  have hW' := hW
  obtain ⟨p, q, hA0, hV, rfl, hfz, hnd⟩ := hW
  have hA : DataW.TrodAll enc Tryz.prog W 0 (fun _ => true) true Tryz.f3.params.toList args.toList ds p := hA0
  rw [Tryz.params3] at hA hval
  obtain ⟨v0, vs0, d0, ds0, pp0, qq0, hargs, rfl, rfl, h0, r0⟩ := trodAll_cons hA
  obtain ⟨rfl, rfl, rfl⟩ := trodAll_nil r0
  obtain rfl : args = #[v0] := by cases args; simp_all
  obtain ⟨rfl, rfl⟩ := trodVars_none hV
  have hbk : Rows.uptoBulkAll [d0] ≤ 1048576 := by
    have h := of_decide_eq_true hk
    simpa using h
  simp only [Rows.uptoBulkAll] at hbk
  have k0 := h0
  have lt0 : ∀ x ∈ pp0, x.block < W.heap.size := by obtain ⟨m, hm⟩ := k0; exact DataW.trod_lt m _ _ _ hm
  obtain ⟨fu0, hf0⟩ := h0
  obtain ⟨cs0, rfl, hcs0⟩ := okWide_struct Tryz.underlying27 (hval 0 27 v0 rfl rfl)
  have g0 : DataW.trod enc Tryz.prog W 0 (fun _ => true) true fu0 27 cs0.toList = some (d0, pp0) := hf0
  obtain ⟨m, e0, gd0, b0⟩ := open_Message enc W (fun _ => true) _ _ _ g0
  have ea0 : cs0 = #[.int .i64 m.fr, .int .i64 m.to, .int .i64 m.h, .slice m.vo.la m.vo.xs.length m.vo.lc, .slice m.mo.la m.mo.xs.length m.mo.lc, .slice m.kn.la m.kn.xs.length m.kn.lc, .slice m.tx.la m.tx.xs.length m.tx.lc] := by
    apply Array.ext'
    rw [e0]
    simp [Vote.flds, Guilt.flds, Cert.flds, Header.flds, Turn.flds, Proof.flds, Sight.flds, Tx.flds, Block.flds, Motion.flds, Known.flds, Message.flds, Record.flds, Fld.val, Lst.fld]
  subst ea0
  clear hA0 hval0
  refine (walk m W (by simp only at b0; omega) gd0).mono fun e W' ⟨he, bel⟩ => ?_
  subst he
  exact ⟨_, rfl, _, _, _, [], _, [], hW', trodAll_mk1 (shut_bool Tryz.underlying4 _), (trodAll_cons_mk (Below.trod laidOut (by kernel_rfl) (of_decide_eq_true (by kernel_rfl)) k0 bel lt0) trodAll_mk0), rfl, bel.frame _, fun h => by cases h⟩

theorem over : Rows.wireMessagesUptoRow.holds Tryz.pinned (Rows.OpenSpec.upto Rows.wireMessagesSpec) :=
  OpenClaim.holds_of_cond 3 Tryz.f3 rfl rfl rfl rfl rfl rfl rfl ⟨rfl, rfl, rfl, rfl, rfl⟩ rfl rfl rfl rfl rfl (by kernel_rfl) Tryz.func3 (by kernel_rfl)
    (of_decide_eq_true (by kernel_rfl)) (by unfold Func.isWrapper; first | (rw [if_pos (by decide +kernel)]; kernel_rfl) | (rw [if_neg (by decide +kernel)]; exact ⟨rfl, rfl⟩))
    (fun os started H enc _ F => lifted os started H enc F)

end Go.Proofs.YtcnnjcbbeclglaaGreat.wireMessages
namespace Go.Proofs.YtcnnjcbbeclglaaGreat

/-- The statement. -/
theorem wireMessages_holds : Rows.WireMessagesUptoSaid := wireMessages.over
end Go.Proofs.YtcnnjcbbeclglaaGreat
