/- WireBlocks, where what it reads is of bulk at most 1048576: of every block Put of the program says what the answer says. The condition: the bound on the bulk. -/
import Derived.Test.YtgcebahlfgclgaaRows
import Derived.Test.YtgcebahlfgclgaaXTop3
import Derived.Test.YtgcebahlfgclgaaXOpen2
import Derived.Test.YtgcebahlfgclgaaXHeavy
import Derived.WalkKit
import Derived.ProofKit
import Derived.OpenShut
import Derived.ShutString
import Derived.ChangeOld
import Derived.ChangeArms
import Derived.Below
import Derived.JoinedCond
import Derived.Deep.CutRange
import Derived.Deep.DeepCutAuto
namespace Go.Proofs.Ytgcebahlfgclgaa.wireBlocks
open Go.ChangeShapes Go.WideShapes Go.ChangeAt Go.RowKit
set_option linter.unusedVariables false
set_option linter.unusedSimpArgs false

theorem own : ownKnob Try.prog.godebug = none := by kernel_rfl
theorem laidOut : laidOutB Try.prog = true := by kernel_rfl

theorem Block.lens (b : Block) (h : wtL b.atoms ≤ 1099400000000) : b.gu.xs.length ≤ 1099400000000 := by
  have key : ∀ xs : List Guilt, xs.length ≤ wtL (eachL Guilt.atoms xs) := by
    intro xs
    induction xs with
    | nil => simp
    | cons y r ih => simp only [eachL, wtL_append, Guilt.atoms, Vote.atoms, nums, List.map, wtL, Atom.wt, List.length_cons]; omega
  have := key b.gu.xs
  simp only [Block.atoms, wtL_append, listL, wtL] at h
  omega

set_option maxRecDepth 20000 in
set_option maxHeartbeats 12800000 in
theorem walk (b : Block) (w : World) (hb : wtL b.atoms ≤ 1099400000000) (gb : goods w.heap.size w b.flds) :
    Calls Try.prog 5 #[.agg #[.int .i64 b.hd.c, .int .i64 b.hd.h, .int .u64 b.hd.pa, .int .u64 b.hd.tx, .int .u64 b.hd.gu, .int .u64 b.hd.st, .int .u64 b.hd.re, .int .u64 b.hd.be, .int .i64 b.hd.pr, .slice b.tx.la b.tx.xs.length b.tx.lc, .slice b.gu.la b.gu.xs.length b.gu.lc]] w fun e w' => e = .returned (.bool true) ∧ Below w.heap.size w w' := by
  obtain ⟨S0, E0, cw0, cr0⟩ : ∃ (S : ByteArray) (E : Int), (∀ y : World, Below w.heap.size w y → Calls Try.prog 31 #[.agg #[.int .i64 b.hd.c, .int .i64 b.hd.h, .int .u64 b.hd.pa, .int .u64 b.hd.tx, .int .u64 b.hd.gu, .int .u64 b.hd.st, .int .u64 b.hd.re, .int .u64 b.hd.be, .int .i64 b.hd.pr, .slice b.tx.la b.tx.xs.length b.tx.lc, .slice b.gu.la b.gu.xs.length b.gu.lc]] y fun e w' => e = .returned (.tuple #[.string S, .int .i64 E]) ∧ Below y.heap.size y w') ∧ (∀ y : World, Below w.heap.size w y → Calls Try.prog 32 #[.agg #[.int .i64 b.hd.c, .int .i64 b.hd.h, .int .u64 b.hd.pa, .int .u64 b.hd.tx, .int .u64 b.hd.gu, .int .u64 b.hd.st, .int .u64 b.hd.re, .int .u64 b.hd.be, .int .i64 b.hd.pr, .slice b.tx.la b.tx.xs.length b.tx.lc, .slice b.gu.la b.gu.xs.length b.gu.lc]] y fun e w' => e = .returned (.tuple #[.string S, .int .i64 E]) ∧ Below y.heap.size y w') :=
    ⟨_, _, fun y hy => wputBlock_anyX b y hb ((gb.below hy).mono hy.size), fun y hy => rputBlock_anyX b y hb ((gb.below hy).mono hy.size)⟩
  have lg := Block.lens b hb
  have kB := Blk.new w #[.int .i64 b.hd.c, .int .i64 b.hd.h, .int .u64 b.hd.pa, .int .u64 b.hd.tx, .int .u64 b.hd.gu, .int .u64 b.hd.st, .int .u64 b.hd.re, .int .u64 b.hd.be, .int .i64 b.hd.pr, .slice b.tx.la b.tx.xs.length b.tx.lc, .slice b.gu.la b.gu.xs.length b.gu.lc] 70
  have bw : Below w.heap.size w (w.alloc (.cells #[.int .i64 b.hd.c, .int .i64 b.hd.h, .int .u64 b.hd.pa, .int .u64 b.hd.tx, .int .u64 b.hd.gu, .int .u64 b.hd.st, .int .u64 b.hd.re, .int .u64 b.hd.be, .int .i64 b.hd.pr, .slice b.tx.la b.tx.xs.length b.tx.lc, .slice b.gu.la b.gu.xs.length b.gu.lc] 70)) := (Below.refl _ _).alloc (Nat.le_refl _) _
  have hh := Lst.held (flds := Tx.flds) (l := b.tx) Tx.len (gb.get 9 rfl)
  have key : ∀ y : World, Below w.heap.size w y → Calls Try.prog 22 #[.slice b.tx.la b.tx.xs.length b.tx.lc] y fun e w' => IsBool e ∧ Below y.heap.size y w' := fun y hy =>
    heavy_any w.heap.size b.tx y hy.size (hh.below hy)
  clear gb hb hh
  go_enter Try.func5, Try.ntmps5
  go_wp2_with fail
  generalize hWA : w.alloc (.cells #[.int .i64 b.hd.c, .int .i64 b.hd.h, .int .u64 b.hd.pa, .int .u64 b.hd.tx, .int .u64 b.hd.gu, .int .u64 b.hd.st, .int .u64 b.hd.re, .int .u64 b.hd.be, .int .i64 b.hd.pr, .slice b.tx.la b.tx.xs.length b.tx.lc, .slice b.gu.la b.gu.xs.length b.gu.lc] 70) = wA at *
  clear hWA
  refine (key _ bw).mono ?_
  rintro e w0 ⟨⟨z, rfl⟩, B0⟩
  have bw0 := bw.trans (B0.mono bw.size)
  clear key
  cases z
  rotate_left
  · go_wp2
    go_ret
    exact ⟨rfl, bw0⟩
  have TB := kB.below B0 kB.lt
  have p10 := TB.cell 10
  simp only [List.getElem?_toArray, List.getElem?_cons_succ, List.getElem?_cons_zero] at p10
  have hz1 := TB.lt
  by_cases hbig : (65536 : Int) < (b.gu.xs.length : Int)
  · have hbd : decide ((65536 : Int) < (b.gu.xs.length : Int)) = true := decide_eq_true hbig
    go_wp2
    go_ret
    exact ⟨rfl, bw0⟩
  have hbd : decide ((65536 : Int) < (b.gu.xs.length : Int)) = false := decide_eq_false hbig
  clear TB
  have T := kB.below B0 kB.lt
  have q0 := T.cell 0
  have q1 := T.cell 1
  have q2 := T.cell 2
  have q3 := T.cell 3
  have q4 := T.cell 4
  have q5 := T.cell 5
  have q6 := T.cell 6
  have q7 := T.cell 7
  have q8 := T.cell 8
  have q9 := T.cell 9
  have q10 := T.cell 10
  simp only [List.getElem?_toArray, List.getElem?_cons_succ, List.getElem?_cons_zero] at q0 q1 q2 q3 q4 q5 q6 q7 q8 q9 q10
  have hz := T.lt
  clear T
  go_wp2_with fail
  clear p10 hz1
  refine (cw0 _ (bw.trans (B0.mono bw.size))).mono ?_
  rintro e w1 ⟨rfl, b1⟩
  have B1 := B0.trans (b1.mono B0.size)
  clear q0 q1 q2 q3 q4 q5 q6 q7 q8 q9 q10 hz
  have T := kB.below B1 kB.lt
  have q0 := T.cell 0
  have q1 := T.cell 1
  have q2 := T.cell 2
  have q3 := T.cell 3
  have q4 := T.cell 4
  have q5 := T.cell 5
  have q6 := T.cell 6
  have q7 := T.cell 7
  have q8 := T.cell 8
  have q9 := T.cell 9
  have q10 := T.cell 10
  simp only [List.getElem?_toArray, List.getElem?_cons_succ, List.getElem?_cons_zero] at q0 q1 q2 q3 q4 q5 q6 q7 q8 q9 q10
  have hz := T.lt
  clear T
  go_wp2_with fail
  refine (cr0 _ (bw.trans (B1.mono bw.size))).mono ?_
  rintro e w2 ⟨rfl, b2⟩
  have B2 := B1.trans (b2.mono B1.size)
  clear q0 q1 q2 q3 q4 q5 q6 q7 q8 q9 q10 hz
  go_wp2
  go_ret
  exact ⟨by simp, bw.trans (B2.mono bw.size)⟩

set_option maxRecDepth 100000 in
set_option maxHeartbeats 8000000 in
theorem lifted (os : Os) (started : os.Started) (H : Type) (enc : TypeId × Value → H) (F : Stop.Interp) :
    ReturnsInHanded {} Try.checked os 5 .any ((Rows.OpenSpec.upto Rows.wireBlocksSpec).pre6 enc Try.prog Try.f5 Rows.wireBlocksUptoRow.domain false) (((Rows.OpenSpec.upto Rows.wireBlocksSpec).at F).post enc Try.prog Try.f5 false true false false) := by
  refine returnsInHanded_of_cond (C := Try.checked) (s := Rows.OpenSpec.upto Rows.wireBlocksSpec) (k := Rows.uptoSmall) rfl own started (by kernel_rfl) Try.func5
    (OpenSpec.witness (enc := enc) (C := Try.checked) (s := Rows.OpenSpec.upto Rows.wireBlocksSpec) (k := Rows.uptoSmall) rfl false ⟨#[], #[.agg #[.int .i64 0, .int .i64 0, .int .u64 0, .int .u64 0, .int .u64 0, .int .u64 0, .int .u64 0, .int .u64 0, .int .i64 0, .slice none 0 0, .slice none 0 0]], []⟩ 8 (by kernel_rfl) (by kernel_rfl) (by kernel_rfl)
      (x := ([.agg [.agg [.lit (.int .i64 0), .lit (.int .i64 0), .lit (.int .u64 0), .lit (.int .u64 0), .lit (.int .u64 0), .lit (.int .u64 0), .lit (.int .u64 0), .lit (.int .u64 0), .lit (.int .i64 0)], .nil, .nil]], [], [])) (by kernel_rfl) rfl (by kernel_rfl)) ?_
  intro W base args ds gs before hval0 hW _ hk0 _
  have hval : ∀ (j : Nat) t v, Try.f5.params[j]? = some t → args[j]? = some v → Value.okWide Try.prog W .any base t v := hval0
  have hk : Rows.uptoSmall H (ds ++ gs) = true := hk0
  have hW' := hW
  obtain ⟨p, q, hA0, hV, rfl, hfz, hnd⟩ := hW
  have hA : DataW.TrodAll enc Try.prog W 0 (fun _ => true) true Try.f5.params.toList args.toList ds p := hA0
  rw [Try.params5] at hA hval
  obtain ⟨v0, vs0, d0, ds0, pp0, qq0, hargs, rfl, rfl, h0, r0⟩ := trodAll_cons hA
  obtain ⟨rfl, rfl, rfl⟩ := trodAll_nil r0
  obtain rfl : args = #[v0] := by cases args; simp_all
  obtain ⟨rfl, rfl⟩ := trodVars_none hV
  have hbk : Rows.uptoBulkAll [d0] ≤ 1048576 := by
    have h := of_decide_eq_true hk
    simpa using h
  simp only [Rows.uptoBulkAll] at hbk
  have k0 := h0
  have lt0 : ∀ x ∈ pp0, x.block < W.heap.size := by obtain ⟨m, hm⟩ := k0; exact DataW.trod_lt m _ _ _ hm
  obtain ⟨fu0, hf0⟩ := h0
  obtain ⟨cs0, rfl, hcs0⟩ := okWide_struct Try.underlying70 (hval 0 70 v0 rfl rfl)
  have g0 : DataW.trod enc Try.prog W 0 (fun _ => true) true fu0 70 cs0.toList = some (d0, pp0) := hf0
  obtain ⟨b, e0, gd0, b0⟩ := open_Block enc W (fun _ => true) _ _ _ g0
  have ea0 : cs0 = #[.int .i64 b.hd.c, .int .i64 b.hd.h, .int .u64 b.hd.pa, .int .u64 b.hd.tx, .int .u64 b.hd.gu, .int .u64 b.hd.st, .int .u64 b.hd.re, .int .u64 b.hd.be, .int .i64 b.hd.pr, .slice b.tx.la b.tx.xs.length b.tx.lc, .slice b.gu.la b.gu.xs.length b.gu.lc] := by
    apply Array.ext'
    rw [e0]
    simp [Vote.flds, Guilt.flds, Cert.flds, Header.flds, Turn.flds, Proof.flds, Sight.flds, Tx.flds, Block.flds, Motion.flds, Known.flds, Message.flds, Record.flds, Fld.val, Lst.fld]
  subst ea0
  clear hA0 hval0
  refine (walk b W (by simp only at b0; omega) gd0).mono fun e W' ⟨he, bel⟩ => ?_
  subst he
  exact ⟨_, rfl, _, _, _, [], _, [], hW', trodAll_mk1 (shut_bool Try.underlying4 _), (trodAll_cons_mk (Below.trod laidOut (by kernel_rfl) (of_decide_eq_true (by kernel_rfl)) k0 bel lt0) trodAll_mk0), rfl, bel.frame _, fun h => by cases h⟩

theorem over : Rows.wireBlocksUptoRow.holds Try.pinned (Rows.OpenSpec.upto Rows.wireBlocksSpec) :=
  OpenClaim.holds_of_cond 5 Try.f5 rfl rfl rfl rfl rfl rfl rfl ⟨rfl, rfl, rfl, rfl, rfl⟩ rfl rfl rfl rfl rfl (by kernel_rfl) Try.func5 (by kernel_rfl)
    (of_decide_eq_true (by kernel_rfl)) (by unfold Func.isWrapper; first | (rw [if_pos (by decide +kernel)]; kernel_rfl) | (rw [if_neg (by decide +kernel)]; exact ⟨rfl, rfl⟩))
    (fun os started H enc _ F => lifted os started H enc F)

end Go.Proofs.Ytgcebahlfgclgaa.wireBlocks
namespace Go.Proofs.Ytgcebahlfgclgaa

/-- The statement. -/
theorem wireBlocks_holds : Rows.WireBlocksUptoSaid := wireBlocks.over
end Go.Proofs.Ytgcebahlfgclgaa
