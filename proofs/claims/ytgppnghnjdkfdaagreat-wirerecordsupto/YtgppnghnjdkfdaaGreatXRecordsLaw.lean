/- WireRecords, where what it reads is of bulk at most 1048576: of every record Put of the program says what the answer says. The condition: the bound on the bulk. -/
import Derived.Test.YtgppnghnjdkfdaaGreatRows
import Derived.Test.YtgppnghnjdkfdaaGreatWM9
import Derived.Test.YtgppnghnjdkfdaaGreatXHeavy2
import Derived.Test.YtgppnghnjdkfdaaGreatWM8
import Derived.WalkKit
import Derived.ProofKit
import Derived.OpenShut
import Derived.ShutString
import Derived.ChangeOld
import Derived.ChangeArms
import Derived.Below
import Derived.JoinedCond
import Derived.Deep.CutRange
import Derived.Deep.DeepCutAuto
namespace Go.Proofs.YtgppnghnjdkfdaaGreat.wireRecords
open Go.ChangeShapes Go.WideShapes Go.ChangeAt Go.RowKit
set_option linter.unusedVariables false
set_option linter.unusedSimpArgs false

theorem own : ownKnob Tryz.prog.godebug = none := by kernel_rfl
theorem laidOut : laidOutB Tryz.prog = true := by kernel_rfl

set_option maxRecDepth 20000 in
set_option maxHeartbeats 12800000 in
theorem walk (m : Record) (w : World) (hv : wtL m.vo.atoms ≤ 1099300000000) (hm : wtL m.mo.atoms ≤ 1099300000000) (hk : wtL m.kn.atoms ≤ 1099300000000) (gm : goods w.heap.size w m.flds) :
    Calls Tryz.prog 3 #[.agg m.arr] w fun e w' => e = .returned (.bool true) ∧ Below w.heap.size w w' := by
  have hL : wtL m.atoms ≤ 1099400000000 := by
    have h6 : wtL (intA m.k) = 6 := rfl
    simp only [Record.atoms, Record.tail, wtL_append, h6]
    split
    · omega
    · split
      · omega
      · split
        · omega
        · simp [wtL]
  obtain ⟨S0, E0, cw0, cr0⟩ : ∃ (S : ByteArray) (E : Int), (∀ y : World, Below w.heap.size w y → Calls Tryz.prog 6 #[.agg m.arr] y fun e w' => e = .returned (.tuple #[.string S, .int .i64 E]) ∧ Below y.heap.size y w') ∧ (∀ y : World, Below w.heap.size w y → Calls Tryz.prog 7 #[.agg m.arr] y fun e w' => e = .returned (.tuple #[.string S, .int .i64 E]) ∧ Below y.heap.size y w') :=
    ⟨_, _, fun y hy => wputRecord_anyX m y hL (by omega) (by omega) ((gm.below hy).mono hy.size), fun y hy => rputRecord_anyX m y hL ((gm.below hy).mono hy.size)⟩
  have hCn : m.arr.size = 38 := rfl
  obtain ⟨C, HC⟩ : ∃ C, Hid (C = m.arr) := ⟨_, rfl⟩
  rw [← HC.out] at hCn cw0 cr0 ⊢
  have kX := Blk.new w C 41
  have bw : Below w.heap.size w (w.alloc (.cells C 41)) := (Below.refl _ _).alloc (Nat.le_refl _) _
  have gA := gm.app.2
  have key1 : ∀ y : World, Below w.heap.size w y → Calls Tryz.prog 4 #[.agg #[.int .i64 m.mo.ro, .int .i64 m.mo.fr, .int .i64 m.mo.bl.hd.c, .int .i64 m.mo.bl.hd.h, .int .u64 m.mo.bl.hd.pa, .int .u64 m.mo.bl.hd.tx, .int .u64 m.mo.bl.hd.gu, .int .u64 m.mo.bl.hd.st, .int .u64 m.mo.bl.hd.re, .int .u64 m.mo.bl.hd.be, .int .i64 m.mo.bl.hd.pr, .slice m.mo.bl.tx.la m.mo.bl.tx.xs.length m.mo.bl.tx.lc, .slice m.mo.bl.gu.la m.mo.bl.gu.xs.length m.mo.bl.gu.lc, .slice m.mo.ba.la m.mo.ba.xs.length m.mo.ba.lc]] y fun e w' => IsBool e ∧ Below y.heap.size y w' := fun y hy =>
    heavyMotion_any m.mo y ((gA.app.2.app.1.below hy).mono hy.size) (by omega)
  have key2 : ∀ y : World, Below w.heap.size w y → Calls Tryz.prog 5 #[.slice m.kn.bl.tx.la m.kn.bl.tx.xs.length m.kn.bl.tx.lc] y fun e w' => IsBool e ∧ Below y.heap.size y w' := fun y hy =>
    heavy_any y.heap.size m.kn.bl.tx y (Nat.le_refl _) (Lst.held Tx.len (((gA.app.2.app.2.below hy).mono hy.size).get 15 rfl))
  have hf2 := cert_lens m.kn.ce (by have h := hk; simp only [Known.atoms, wtL_append] at h; omega)
  have hg2 : m.kn.bl.gu.xs.length ≤ 1099400000000 := by
    have h := hk
    have h1 := len_wt Guilt.atoms Guilt.wt_pos m.kn.bl.gu.xs
    simp only [Known.atoms, Block.atoms, wtL_append, listL, wtL] at h
    omega
  clear gm hm hk hv hL gA
  have q7 : (w.alloc (.cells C 41)).cell? ⟨w.heap.size, 7, none⟩ = some (.int .i64 m.mo.ro) := (kX.cell 7).trans (by rw [HC.out]; rfl)
  have q8 : (w.alloc (.cells C 41)).cell? ⟨w.heap.size, 8, none⟩ = some (.int .i64 m.mo.fr) := (kX.cell 8).trans (by rw [HC.out]; rfl)
  have q9 : (w.alloc (.cells C 41)).cell? ⟨w.heap.size, 9, none⟩ = some (.int .i64 m.mo.bl.hd.c) := (kX.cell 9).trans (by rw [HC.out]; rfl)
  have q10 : (w.alloc (.cells C 41)).cell? ⟨w.heap.size, 10, none⟩ = some (.int .i64 m.mo.bl.hd.h) := (kX.cell 10).trans (by rw [HC.out]; rfl)
  have q11 : (w.alloc (.cells C 41)).cell? ⟨w.heap.size, 11, none⟩ = some (.int .u64 m.mo.bl.hd.pa) := (kX.cell 11).trans (by rw [HC.out]; rfl)
  have q12 : (w.alloc (.cells C 41)).cell? ⟨w.heap.size, 12, none⟩ = some (.int .u64 m.mo.bl.hd.tx) := (kX.cell 12).trans (by rw [HC.out]; rfl)
  have q13 : (w.alloc (.cells C 41)).cell? ⟨w.heap.size, 13, none⟩ = some (.int .u64 m.mo.bl.hd.gu) := (kX.cell 13).trans (by rw [HC.out]; rfl)
  have q14 : (w.alloc (.cells C 41)).cell? ⟨w.heap.size, 14, none⟩ = some (.int .u64 m.mo.bl.hd.st) := (kX.cell 14).trans (by rw [HC.out]; rfl)
  have q15 : (w.alloc (.cells C 41)).cell? ⟨w.heap.size, 15, none⟩ = some (.int .u64 m.mo.bl.hd.re) := (kX.cell 15).trans (by rw [HC.out]; rfl)
  have q16 : (w.alloc (.cells C 41)).cell? ⟨w.heap.size, 16, none⟩ = some (.int .u64 m.mo.bl.hd.be) := (kX.cell 16).trans (by rw [HC.out]; rfl)
  have q17 : (w.alloc (.cells C 41)).cell? ⟨w.heap.size, 17, none⟩ = some (.int .i64 m.mo.bl.hd.pr) := (kX.cell 17).trans (by rw [HC.out]; rfl)
  have q18 : (w.alloc (.cells C 41)).cell? ⟨w.heap.size, 18, none⟩ = some (.slice m.mo.bl.tx.la m.mo.bl.tx.xs.length m.mo.bl.tx.lc) := (kX.cell 18).trans (by rw [HC.out]; rfl)
  have q19 : (w.alloc (.cells C 41)).cell? ⟨w.heap.size, 19, none⟩ = some (.slice m.mo.bl.gu.la m.mo.bl.gu.xs.length m.mo.bl.gu.lc) := (kX.cell 19).trans (by rw [HC.out]; rfl)
  have q20 : (w.alloc (.cells C 41)).cell? ⟨w.heap.size, 20, none⟩ = some (.slice m.mo.ba.la m.mo.ba.xs.length m.mo.ba.lc) := (kX.cell 20).trans (by rw [HC.out]; rfl)
  go_enter Tryz.func3, Tryz.ntmps3
  go_wp2_with fail
  refine (key1 _ bw).mono ?_
  rintro e w0 ⟨⟨z, rfl⟩, B0⟩
  have bw0 := bw.trans (B0.mono bw.size)
  have k0 := kX.below B0 kX.lt
  clear key1 q7 q8 q9 q10 q11 q12 q13 q14 q15 q16 q17 q18 q19 q20
  cases z
  rotate_left
  · go_wp2
    go_ret
    exact ⟨rfl, bw0⟩
  have q36 : w0.cell? ⟨w.heap.size, 36, none⟩ = some (.slice m.kn.bl.tx.la m.kn.bl.tx.xs.length m.kn.bl.tx.lc) := (k0.cell 36).trans (by rw [HC.out]; rfl)
  have hz0 := k0.lt
  go_wp2_with fail
  refine (key2 _ bw0).mono ?_
  rintro e w1 ⟨⟨z, rfl⟩, b1⟩
  have bw1 := bw0.trans (b1.mono bw0.size)
  have k1 := k0.below b1 k0.lt
  clear key2 q36
  cases z
  rotate_left
  · go_wp2
    go_ret
    exact ⟨rfl, bw1⟩
  have q37 : w1.cell? ⟨w.heap.size, 37, none⟩ = some (.slice m.kn.bl.gu.la m.kn.bl.gu.xs.length m.kn.bl.gu.lc) := (k1.cell 37).trans (by rw [HC.out]; rfl)
  have q26 : w1.cell? ⟨w.heap.size, 26, none⟩ = some (.slice m.kn.ce.fr.la m.kn.ce.fr.xs.length m.kn.ce.fr.lc) := (k1.cell 26).trans (by rw [HC.out]; rfl)
  have hz1 := k1.lt
  by_cases hbig : (4096 : Int) < (m.kn.bl.gu.xs.length : Int) + (m.kn.ce.fr.xs.length : Int)
  · go_wp2
    go_ret
    exact ⟨rfl, bw1⟩
  go_upto_region 3 with fail
  clear q37 q26 hbig hg2 hf2
  refine wp_region_list ?_
  refine wpList_load_whole (by kernel_rfl) 41 _ rfl w.heap.size rfl C _ _ k1 Tryz.underlying41 rfl (by rw [hCn]; kernel_rfl) ?_
  refine wpList_on (by kernel_rfl) (fun K hK => ?_)
  go_simp
  refine (cw0 _ bw1).mono ?_
  rintro e w2 ⟨rfl, b2⟩
  refine hK _ _ ?_
  clear hK K
  have bw2 := bw1.trans (b2.mono bw1.size)
  have k2 := k1.below b2 k1.lt
  refine wpList_plain rfl (fun K hK => ?_)
  go_simp
  refine hK _ _ ?_
  clear hK K
  refine wpList_plain rfl (fun K hK => ?_)
  go_simp
  refine hK _ _ ?_
  clear hK K
  refine wpList_plain rfl (fun K hK => ?_)
  go_simp
  refine hK _ _ ?_
  clear hK K
  refine wpList_plain rfl (fun K hK => ?_)
  go_simp
  refine hK _ _ ?_
  clear hK K
  refine wpList_plain rfl (fun K hK => ?_)
  go_simp
  refine hK _ _ ?_
  clear hK K
  refine wpList_nil ?_
  simp only [Exit.then]
  go_upto_region 4 with fail
  refine wp_region_list ?_
  refine wpList_load_whole (by kernel_rfl) 41 _ rfl w.heap.size rfl C _ _ k2 Tryz.underlying41 rfl (by rw [hCn]; kernel_rfl) ?_
  refine wpList_on (by kernel_rfl) (fun K hK => ?_)
  go_simp
  refine (cr0 _ bw2).mono ?_
  rintro e w3 ⟨rfl, b3⟩
  refine hK _ _ ?_
  clear hK K
  have bw3 := bw2.trans (b3.mono bw2.size)
  refine wpList_plain rfl (fun K hK => ?_)
  go_simp
  refine hK _ _ ?_
  clear hK K
  refine wpList_plain rfl (fun K hK => ?_)
  go_simp
  refine hK _ _ ?_
  clear hK K
  refine wpList_plain rfl (fun K hK => ?_)
  go_simp
  refine hK _ _ ?_
  clear hK K
  refine wpList_plain rfl (fun K hK => ?_)
  go_simp
  refine hK _ _ ?_
  clear hK K
  refine wpList_plain rfl (fun K hK => ?_)
  go_simp
  refine hK _ _ ?_
  clear hK K
  refine wpList_nil ?_
  simp only [Exit.then]
  go_wp2
  go_ret
  exact ⟨by simp, bw3⟩

set_option maxRecDepth 100000 in
set_option maxHeartbeats 8000000 in
theorem lifted (os : Os) (started : os.Started) (H : Type) (enc : TypeId × Value → H) (F : Stop.Interp) :
    ReturnsInHanded {} Tryz.checked os 3 .any ((Rows.OpenSpec.upto Rows.wireRecordsSpec).pre6 enc Tryz.prog Tryz.f3 Rows.wireRecordsUptoRow.domain false) (((Rows.OpenSpec.upto Rows.wireRecordsSpec).at F).post enc Tryz.prog Tryz.f3 false true false false) := by
  refine returnsInHanded_of_cond (C := Tryz.checked) (s := Rows.OpenSpec.upto Rows.wireRecordsSpec) (k := Rows.uptoSmall) rfl own started (by kernel_rfl) Tryz.func3
    (OpenSpec.witness (enc := enc) (C := Tryz.checked) (s := Rows.OpenSpec.upto Rows.wireRecordsSpec) (k := Rows.uptoSmall) rfl false ⟨#[], #[.agg #[.int .i64 0, .int .i64 0, .int .i64 0, .int .i64 0, .bool false, .int .u64 0, .int .i64 0, .int .i64 0, .int .i64 0, .int .i64 0, .int .i64 0, .int .u64 0, .int .u64 0, .int .u64 0, .int .u64 0, .int .u64 0, .int .u64 0, .int .i64 0, .slice none 0 0, .slice none 0 0, .slice none 0 0, .int .i64 0, .int .i64 0, .int .i64 0, .bool false, .int .u64 0, .slice none 0 0, .int .i64 0, .int .i64 0, .int .u64 0, .int .u64 0, .int .u64 0, .int .u64 0, .int .u64 0, .int .u64 0, .int .i64 0, .slice none 0 0, .slice none 0 0]], []⟩ 8 (by kernel_rfl) (by kernel_rfl) (by kernel_rfl)
      (x := ([.agg [.lit (.int .i64 0), .agg [.lit (.int .i64 0), .lit (.int .i64 0), .lit (.int .i64 0), .lit (.bool false), .lit (.int .u64 0), .lit (.int .i64 0)], .agg [.lit (.int .i64 0), .lit (.int .i64 0), .agg [.agg [.lit (.int .i64 0), .lit (.int .i64 0), .lit (.int .u64 0), .lit (.int .u64 0), .lit (.int .u64 0), .lit (.int .u64 0), .lit (.int .u64 0), .lit (.int .u64 0), .lit (.int .i64 0)], .nil, .nil], .nil], .agg [.agg [.lit (.int .i64 0), .lit (.int .i64 0), .lit (.int .i64 0), .lit (.bool false), .lit (.int .u64 0), .nil], .agg [.agg [.lit (.int .i64 0), .lit (.int .i64 0), .lit (.int .u64 0), .lit (.int .u64 0), .lit (.int .u64 0), .lit (.int .u64 0), .lit (.int .u64 0), .lit (.int .u64 0), .lit (.int .i64 0)], .nil, .nil]]]], [], [])) (by kernel_rfl) rfl (by kernel_rfl)) ?_
  intro W base args ds gs before hval0 hW _ hk0 _
  have hval : ∀ (j : Nat) t v, Tryz.f3.params[j]? = some t → args[j]? = some v → Value.okWide Tryz.prog W .any base t v := hval0
  have hk : Rows.uptoSmall H (ds ++ gs) = true := hk0
  have hW' := hW
  obtain ⟨p, q, hA0, hV, rfl, hfz, hnd⟩ := hW
  have hA : DataW.TrodAll enc Tryz.prog W 0 (fun _ => true) true Tryz.f3.params.toList args.toList ds p := hA0
  rw [Tryz.params3] at hA hval
  obtain ⟨v0, vs0, d0, ds0, pp0, qq0, hargs, rfl, rfl, h0, r0⟩ := trodAll_cons hA
  obtain ⟨rfl, rfl, rfl⟩ := trodAll_nil r0
  obtain rfl : args = #[v0] := by cases args; simp_all
  obtain ⟨rfl, rfl⟩ := trodVars_none hV
  have hbk : Rows.uptoBulkAll [d0] ≤ 1048576 := by
    have h := of_decide_eq_true hk
    simpa using h
  simp only [Rows.uptoBulkAll] at hbk
  have k0 := h0
  have lt0 : ∀ x ∈ pp0, x.block < W.heap.size := by obtain ⟨m, hm⟩ := k0; exact DataW.trod_lt m _ _ _ hm
  obtain ⟨fu0, hf0⟩ := h0
  obtain ⟨cs0, rfl, hcs0⟩ := okWide_struct Tryz.underlying41 (hval 0 41 v0 rfl rfl)
  have g0 : DataW.trod enc Tryz.prog W 0 (fun _ => true) true fu0 41 cs0.toList = some (d0, pp0) := hf0
  obtain ⟨m, e0, gd0, b0, b1, b2⟩ := open_Record enc W (fun _ => true) _ _ _ g0
  have ea0 : cs0 = m.arr := by
    apply Array.ext'
    rw [e0]
    simp [Record.arr, Vote.flds, Cert.flds, Header.flds, Block.flds, Motion.flds, Known.flds, Record.flds, Fld.val, Lst.fld]
  subst ea0
  clear hA0 hval0
  refine (walk m W (by simp only at b0; omega) (by simp only at b1; omega) (by simp only at b2; omega) gd0).mono fun e W' ⟨he, bel⟩ => ?_
  subst he
  exact ⟨_, rfl, _, _, _, [], _, [], hW', trodAll_mk1 (shut_bool Tryz.underlying4 _), (trodAll_cons_mk (Below.trod laidOut (by kernel_rfl) (of_decide_eq_true (by kernel_rfl)) k0 bel lt0) trodAll_mk0), rfl, bel.frame _, fun h => by cases h⟩

theorem over : Rows.wireRecordsUptoRow.holds Tryz.pinned (Rows.OpenSpec.upto Rows.wireRecordsSpec) :=
  OpenClaim.holds_of_cond 3 Tryz.f3 rfl rfl rfl rfl rfl rfl rfl ⟨rfl, rfl, rfl, rfl, rfl⟩ rfl rfl rfl rfl rfl (by kernel_rfl) Tryz.func3 (by kernel_rfl)
    (of_decide_eq_true (by kernel_rfl)) (by unfold Func.isWrapper; first | (rw [if_pos (by decide +kernel)]; kernel_rfl) | (rw [if_neg (by decide +kernel)]; exact ⟨rfl, rfl⟩))
    (fun os started H enc _ F => lifted os started H enc F)

end Go.Proofs.YtgppnghnjdkfdaaGreat.wireRecords
namespace Go.Proofs.YtgppnghnjdkfdaaGreat

/-- The statement. -/
theorem wireRecords_holds : Rows.WireRecordsUptoSaid := wireRecords.over
end Go.Proofs.YtgppnghnjdkfdaaGreat
