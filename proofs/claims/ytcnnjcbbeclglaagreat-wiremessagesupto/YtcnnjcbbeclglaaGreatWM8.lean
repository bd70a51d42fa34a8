/- Which lists of what is known may be. -/
import Derived.Test.YtcnnjcbbeclglaaGreatXMay5
import Derived.Deep.MidRow
import Derived.Deep.WholeRow
import Derived.Test.YtcnnjcbbeclglaaGreatXMay6
import Derived.Test.YtcnnjcbbeclglaaGreatXTop3
import Derived.Test.YtcnnjcbbeclglaaGreatXPut3
import Derived.Test.YtcnnjcbbeclglaaGreatXWalk5
import Derived.Test.YtcnnjcbbeclglaaGreatXRef7
import Derived.Test.YtcnnjcbbeclglaaGreatRows
import Derived.Test.YtcnnjcbbeclglaaGreatWM3
import Derived.WalkKit
import Derived.ProofKit
import Derived.OpenShut
import Derived.ChangeOld
import Derived.ChangeArms
import Derived.Deep.Slices

namespace Go.Proofs.YtcnnjcbbeclglaaGreat
open Go.RowKit
set_option linter.unusedVariables false
set_option linter.unusedSimpArgs false

theorem wpList_store_new {P : Program} {ops : Array Oper} {rest : List Oper} {op : Oper} {a : Act} {w : World} {Q : Exit → Act → World → Prop} (hgd : op.guard = none) (ty : TypeId) (x y : Operand) (ho : op.op = .store ty x y) (c c' : Array Value)
    (hx : a.eval x = .pointer (some ⟨w.heap.size, 0, none⟩)) (hy : a.eval y = .agg c') (hi : (P.info? ty).map (·.size) = some c'.size) (hs : c.size = c'.size) (h1 : c'.all (·.oneCell') = true)
    (h : wpList P ops Q rest (a.put op.dst undef) (w.alloc (.cells c' ty))) : wpList P ops Q (op :: rest) a (w.alloc (.cells c ty)) :=
  wpList_plain hgd fun K hK => by
    unfold Oper.wp execOp
    simp only [ho, hx, hy, Instr.storeAt, Instr.sureAddr, Sem.run_bind, Sem.run_pure, Result.andThen_ok, run_storeVar_new w ty c c' hi hs h1]
    exact hK _ _ h

set_option maxRecDepth 4000 in
set_option maxHeartbeats 1600000 in
theorem allKnown_anyX (base : Nat) (l : Lst Known) (hn : ∀ y ∈ l.xs, wtL y.atoms ≤ 1099400000000) (w : World) (hb0 : base ≤ w.heap.size) (hh : l.Held Known.flds 17 base w) :
    Calls Tryz.prog 37 #[.slice l.la l.xs.length l.lc, .func (.func 38) #[] #[]] w fun e w' => e = .returned (.bool (l.xs.all Known.may)) ∧ Below w.heap.size w w' := by
  obtain ⟨la, lc, xs⟩ := l
  obtain ⟨hc, hcm, _⟩ := id hh
  simp only at hc hcm hn ⊢
  unfold maxLen at hcm
  go_enter Tryz.func37, Tryz.ntmps37
  go_wp2
  go_loopw [6, 9] (fun _ iv wv => ∃ (k : Nat), k ≤ xs.length ∧ iv = .int .i64 k ∧ Hid (xs.all Known.may = (xs.drop k).all Known.may) ∧ Below w.heap.size w wv) (fun _ iv _ => xs.length - (intOf iv).toNat)
  case atStart => exact ⟨0, Nat.zero_le _, rfl, rfl, Below.refl _ _⟩
  case round =>
    obtain ⟨k, hk, rfl, HR, hb⟩ := hrel
    by_cases hlt : k < xs.length
    · have hlt' : (k : Int) < (xs.length : Int) := by omega
      obtain ⟨_, _, h0 | ⟨rb, ro, e0, rl, rz, rc⟩⟩ := hh.below (hb.mono hb0)
      · simp only at h0; subst h0; simp at hlt
      simp only at e0 rc
      subst e0
      have rk := rc k (xs[k]'hlt) (List.getElem?_eq_getElem hlt)
      have HS : Hid ((xs.drop k).all Known.may = (Known.may (xs[k]'hlt) && (xs.drop (k + 1)).all Known.may)) := by
        show _ = _
        rw [List.drop_eq_getElem_cons hlt]; rfl
      obtain ⟨y, Hy⟩ : ∃ y : Known, Hid (y = xs[k]'hlt) := ⟨xs[k]'hlt, rfl⟩
      rw [← Hy.out] at rk HS
      obtain ⟨C, HC⟩ : ∃ C : Array Value, Hid (C = #[.int .i64 y.ce.h, .int .i64 y.ce.r, .int .i64 y.ce.s, .bool y.ce.has, .int .u64 y.ce.bl, .slice y.ce.fr.la y.ce.fr.xs.length y.ce.fr.lc, .int .i64 y.bl.hd.c, .int .i64 y.bl.hd.h, .int .u64 y.bl.hd.pa, .int .u64 y.bl.hd.tx, .int .u64 y.bl.hd.gu, .int .u64 y.bl.hd.st, .int .u64 y.bl.hd.re, .int .u64 y.bl.hd.be, .int .i64 y.bl.hd.pr, .slice y.bl.tx.la y.bl.tx.xs.length y.bl.tx.lc, .slice y.bl.gu.la y.bl.gu.xs.length y.bl.gu.lc]) := ⟨_, rfl⟩
      have hCs : C.toList = (Known.flds y).map Fld.val := by rw [HC.out]; simp [Vote.flds, Guilt.flds, Cert.flds, Header.flds, Turn.flds, Proof.flds, Sight.flds, Tx.flds, Block.flds, Motion.flds, Known.flds, Message.flds, Record.flds, Fld.val, Lst.fld]
      have hCn : C.size = 17 := by rw [HC.out]; rfl
      have hC1 : C.all (·.oneCell') = true := by rw [HC.out]; simp [Value.oneCell']
      have hr1 : wr.rangeAt rb (ro + k * 17) C.toList := fun j v hv => by
        rw [hCs, List.getElem?_map] at hv
        obtain ⟨f, hf, rfl⟩ := Option.map_eq_some_iff.1 hv
        exact rk.get j hf
      have hr2 : (wr.alloc (.cells C 48)).rangeAt wr.heap.size 0 C.toList := fun j v hv => by
        rw [(Blk.new wr C 48).cell, Nat.zero_add]
        simpa using hv
      have hb1 := (hb.alloc hb.size (.cells C 48))
      have gd := (rk.goods.below (hb1' hb hb0 (.cells C 48))).mono (Nat.le_trans hb0 hb1.size)
      have key := mayKnown_anyX y _ gd (hn y (by rw [Hy.out]; exact List.getElem_mem hlt))
      rw [← HC.out] at key
      clear hCs gd
      clear rc rk
      go_upto_region 3 with fail
      refine wp_region_list ?_
      refine wpList_plain rfl (fun K hK => ?_)
      go_simp
      refine hK _ _ ?_
      clear hK K
      refine wpList_load_mid rfl 48 _ rfl rb (ro + k * 17) rfl C.toList _ hr1 Tryz.underlying48 rfl (by rw [Array.length_toList, hCn]; kernel_rfl) ?_
      rw [Array.toArray_toList]
      refine wpList_plain rfl (fun K hK => ?_)
      go_simp
      refine hK _ _ ?_
      clear hK K
      refine wpList_store_new rfl 48 _ _ rfl #[.int .i64 0, .int .i64 0, .int .i64 0, .bool false, .int .u64 0, .slice none 0 0, .int .i64 0, .int .i64 0, .int .u64 0, .int .u64 0, .int .u64 0, .int .u64 0, .int .u64 0, .int .u64 0, .int .i64 0, .slice none 0 0, .slice none 0 0] C rfl rfl (by rw [hCn]; kernel_rfl) (by rw [hCn]; rfl) hC1 ?_
      refine wpList_nil ?_
      simp only [Exit.then]
      go_upto_region 4 with fail
      refine wp_region_list ?_
      refine wpList_plain rfl (fun K hK => ?_)
      go_simp
      refine hK _ _ ?_
      clear hK K
      refine wpList_load_mid rfl 48 _ rfl wr.heap.size 0 rfl C.toList _ hr2 Tryz.underlying48 rfl (by rw [Array.length_toList, hCn]; kernel_rfl) ?_
      rw [Array.toArray_toList]
      refine wpList_plain rfl (fun K hK => ?_)
      go_simp
      refine key.mono ?_
      rintro e w1 ⟨rfl, b1⟩
      refine hK _ _ ?_
      clear hK K
      refine wpList_plain rfl (fun K hK => ?_)
      go_simp
      refine hK _ _ ?_
      clear hK K
      refine wpList_nil ?_
      simp only [Exit.then]
      have hb2 := hb1.trans (b1.mono hb1.size)
      cases hm : Known.may y
      · have Hf : Hid (xs.all Known.may = false) := by
          show _ = _
          rw [HR.out, HS.out, hm]; rfl
        clear HR HS hm
        go_wp2
        go_ret
        exact ⟨by rw [Hf.out]; rfl, hb2⟩
      · have Hf : Hid (xs.all Known.may = (xs.drop (k + 1)).all Known.may) := by
          show _ = _
          rw [HR.out, HS.out, hm]; rfl
        clear HR HS hm
        go_wp2
        exact ⟨⟨k + 1, by omega, by go_num, Hf, hb2⟩, by simp [intOf]; omega⟩
    · have Hf : Hid (xs.all Known.may = true) := by
        show _ = _
        rw [HR.out, List.drop_of_length_le (by omega)]; rfl
      have hge : ¬ (k : Int) < (xs.length : Int) := by omega
      clear HR
      go_wp2
      go_ret
      exact ⟨by rw [Hf.out]; rfl, hb⟩

end Go.Proofs.YtcnnjcbbeclglaaGreat

namespace Go.Proofs.YtcnnjcbbeclglaaGreat
open Go.RowKit
set_option linter.unusedVariables false
set_option linter.unusedSimpArgs false

def Message.may (x : Message) : Bool := decide (1 ≤ x.fr) && x.vo.xs.all Vote.may && x.mo.xs.all Motion.may && x.kn.xs.all Known.may && x.tx.xs.all Tx.may

set_option maxRecDepth 4000 in
set_option maxHeartbeats 3200000 in
theorem mayMessage_anyX (x : Message) (w : World) (g : goods w.heap.size w x.flds) (hn : wtL x.atoms ≤ 1099400000000) : Calls Tryz.prog 14 #[.agg #[.int .i64 x.fr, .int .i64 x.to, .int .i64 x.h, .slice x.vo.la x.vo.xs.length x.vo.lc, .slice x.mo.la x.mo.xs.length x.mo.lc, .slice x.kn.la x.kn.xs.length x.kn.lc, .slice x.tx.la x.tx.xs.length x.tx.lc]] w fun e w' => e = .returned (.bool x.may) ∧ Below w.heap.size w w' := by
  have bA : Below w.heap.size w (w.alloc (.cells #[.int .i64 x.fr, .int .i64 x.to, .int .i64 x.h, .slice x.vo.la x.vo.xs.length x.vo.lc, .slice x.mo.la x.mo.xs.length x.mo.lc, .slice x.kn.la x.kn.xs.length x.kn.lc, .slice x.tx.la x.tx.xs.length x.tx.lc] 27)) := (Below.refl _ _).alloc (Nat.le_refl _) _
  have kX := Blk.new w #[.int .i64 x.fr, .int .i64 x.to, .int .i64 x.h, .slice x.vo.la x.vo.xs.length x.vo.lc, .slice x.mo.la x.mo.xs.length x.mo.lc, .slice x.kn.la x.kn.xs.length x.kn.lc, .slice x.tx.la x.tx.xs.length x.tx.lc] 27
  have key1 : ∀ wv, Below w.heap.size w wv → Calls Tryz.prog 33 #[.slice x.vo.la x.vo.xs.length x.vo.lc, .func (.func 34) #[] #[]] wv fun e w' => e = .returned (.bool (x.vo.xs.all Vote.may)) ∧ Below wv.heap.size wv w' := fun wv hv => allVote_anyX wv.heap.size x.vo wv (Nat.le_refl _) (Lst.held (flds := Vote.flds) (l := x.vo) Vote.len (((g.below hv).mono hv.size).get 3 rfl))
  have key2 : ∀ wv, Below w.heap.size w wv → Calls Tryz.prog 35 #[.slice x.mo.la x.mo.xs.length x.mo.lc, .func (.func 36) #[] #[]] wv fun e w' => e = .returned (.bool (x.mo.xs.all Motion.may)) ∧ Below wv.heap.size wv w' := fun wv hv => allMotion_anyX wv.heap.size x.mo (x.wts hn).1 wv (Nat.le_refl _) (Lst.held (flds := Motion.flds) (l := x.mo) Motion.len (((g.below hv).mono hv.size).get 4 rfl))
  have key3 : ∀ wv, Below w.heap.size w wv → Calls Tryz.prog 37 #[.slice x.kn.la x.kn.xs.length x.kn.lc, .func (.func 38) #[] #[]] wv fun e w' => e = .returned (.bool (x.kn.xs.all Known.may)) ∧ Below wv.heap.size wv w' := fun wv hv => allKnown_anyX wv.heap.size x.kn (x.wts hn).2.1 wv (Nat.le_refl _) (Lst.held (flds := Known.flds) (l := x.kn) Known.len (((g.below hv).mono hv.size).get 5 rfl))
  have key4 : ∀ wv, Below w.heap.size w wv → Calls Tryz.prog 39 #[.slice x.tx.la x.tx.xs.length x.tx.lc, .func (.func 40) #[] #[]] wv fun e w' => e = .returned (.bool (x.tx.xs.all Tx.may)) ∧ Below wv.heap.size wv w' := fun wv hv => allTx_anyX wv.heap.size x.tx (x.wts hn).2.2 wv (Nat.le_refl _) (Lst.held (flds := Tx.flds) (l := x.tx) Tx.len (((g.below hv).mono hv.size).get 6 rfl))
  clear g hn
  go_enter Tryz.func14, Tryz.ntmps14
  by_cases c0 : 1 ≤ x.fr
  rotate_left
  · have cd : decide (1 ≤ x.fr) = false := decide_eq_false c0
    go_wp2
    go_ret
    exact ⟨by unfold Message.may; rw [cd]; simp, bA⟩
  have H0 : Hid (decide (1 ≤ x.fr) = true) := decide_eq_true c0
  have cd0 : decide (1 ≤ x.fr) = true := decide_eq_true c0
  go_wp2_with fail
  refine (key1 _ bA).mono ?_
  rintro e w1 ⟨rfl, b1⟩
  have B1 := bA.trans (b1.mono bA.size)
  have k1 := kX.below b1 kX.lt
  cases hm1 : (x.vo.xs.all Vote.may)
  · have Hf := show Hid (_ = _) from hm1
    clear hm1
    go_wp2
    go_ret
    exact ⟨by unfold Message.may; rw [Hf.out]; simp, B1⟩
  have H1 := show Hid (_ = _) from hm1
  clear hm1
  have q2_4 := k1.cell 4
  simp only [List.getElem?_toArray, List.getElem?_cons_succ, List.getElem?_cons_zero] at q2_4
  have hz2 := k1.lt
  go_wp2_with fail
  refine (key2 _ B1).mono ?_
  rintro e w2 ⟨rfl, b2⟩
  have B2 := B1.trans (b2.mono B1.size)
  have k2 := k1.below b2 k1.lt
  clear q2_4 hz2
  cases hm2 : (x.mo.xs.all Motion.may)
  · have Hf := show Hid (_ = _) from hm2
    clear hm2
    go_wp2
    go_ret
    exact ⟨by unfold Message.may; rw [Hf.out]; simp, B2⟩
  have H2 := show Hid (_ = _) from hm2
  clear hm2
  have q3_5 := k2.cell 5
  simp only [List.getElem?_toArray, List.getElem?_cons_succ, List.getElem?_cons_zero] at q3_5
  have hz3 := k2.lt
  go_wp2_with fail
  refine (key3 _ B2).mono ?_
  rintro e w3 ⟨rfl, b3⟩
  have B3 := B2.trans (b3.mono B2.size)
  have k3 := k2.below b3 k2.lt
  clear q3_5 hz3
  cases hm3 : (x.kn.xs.all Known.may)
  · have Hf := show Hid (_ = _) from hm3
    clear hm3
    go_wp2
    go_ret
    exact ⟨by unfold Message.may; rw [Hf.out]; simp, B3⟩
  have H3 := show Hid (_ = _) from hm3
  clear hm3
  have q4_6 := k3.cell 6
  simp only [List.getElem?_toArray, List.getElem?_cons_succ, List.getElem?_cons_zero] at q4_6
  have hz4 := k3.lt
  go_wp2_with fail
  refine (key4 _ B3).mono ?_
  rintro e w4 ⟨rfl, b4⟩
  have B4 := B3.trans (b4.mono B3.size)
  have k4 := k3.below b4 k3.lt
  clear q4_6 hz4
  go_wp2
  go_ret
  exact ⟨by unfold Message.may; rw [H0.out, H1.out, H2.out, H3.out]; simp, B4⟩

end Go.Proofs.YtcnnjcbbeclglaaGreat

namespace Go.Proofs.YtcnnjcbbeclglaaGreat
open Go.RowKit
set_option linter.unusedVariables false
set_option linter.unusedSimpArgs false

theorem Motion.odd_may (x : Motion) (h : okL x.atoms = true) : x.odd = !x.may := by
  simp only [Motion.atoms, okL_append, Bool.and_eq_true] at h
  have hb := okL_list h.2
  have h1 := h.1.1
  unfold Motion.odd Motion.may
  rw [x.bl.odd_may h.1.2, any_all fun y hy => Cert.odd_may y (hb.2 y hy)]
  by_cases hf : 1 ≤ x.fr
  · have h2 : ¬ x.fr < 1 := by omega
    simp only [hf, h2, decide_true, decide_false]
    cases x.bl.may <;> simp
  · have h2 : x.fr < 1 := by omega
    simp only [hf, h2, decide_true, decide_false]
    simp
theorem Known.odd_may (x : Known) (h : okL x.atoms = true) : x.odd = !x.may := by
  simp only [Known.atoms, okL_append, Bool.and_eq_true] at h
  unfold Known.odd Known.may
  rw [x.ce.odd_may h.1, x.bl.odd_may h.2]
  simp
theorem Message.odd_may (x : Message) (h : okL x.atoms = true) : x.odd = !x.may := by
  simp only [Message.atoms, okL_append, Bool.and_eq_true] at h
  have hv := okL_list h.1.1.1.2
  have hm := okL_list h.1.1.2
  have hk := okL_list h.1.2
  have ht := okL_list h.2
  unfold Message.odd Message.may
  rw [any_all fun y hy => Vote.odd_may y (hv.2 y hy), any_all fun y hy => Motion.odd_may y (hm.2 y hy), any_all fun y hy => Known.odd_may y (hk.2 y hy), any_all fun y hy => Tx.odd_may y (ht.2 y hy)]
  have e : decide (x.fr < 1) = !decide (1 ≤ x.fr) := by
    by_cases hf : 1 ≤ x.fr
    · have h2 : ¬ x.fr < 1 := by omega
      simp [hf, h2]
    · have h2 : x.fr < 1 := by omega
      simp [hf, h2]
  rw [e]
  generalize decide (1 ≤ x.fr) = b1
  generalize x.vo.xs.all Vote.may = b2
  generalize x.mo.xs.all Motion.may = b3
  generalize x.kn.xs.all Known.may = b4
  generalize x.tx.xs.all Tx.may = b5
  revert b1 b2 b3 b4 b5
  decide

set_option maxHeartbeats 1600000 in
theorem wputMessage_anyX (x : Message) (w : World) (hL : wtL x.atoms ≤ 1099400000000) (g : goods w.heap.size w x.flds) :
    Calls Tryz.prog 6 #[(.agg #[.int .i64 x.fr, .int .i64 x.to, .int .i64 x.h, .slice x.vo.la x.vo.xs.length x.vo.lc, .slice x.mo.la x.mo.xs.length x.mo.lc, .slice x.kn.la x.kn.xs.length x.kn.lc, .slice x.tx.la x.tx.xs.length x.tx.lc])] w fun e w' => e = .returned (.tuple #[.string ⟨(outB (encZL x.atoms) (!okL x.atoms) x.odd).toArray⟩, .int .i64 (outE (!okL x.atoms) x.odd)]) ∧ Below w.heap.size w w' := by
  have g : goods (w.alloc (.cells #[.int .i64 x.fr, .int .i64 x.to, .int .i64 x.h, .slice x.vo.la x.vo.xs.length x.vo.lc, .slice x.mo.la x.mo.xs.length x.mo.lc, .slice x.kn.la x.kn.xs.length x.kn.lc, .slice x.tx.la x.tx.xs.length x.tx.lc] 27)).heap.size (w.alloc (.cells #[.int .i64 x.fr, .int .i64 x.to, .int .i64 x.h, .slice x.vo.la x.vo.xs.length x.vo.lc, .slice x.mo.la x.mo.xs.length x.mo.lc, .slice x.kn.la x.kn.xs.length x.kn.lc, .slice x.tx.la x.tx.xs.length x.tx.lc] 27)) x.flds := (g.below ((Below.refl _ _).alloc (Nat.le_refl _) _)).mono (by simp)
  have hput := put_Message x (if okL x.atoms = true then some ([] ++ encL x.atoms) else none) x.may (w.alloc (.cells #[.int .i64 x.fr, .int .i64 x.to, .int .i64 x.h, .slice x.vo.la x.vo.xs.length x.vo.lc, .slice x.mo.la x.mo.xs.length x.mo.lc, .slice x.kn.la x.kn.xs.length x.kn.lc, .slice x.tx.la x.tx.xs.length x.tx.lc] 27)) (fun b w5 hP kX hne hb5 => (pmessage_anyX (w.alloc (.cells #[.int .i64 x.fr, .int .i64 x.to, .int .i64 x.h, .slice x.vo.la x.vo.xs.length x.vo.lc, .slice x.mo.la x.mo.xs.length x.mo.lc, .slice x.kn.la x.kn.xs.length x.kn.lc, .slice x.tx.la x.tx.xs.length x.tx.lc] 27)).heap.size b (w.alloc (.cells #[.int .i64 x.fr, .int .i64 x.to, .int .i64 x.h, .slice x.vo.la x.vo.xs.length x.vo.lc, .slice x.mo.la x.mo.xs.length x.mo.lc, .slice x.kn.la x.kn.xs.length x.kn.lc, .slice x.tx.la x.tx.xs.length x.tx.lc] 27)).heap.size 0 x [] w5 (by simp; omega) hP (kX.safe (by decide) hne) (CellsAt.of_blk kX (by simp [Vote.flds, Guilt.flds, Cert.flds, Header.flds, Turn.flds, Proof.flds, Sight.flds, Tx.flds, Block.flds, Motion.flds, Known.flds, Message.flds, Record.flds, Fld.val, Lst.fld]) (g.below hb5))).mono fun e w' ⟨h1, h2⟩ => ⟨h1.wrote, h2⟩) (fun w5 h5 => mayMessage_anyX x w5 ((g.below h5).mono h5.size) ( hL))
  rw [(put_same x.fit (fun h => x.odd_may h)).1, (put_same x.fit (fun h => x.odd_may h)).2] at hput
  clear g
  go_enter Tryz.func6, Tryz.ntmps6
  go_wp2_with fail
  refine hput.mono ?_
  rintro e w1 ⟨rfl, b1⟩
  go_wp2
  go_ret2
  exact ⟨rfl, ((Below.refl _ _).alloc (Nat.le_refl _) _).trans (b1.mono (by simp))⟩

set_option maxHeartbeats 1600000 in
theorem rputMessage_anyX (x : Message) (w : World) (hL : wtL x.atoms ≤ 1099400000000) (g : goods w.heap.size w x.flds) :
    Calls Tryz.prog 7 #[(.agg #[.int .i64 x.fr, .int .i64 x.to, .int .i64 x.h, .slice x.vo.la x.vo.xs.length x.vo.lc, .slice x.mo.la x.mo.xs.length x.mo.lc, .slice x.kn.la x.kn.xs.length x.kn.lc, .slice x.tx.la x.tx.xs.length x.tx.lc])] w fun e w' => e = .returned (.tuple #[.string ⟨(outB (encZL x.atoms) (!okL x.atoms) x.odd).toArray⟩, .int .i64 (outE (!okL x.atoms) x.odd)]) ∧ Below w.heap.size w w' := by
  have R0 : RefL ((w.alloc (.cells #[.int .i64 x.fr, .int .i64 x.to, .int .i64 x.h, .slice x.vo.la x.vo.xs.length x.vo.lc, .slice x.mo.la x.mo.xs.length x.mo.lc, .slice x.kn.la x.kn.xs.length x.kn.lc, .slice x.tx.la x.tx.xs.length x.tx.lc] 27)).alloc (.cells #[.string ⟨#[]⟩, .bool false, .bool false] 61)) (w.heap.size + 1) [] false := by
    have h := Blk.new (w.alloc (.cells #[.int .i64 x.fr, .int .i64 x.to, .int .i64 x.h, .slice x.vo.la x.vo.xs.length x.vo.lc, .slice x.mo.la x.mo.xs.length x.mo.lc, .slice x.kn.la x.kn.xs.length x.kn.lc, .slice x.tx.la x.tx.xs.length x.tx.lc] 27)) #[.string ⟨#[]⟩, .bool false, .bool false] 61
    rw [World.size_alloc] at h
    exact h
  have bA : Below w.heap.size w ((w.alloc (.cells #[.int .i64 x.fr, .int .i64 x.to, .int .i64 x.h, .slice x.vo.la x.vo.xs.length x.vo.lc, .slice x.mo.la x.mo.xs.length x.mo.lc, .slice x.kn.la x.kn.xs.length x.kn.lc, .slice x.tx.la x.tx.xs.length x.tx.lc] 27)).alloc (.cells #[.string ⟨#[]⟩, .bool false, .bool false] 61)) := ((Below.refl _ _).alloc (Nat.le_refl _) _).alloc (by simp) _
  have g1 := g.below bA
  clear g
  go_enter Tryz.func7, Tryz.ntmps7
  go_wp2_with fail
  refine (rmessage_anyX w.heap.size (w.heap.size + 1) x [] false _ (by omega) (by simp only [wtL]; omega) R0 g1).mono ?_
  rintro e w1 ⟨rfl, R1, k1⟩
  have R2 : RefAt w1 (w.heap.size + 1) (encZL x.atoms) (!okL x.atoms) x.odd := by
    have h := R1
    unfold RefL at h
    simpa using h
  have b1 := bA.trans k1.below
  clear R0 R1 g1
  go_wp2_with fail
  refine (rout_any (w.heap.size + 1) _ _ _ _ R2).mono ?_
  rintro e w2 ⟨rfl, b2⟩
  go_wp2
  go_ret2
  exact ⟨rfl, b1.trans (b2.mono b1.size)⟩

end Go.Proofs.YtcnnjcbbeclglaaGreat

namespace Go.Proofs.YtcnnjcbbeclglaaGreat
open Go.ChangeShapes Go.WideShapes Go.ChangeAt Go.RowKit
set_option linter.unusedVariables false
set_option linter.unusedSimpArgs false

theorem i64_wf {a : Int} (h : (Lit.int .i64 a).wf = true) : -9223372036854775808 ≤ a ∧ a ≤ 9223372036854775807 := by
  simpa [Lit.wf, IntKind.min, IntKind.max, IntKind.signed, IntKind.bits] using h
theorem u64_wf {a : Int} (h : (Lit.int .u64 a).wf = true) : 0 ≤ a ∧ a ≤ 18446744073709551615 := by
  simpa [Lit.wf, IntKind.min, IntKind.max, IntKind.signed, IntKind.bits] using h
theorem addr_add (b off i : Nat) : (⟨b, off, none⟩ : Addr).add i = ⟨b, off + i, none⟩ := by unfold Addr.add; split <;> simp_all
theorem bulk_pos {H : Type} (d : DataW H) : 1 ≤ Rows.uptoBulk d := by
  cases d with
  | lit l => cases l <;> simp [Rows.uptoBulk]
  | nil => simp [Rows.uptoBulk]
  | ptr d => simp [Rows.uptoBulk]
  | slice elems spare => simp [Rows.uptoBulk]
  | agg parts => simp [Rows.uptoBulk]
  | iface t d => simp [Rows.uptoBulk]
  | map entries => simp [Rows.uptoBulk]
  | held h => simp [Rows.uptoBulk]
theorem goods_nil (base : Nat) (w : World) : goods base w [] := fun f hf => by simp at hf
theorem goods_cons {base : Nat} {w : World} {f : Fld} {fs : List Fld} (h : f.good base w) (g : goods base w fs) : goods base w (f :: fs) := fun x hx => by
  rcases List.mem_cons.1 hx with rfl | hx
  · exact h
  · exact g x hx
theorem listN {α : Type} {l : List α} {n : Nat} (h : l.length = n + 1) : ∃ a r, l = a :: r ∧ r.length = n := by
  match l, h with
  | a :: r, h => exact ⟨a, r, rfl, by simpa using h⟩
theorem list0 {α : Type} {l : List α} (h : l.length = 0) : l = [] := List.eq_nil_of_length_eq_zero h

/-- A reading of this type is a thing, whole, and no greater than what is read. -/
def Opened {H : Type} (enc : TypeId × Value → H) (W : World) (sp : Nat → Bool) {α : Type} (flds : α → List Fld) (atoms : α → List Atom) (T : TypeId) : Prop :=
  ∀ (fuel : Nat) (cs : List Value) (x : DataW H × List MemPlace), DataW.trod enc Tryz.prog W 0 sp true fuel T cs = some x →
    ∃ y : α, cs = (flds y).map Fld.val ∧ goods W.heap.size W (flds y) ∧ wtL (atoms y) ≤ 9 * Rows.uptoBulk x.1
theorem each_wt {H α : Type} (atoms : α → List Atom) (q : Nat → α) (D : Nat → DataW H) : ∀ (l : List Nat), (∀ i ∈ l, wtL (atoms (q i)) ≤ 9 * Rows.uptoBulk (D i)) → wtL (eachL atoms (l.map q)) ≤ 9 * Rows.uptoBulkAll (l.map D)
  | [], _ => by simp [eachL, wtL]
  | i :: r, h => by
    have h1 := h i (by simp)
    have h2 := each_wt atoms q D r fun j hj => h j (by simp [hj])
    simp only [List.map_cons, eachL, wtL_append, Rows.uptoBulkAll]
    omega
theorem open_lst {H : Type} {enc : TypeId × Value → H} {W : World} {sp : Nat → Bool} {α : Type} [Inhabited α] {flds : α → List Fld} {atoms : α → List Atom} {sz : Nat} (hz : ∀ x, (flds x).length = sz) (hpos : 0 < sz) {t e : TypeId} (ht : Tryz.prog.underlying t = some (.slice e)) (ce : Tryz.prog.cellsOf e = sz)
    (h1 : Opened enc W sp flds atoms e) (fuel : Nat) (cs : List Value) (x : DataW H × List MemPlace) (h : DataW.trod enc Tryz.prog W 0 sp true fuel t cs = some x) :
    ∃ l : Lst α, cs = [.slice l.la l.xs.length l.lc] ∧ (l.fld flds).good W.heap.size W ∧ 6 + wtL (eachL atoms l.xs) ≤ 9 * Rows.uptoBulk x.1 := by
  rcases Deep.open_slice ht h with ⟨rfl, rfl⟩ | ⟨a, len, cap, m, n, D, Pl, rfl, hb, hl, hm, hmm, rfl, hx⟩
  · exact ⟨⟨none, 0, []⟩, rfl, Lst.good (sz := sz) hz ⟨Nat.le_refl _, Nat.zero_le _, .inl rfl⟩, by simp [eachL, wtL, Rows.uptoBulk]⟩
  · have hlm : len ≤ m := by rw [hmm]; split <;> omega
    have each : ∀ i, i < len → ∃ y : α, (∀ j f, (flds y)[j]? = some f → W.cell? ((a.add (i * sz)).add j) = some f.val) ∧ goods W.heap.size W (flds y) ∧ wtL (atoms y) ≤ 9 * Rows.uptoBulk (D i) := by
      intro i hi
      obtain ⟨cs', h2, h3⟩ := hx i (by omega)
      rw [ce] at h2
      obtain ⟨_, hlen, hcell⟩ := World.cells?_some h2
      obtain ⟨y, e1, g, b⟩ := h1 _ _ _ h3
      refine ⟨y, fun j f hj => ?_, g, b⟩
      have hj' : j < sz := by rw [← hz y]; exact (List.getElem?_eq_some_iff.1 hj).1
      rw [hcell j hj', e1, List.getElem?_map, hj]; rfl
    obtain ⟨q, hq⟩ := Deep.choose_lt each
    refine ⟨⟨some a, cap, (List.range len).map q⟩, by simp, Lst.good (sz := sz) hz ⟨by simpa using hl, hm, ?_⟩, ?_⟩
    · by_cases h0 : len = 0
      · left; simp [h0]
      · right
        obtain ⟨b, off, spot⟩ := a
        have hp0 : 0 < (flds (q 0)).length := by rw [hz]; exact hpos
        have hy := (hq 0 (by omega)).1 0 _ (List.getElem?_eq_getElem hp0)
        have hspot : spot = none := by simpa [Addr.add] using World.cell?_spot hy
        subst hspot
        have hlt := World.block_lt_of_cell? W _ hy
        have hlt' : b < W.heap.size := by simpa [Addr.add] using hlt
        refine ⟨b, off, rfl, hlt', hlt', fun i x hx => ?_⟩
        have hi : i < len := by
          have := (List.getElem?_eq_some_iff.1 hx).1
          simpa using this
        have hxq : x = q i := by
          rw [List.getElem?_map, List.getElem?_range hi] at hx
          simpa using hx.symm
        subst hxq
        obtain ⟨h2, h3, _⟩ := hq i hi
        refine CellsAt.mk (fun j f hj => ?_) h3
        have := h2 j f hj
        rw [addr_add, addr_add] at this
        exact this
    · have := each_wt atoms q D (List.range len) fun i hi => (hq i (List.mem_range.1 hi)).2.2
      simp only [Rows.uptoBulk]
      omega
theorem str_eta (s : ByteArray) : s = ⟨(s.data.toList).toArray⟩ := by
  cases s; simp
theorem Tryz.cellsOf3 : Tryz.prog.cellsOf 3 = 1 := by kernel_rfl
theorem Tryz.cellsOfB : Tryz.prog.cellsOf 4 = 1 := by kernel_rfl
theorem Tryz.cellsOfD : Tryz.prog.cellsOf 33 = 1 := by kernel_rfl
theorem Tryz.cellsOfS : Tryz.prog.cellsOf 9 = 1 := by kernel_rfl
instance : Inhabited Vote := ⟨⟨0, 0, 0, false, 0, 0⟩⟩
instance : Inhabited Guilt := ⟨⟨default, default⟩⟩
instance : Inhabited Cert := ⟨⟨0, 0, 0, false, 0, ⟨none, 0, []⟩⟩⟩
instance : Inhabited Header := ⟨⟨0, 0, 0, 0, 0, 0, 0, 0, 0⟩⟩
instance : Inhabited Turn := ⟨⟨0, 0⟩⟩
instance : Inhabited Proof := ⟨⟨⟨none, 0, []⟩, false, [], []⟩⟩
instance : Inhabited Sight := ⟨⟨default, default, ⟨none, 0, []⟩⟩⟩
instance : Inhabited Tx := ⟨⟨0, 0, 0, 0, 0, 0, 0, [], ⟨none, 0, []⟩, ⟨none, 0, []⟩, ⟨none, 0, []⟩⟩⟩
instance : Inhabited Block := ⟨⟨default, ⟨none, 0, []⟩, ⟨none, 0, []⟩⟩⟩
instance : Inhabited Motion := ⟨⟨0, 0, default, ⟨none, 0, []⟩⟩⟩
instance : Inhabited Known := ⟨⟨default, default⟩⟩
theorem open_int {H : Type} (enc : TypeId × Value → H) (W : World) (sp : Nat → Bool) : Opened enc W sp intF intA 3 := by
  intro fuel cs x h
  obtain ⟨n, rfl, rfl, z⟩ := DataW.trod_int Tryz.underlying3 h
  exact ⟨n, rfl, goods_cons (i64_wf z) (goods_nil _ _), by simp [intA, wtL, Atom.wt, Rows.uptoBulk]⟩
theorem Tryz.cellsOfLInt : Tryz.prog.cellsOf 44 = 1 := by kernel_rfl
theorem Tryz.cellsOfLPair : Tryz.prog.cellsOf 110 = 1 := by kernel_rfl
theorem Tryz.cellsOfLTurn : Tryz.prog.cellsOf 113 = 1 := by kernel_rfl
theorem Tryz.cellsOfLSight : Tryz.prog.cellsOf 65 = 1 := by kernel_rfl
theorem Tryz.cellsOfLProof : Tryz.prog.cellsOf 66 = 1 := by kernel_rfl
theorem Tryz.cellsOfPair : Tryz.prog.cellsOf 208 = 2 := by kernel_rfl
theorem Tryz.cellsOfHeader : Tryz.prog.cellsOf 37 = 9 := by kernel_rfl
theorem Tryz.cellsOfCert : Tryz.prog.cellsOf 46 = 6 := by kernel_rfl
theorem Tryz.cellsOfTurn : Tryz.prog.cellsOf 188 = 2 := by kernel_rfl
theorem Tryz.cellsOfProof : Tryz.prog.cellsOf 115 = 4 := by kernel_rfl
theorem Tryz.cellsOfSight : Tryz.prog.cellsOf 112 = 16 := by kernel_rfl
theorem Tryz.cellsOfTx : Tryz.prog.cellsOf 68 = 11 := by kernel_rfl
theorem open_Pair {H : Type} (enc : TypeId × Value → H) (W : World) (sp : Nat → Bool) : Opened enc W sp pairF pairA 208 := by
  intro fuel cs x h
  obtain ⟨ys, m, _, rfl, hn, hlen, hfs⟩ := DataW.trod_struct Tryz.underlying208 h
  rw [Tryz.cellsOfPair] at hn
  obtain ⟨x0, r0, rfl, hn0⟩ := listN hn
  obtain ⟨x1, r1, rfl, hn1⟩ := listN hn0
  obtain rfl := list0 hn1
  have hlen : ys.length = 2 := by simpa using hlen
  obtain ⟨y0, s0, rfl, hk0⟩ := listN hlen
  obtain ⟨y1, s1, rfl, hk1⟩ := listN hk0
  obtain rfl := list0 hk1
  have g0 := hfs 0 _ rfl
  simp [Tryz.cellsOf3] at g0
  obtain ⟨n0, e0, hy0, z0⟩ := DataW.trod_int Tryz.underlying3 g0
  have g1 := hfs 1 _ rfl
  simp [Tryz.cellsOf3] at g1
  obtain ⟨n1, e1, hy1, z1⟩ := DataW.trod_int Tryz.underlying3 g1
  simp only [List.cons.injEq, and_true] at e0
  subst e0
  simp only [List.cons.injEq, and_true] at e1
  subst e1
  subst hy0
  subst hy1
  refine ⟨(n0, n1), ?_, ?_, ?_⟩
  · simp [Vote.flds, Guilt.flds, Cert.flds, Header.flds, Turn.flds, Proof.flds, Sight.flds, Tx.flds, Block.flds, Motion.flds, Known.flds, Message.flds, Record.flds, Fld.val, Lst.fld, pairF]
  · exact goods_cons (i64_wf z0) (goods_cons (i64_wf z1) (goods_nil _ _))
  · have p0 := True.intro
    simp only [ wtL_append, nums, digs, intA, pairA, flagL, digL, textL, listL, benchL, List.map, wtL, Atom.wt, flagB, be_len, List.length_cons, List.length_nil, Rows.uptoBulkAll, Rows.uptoBulk] at *
    omega
theorem open_Header {H : Type} (enc : TypeId × Value → H) (W : World) (sp : Nat → Bool) : Opened enc W sp Header.flds Header.atoms 37 := by
  intro fuel cs x h
  obtain ⟨ys, m, _, rfl, hn, hlen, hfs⟩ := DataW.trod_struct Tryz.underlying37 h
  rw [Tryz.cellsOfHeader] at hn
  obtain ⟨x0, r0, rfl, hn0⟩ := listN hn
  obtain ⟨x1, r1, rfl, hn1⟩ := listN hn0
  obtain ⟨x2, r2, rfl, hn2⟩ := listN hn1
  obtain ⟨x3, r3, rfl, hn3⟩ := listN hn2
  obtain ⟨x4, r4, rfl, hn4⟩ := listN hn3
  obtain ⟨x5, r5, rfl, hn5⟩ := listN hn4
  obtain ⟨x6, r6, rfl, hn6⟩ := listN hn5
  obtain ⟨x7, r7, rfl, hn7⟩ := listN hn6
  obtain ⟨x8, r8, rfl, hn8⟩ := listN hn7
  obtain rfl := list0 hn8
  have hlen : ys.length = 9 := by simpa using hlen
  obtain ⟨y0, s0, rfl, hk0⟩ := listN hlen
  obtain ⟨y1, s1, rfl, hk1⟩ := listN hk0
  obtain ⟨y2, s2, rfl, hk2⟩ := listN hk1
  obtain ⟨y3, s3, rfl, hk3⟩ := listN hk2
  obtain ⟨y4, s4, rfl, hk4⟩ := listN hk3
  obtain ⟨y5, s5, rfl, hk5⟩ := listN hk4
  obtain ⟨y6, s6, rfl, hk6⟩ := listN hk5
  obtain ⟨y7, s7, rfl, hk7⟩ := listN hk6
  obtain ⟨y8, s8, rfl, hk8⟩ := listN hk7
  obtain rfl := list0 hk8
  have g0 := hfs 0 _ rfl
  simp [Tryz.cellsOf3] at g0
  obtain ⟨n0, e0, hy0, z0⟩ := DataW.trod_int Tryz.underlying3 g0
  have g1 := hfs 1 _ rfl
  simp [Tryz.cellsOf3] at g1
  obtain ⟨n1, e1, hy1, z1⟩ := DataW.trod_int Tryz.underlying3 g1
  have g2 := hfs 2 _ rfl
  simp [Tryz.cellsOfD] at g2
  obtain ⟨n2, e2, hy2, z2⟩ := DataW.trod_int Tryz.underlying33 g2
  have g3 := hfs 3 _ rfl
  simp [Tryz.cellsOfD] at g3
  obtain ⟨n3, e3, hy3, z3⟩ := DataW.trod_int Tryz.underlying33 g3
  have g4 := hfs 4 _ rfl
  simp [Tryz.cellsOfD] at g4
  obtain ⟨n4, e4, hy4, z4⟩ := DataW.trod_int Tryz.underlying33 g4
  have g5 := hfs 5 _ rfl
  simp [Tryz.cellsOfD] at g5
  obtain ⟨n5, e5, hy5, z5⟩ := DataW.trod_int Tryz.underlying33 g5
  have g6 := hfs 6 _ rfl
  simp [Tryz.cellsOfD] at g6
  obtain ⟨n6, e6, hy6, z6⟩ := DataW.trod_int Tryz.underlying33 g6
  have g7 := hfs 7 _ rfl
  simp [Tryz.cellsOfD] at g7
  obtain ⟨n7, e7, hy7, z7⟩ := DataW.trod_int Tryz.underlying33 g7
  have g8 := hfs 8 _ rfl
  simp [Tryz.cellsOf3] at g8
  obtain ⟨n8, e8, hy8, z8⟩ := DataW.trod_int Tryz.underlying3 g8
  simp only [List.cons.injEq, and_true] at e0
  subst e0
  simp only [List.cons.injEq, and_true] at e1
  subst e1
  simp only [List.cons.injEq, and_true] at e2
  subst e2
  simp only [List.cons.injEq, and_true] at e3
  subst e3
  simp only [List.cons.injEq, and_true] at e4
  subst e4
  simp only [List.cons.injEq, and_true] at e5
  subst e5
  simp only [List.cons.injEq, and_true] at e6
  subst e6
  simp only [List.cons.injEq, and_true] at e7
  subst e7
  simp only [List.cons.injEq, and_true] at e8
  subst e8
  subst hy0
  subst hy1
  subst hy2
  subst hy3
  subst hy4
  subst hy5
  subst hy6
  subst hy7
  subst hy8
  refine ⟨⟨n0, n1, n2, n3, n4, n5, n6, n7, n8⟩, ?_, ?_, ?_⟩
  · simp [Vote.flds, Guilt.flds, Cert.flds, Header.flds, Turn.flds, Proof.flds, Sight.flds, Tx.flds, Block.flds, Motion.flds, Known.flds, Message.flds, Record.flds, Fld.val, Lst.fld, pairF]
  · exact goods_cons (i64_wf z0) (goods_cons (i64_wf z1) (goods_cons (u64_wf z2) (goods_cons (u64_wf z3) (goods_cons (u64_wf z4) (goods_cons (u64_wf z5) (goods_cons (u64_wf z6) (goods_cons (u64_wf z7) (goods_cons (i64_wf z8) (goods_nil _ _)))))))))
  · have p0 := True.intro
    simp only [Header.atoms, wtL_append, nums, digs, intA, pairA, flagL, digL, textL, listL, benchL, List.map, wtL, Atom.wt, flagB, be_len, List.length_cons, List.length_nil, Rows.uptoBulkAll, Rows.uptoBulk] at *
    omega
theorem open_Cert {H : Type} (enc : TypeId × Value → H) (W : World) (sp : Nat → Bool) : Opened enc W sp Cert.flds Cert.atoms 46 := by
  intro fuel cs x h
  obtain ⟨ys, m, _, rfl, hn, hlen, hfs⟩ := DataW.trod_struct Tryz.underlying46 h
  rw [Tryz.cellsOfCert] at hn
  obtain ⟨x0, r0, rfl, hn0⟩ := listN hn
  obtain ⟨x1, r1, rfl, hn1⟩ := listN hn0
  obtain ⟨x2, r2, rfl, hn2⟩ := listN hn1
  obtain ⟨x3, r3, rfl, hn3⟩ := listN hn2
  obtain ⟨x4, r4, rfl, hn4⟩ := listN hn3
  obtain ⟨x5, r5, rfl, hn5⟩ := listN hn4
  obtain rfl := list0 hn5
  have hlen : ys.length = 6 := by simpa using hlen
  obtain ⟨y0, s0, rfl, hk0⟩ := listN hlen
  obtain ⟨y1, s1, rfl, hk1⟩ := listN hk0
  obtain ⟨y2, s2, rfl, hk2⟩ := listN hk1
  obtain ⟨y3, s3, rfl, hk3⟩ := listN hk2
  obtain ⟨y4, s4, rfl, hk4⟩ := listN hk3
  obtain ⟨y5, s5, rfl, hk5⟩ := listN hk4
  obtain rfl := list0 hk5
  have g0 := hfs 0 _ rfl
  simp [Tryz.cellsOf3] at g0
  obtain ⟨n0, e0, hy0, z0⟩ := DataW.trod_int Tryz.underlying3 g0
  have g1 := hfs 1 _ rfl
  simp [Tryz.cellsOf3] at g1
  obtain ⟨n1, e1, hy1, z1⟩ := DataW.trod_int Tryz.underlying3 g1
  have g2 := hfs 2 _ rfl
  simp [Tryz.cellsOf3] at g2
  obtain ⟨n2, e2, hy2, z2⟩ := DataW.trod_int Tryz.underlying3 g2
  have g3 := hfs 3 _ rfl
  simp [Tryz.cellsOfB] at g3
  obtain ⟨n3, e3, hy3⟩ := DataW.trod_bool Tryz.underlying4 g3
  have g4 := hfs 4 _ rfl
  simp [Tryz.cellsOfD] at g4
  obtain ⟨n4, e4, hy4, z4⟩ := DataW.trod_int Tryz.underlying33 g4
  have g5 := hfs 5 _ rfl
  simp [Tryz.cellsOfLInt] at g5
  obtain ⟨n5, e5, k5, b5⟩ := open_lst (atoms := intA) intF_len (by omega) Tryz.underlying44 Tryz.cellsOf3 (open_int enc W sp) _ _ _ g5
  simp only [List.cons.injEq, and_true] at e0
  subst e0
  simp only [List.cons.injEq, and_true] at e1
  subst e1
  simp only [List.cons.injEq, and_true] at e2
  subst e2
  simp only [List.cons.injEq, and_true] at e3
  subst e3
  simp only [List.cons.injEq, and_true] at e4
  subst e4
  simp only [List.cons.injEq, and_true] at e5
  subst e5
  subst hy0
  subst hy1
  subst hy2
  subst hy3
  subst hy4
  refine ⟨⟨n0, n1, n2, n3, n4, n5⟩, ?_, ?_, ?_⟩
  · simp [Vote.flds, Guilt.flds, Cert.flds, Header.flds, Turn.flds, Proof.flds, Sight.flds, Tx.flds, Block.flds, Motion.flds, Known.flds, Message.flds, Record.flds, Fld.val, Lst.fld, pairF]
  · exact goods_cons (i64_wf z0) (goods_cons (i64_wf z1) (goods_cons (i64_wf z2) (goods_cons (trivial) (goods_cons (u64_wf z4) (goods_cons (k5) (goods_nil _ _))))))
  · have p5 := bulk_pos y5.1
    simp only [Cert.atoms, wtL_append, nums, digs, intA, pairA, flagL, digL, textL, listL, benchL, List.map, wtL, Atom.wt, flagB, be_len, List.length_cons, List.length_nil, Rows.uptoBulkAll, Rows.uptoBulk] at *
    omega
theorem open_Turn {H : Type} (enc : TypeId × Value → H) (W : World) (sp : Nat → Bool) : Opened enc W sp Turn.flds Turn.atoms 188 := by
  intro fuel cs x h
  obtain ⟨ys, m, _, rfl, hn, hlen, hfs⟩ := DataW.trod_struct Tryz.underlying188 h
  rw [Tryz.cellsOfTurn] at hn
  obtain ⟨x0, r0, rfl, hn0⟩ := listN hn
  obtain ⟨x1, r1, rfl, hn1⟩ := listN hn0
  obtain rfl := list0 hn1
  have hlen : ys.length = 2 := by simpa using hlen
  obtain ⟨y0, s0, rfl, hk0⟩ := listN hlen
  obtain ⟨y1, s1, rfl, hk1⟩ := listN hk0
  obtain rfl := list0 hk1
  have g0 := hfs 0 _ rfl
  simp [Tryz.cellsOf3] at g0
  obtain ⟨n0, e0, hy0, z0⟩ := DataW.trod_int Tryz.underlying3 g0
  have g1 := hfs 1 _ rfl
  simp [Tryz.cellsOfD] at g1
  obtain ⟨n1, e1, hy1, z1⟩ := DataW.trod_int Tryz.underlying33 g1
  simp only [List.cons.injEq, and_true] at e0
  subst e0
  simp only [List.cons.injEq, and_true] at e1
  subst e1
  subst hy0
  subst hy1
  refine ⟨⟨n0, n1⟩, ?_, ?_, ?_⟩
  · simp [Vote.flds, Guilt.flds, Cert.flds, Header.flds, Turn.flds, Proof.flds, Sight.flds, Tx.flds, Block.flds, Motion.flds, Known.flds, Message.flds, Record.flds, Fld.val, Lst.fld, pairF]
  · exact goods_cons (i64_wf z0) (goods_cons (u64_wf z1) (goods_nil _ _))
  · have p0 := True.intro
    simp only [Turn.atoms, wtL_append, nums, digs, intA, pairA, flagL, digL, textL, listL, benchL, List.map, wtL, Atom.wt, flagB, be_len, List.length_cons, List.length_nil, Rows.uptoBulkAll, Rows.uptoBulk] at *
    omega
theorem open_Proof {H : Type} (enc : TypeId × Value → H) (W : World) (sp : Nat → Bool) : Opened enc W sp Proof.flds Proof.atoms 115 := by
  intro fuel cs x h
  obtain ⟨ys, m, _, rfl, hn, hlen, hfs⟩ := DataW.trod_struct Tryz.underlying115 h
  rw [Tryz.cellsOfProof] at hn
  obtain ⟨x0, r0, rfl, hn0⟩ := listN hn
  obtain ⟨x1, r1, rfl, hn1⟩ := listN hn0
  obtain ⟨x2, r2, rfl, hn2⟩ := listN hn1
  obtain ⟨x3, r3, rfl, hn3⟩ := listN hn2
  obtain rfl := list0 hn3
  have hlen : ys.length = 4 := by simpa using hlen
  obtain ⟨y0, s0, rfl, hk0⟩ := listN hlen
  obtain ⟨y1, s1, rfl, hk1⟩ := listN hk0
  obtain ⟨y2, s2, rfl, hk2⟩ := listN hk1
  obtain ⟨y3, s3, rfl, hk3⟩ := listN hk2
  obtain rfl := list0 hk3
  have g0 := hfs 0 _ rfl
  simp [Tryz.cellsOfLTurn] at g0
  obtain ⟨n0, e0, k0, b0⟩ := open_lst (atoms := Turn.atoms) Turn.len (by omega) Tryz.underlying113 Tryz.cellsOfTurn (open_Turn enc W sp) _ _ _ g0
  have g1 := hfs 1 _ rfl
  simp [Tryz.cellsOfB] at g1
  obtain ⟨n1, e1, hy1⟩ := DataW.trod_bool Tryz.underlying4 g1
  have g2 := hfs 2 _ rfl
  simp [Tryz.cellsOfS] at g2
  obtain ⟨n2, e2, hy2, z2⟩ := DataW.trod_string Tryz.underlying9 g2
  have g3 := hfs 3 _ rfl
  simp [Tryz.cellsOfS] at g3
  obtain ⟨n3, e3, hy3, z3⟩ := DataW.trod_string Tryz.underlying9 g3
  simp only [List.cons.injEq, and_true] at e0
  subst e0
  simp only [List.cons.injEq, and_true] at e1
  subst e1
  simp only [List.cons.injEq, and_true] at e2
  subst e2
  simp only [List.cons.injEq, and_true] at e3
  subst e3
  subst hy1
  subst hy2
  subst hy3
  refine ⟨⟨n0, n1, n2.data.toList, n3.data.toList⟩, ?_, ?_, ?_⟩
  · simp [Vote.flds, Guilt.flds, Cert.flds, Header.flds, Turn.flds, Proof.flds, Sight.flds, Tx.flds, Block.flds, Motion.flds, Known.flds, Message.flds, Record.flds, Fld.val, Lst.fld, pairF, ← str_eta]
  · exact goods_cons (k0) (goods_cons (trivial) (goods_cons (trivial) (goods_cons (trivial) (goods_nil _ _))))
  · have p0 := bulk_pos y0.1
    simp only [Proof.atoms, wtL_append, nums, digs, intA, pairA, flagL, digL, textL, listL, benchL, List.map, wtL, Atom.wt, flagB, be_len, List.length_cons, List.length_nil, Rows.uptoBulkAll, Rows.uptoBulk] at *
    omega
theorem open_Sight {H : Type} (enc : TypeId × Value → H) (W : World) (sp : Nat → Bool) : Opened enc W sp Sight.flds Sight.atoms 112 := by
  intro fuel cs x h
  obtain ⟨ys, m, _, rfl, hn, hlen, hfs⟩ := DataW.trod_struct Tryz.underlying112 h
  rw [Tryz.cellsOfSight] at hn
  obtain ⟨x0, r0, rfl, hn0⟩ := listN hn
  obtain ⟨x1, r1, rfl, hn1⟩ := listN hn0
  obtain ⟨x2, r2, rfl, hn2⟩ := listN hn1
  obtain ⟨x3, r3, rfl, hn3⟩ := listN hn2
  obtain ⟨x4, r4, rfl, hn4⟩ := listN hn3
  obtain ⟨x5, r5, rfl, hn5⟩ := listN hn4
  obtain ⟨x6, r6, rfl, hn6⟩ := listN hn5
  obtain ⟨x7, r7, rfl, hn7⟩ := listN hn6
  obtain ⟨x8, r8, rfl, hn8⟩ := listN hn7
  obtain ⟨x9, r9, rfl, hn9⟩ := listN hn8
  obtain ⟨x10, r10, rfl, hn10⟩ := listN hn9
  obtain ⟨x11, r11, rfl, hn11⟩ := listN hn10
  obtain ⟨x12, r12, rfl, hn12⟩ := listN hn11
  obtain ⟨x13, r13, rfl, hn13⟩ := listN hn12
  obtain ⟨x14, r14, rfl, hn14⟩ := listN hn13
  obtain ⟨x15, r15, rfl, hn15⟩ := listN hn14
  obtain rfl := list0 hn15
  have hlen : ys.length = 3 := by simpa using hlen
  obtain ⟨y0, s0, rfl, hk0⟩ := listN hlen
  obtain ⟨y1, s1, rfl, hk1⟩ := listN hk0
  obtain ⟨y2, s2, rfl, hk2⟩ := listN hk1
  obtain rfl := list0 hk2
  have g0 := hfs 0 _ rfl
  simp [Tryz.cellsOfHeader] at g0
  obtain ⟨n0, e0, k0, b0⟩ := open_Header enc W sp _ _ _ g0
  have g1 := hfs 1 _ rfl
  simp [Tryz.cellsOfCert] at g1
  obtain ⟨n1, e1, k1, b1⟩ := open_Cert enc W sp _ _ _ g1
  have g2 := hfs 2 _ rfl
  simp [Tryz.cellsOfLPair] at g2
  obtain ⟨n2, e2, k2, b2⟩ := open_lst (atoms := pairA) pairF_len (by omega) Tryz.underlying110 Tryz.cellsOfPair (open_Pair enc W sp) _ _ _ g2
  simp only [Vote.flds, Guilt.flds, Cert.flds, Header.flds, Turn.flds, Proof.flds, Sight.flds, Tx.flds, Block.flds, Motion.flds, Known.flds, Message.flds, Record.flds, Fld.val, Lst.fld, List.map_cons, List.map_nil, List.map_append, List.cons_append, List.nil_append, List.length_map, List.cons.injEq, and_true] at e0
  obtain ⟨rfl, rfl, rfl, rfl, rfl, rfl, rfl, rfl, rfl⟩ := e0
  simp only [Vote.flds, Guilt.flds, Cert.flds, Header.flds, Turn.flds, Proof.flds, Sight.flds, Tx.flds, Block.flds, Motion.flds, Known.flds, Message.flds, Record.flds, Fld.val, Lst.fld, List.map_cons, List.map_nil, List.map_append, List.cons_append, List.nil_append, List.length_map, List.cons.injEq, and_true] at e1
  obtain ⟨rfl, rfl, rfl, rfl, rfl, rfl⟩ := e1
  simp only [List.cons.injEq, and_true] at e2
  subst e2
  refine ⟨⟨n0, n1, n2⟩, ?_, ?_, ?_⟩
  · simp [Vote.flds, Guilt.flds, Cert.flds, Header.flds, Turn.flds, Proof.flds, Sight.flds, Tx.flds, Block.flds, Motion.flds, Known.flds, Message.flds, Record.flds, Fld.val, Lst.fld, pairF]
  · exact goods.mk k0 (goods.mk k1 (goods_cons (k2) (goods_nil _ _)))
  · have p0 := bulk_pos y0.1
    have p1 := bulk_pos y1.1
    have p2 := bulk_pos y2.1
    simp only [Sight.atoms, wtL_append, nums, digs, intA, pairA, flagL, digL, textL, listL, benchL, List.map, wtL, Atom.wt, flagB, be_len, List.length_cons, List.length_nil, Rows.uptoBulkAll, Rows.uptoBulk] at *
    omega
theorem open_Tx {H : Type} (enc : TypeId × Value → H) (W : World) (sp : Nat → Bool) : Opened enc W sp Tx.flds Tx.atoms 68 := by
  intro fuel cs x h
  obtain ⟨ys, m, _, rfl, hn, hlen, hfs⟩ := DataW.trod_struct Tryz.underlying68 h
  rw [Tryz.cellsOfTx] at hn
  obtain ⟨x0, r0, rfl, hn0⟩ := listN hn
  obtain ⟨x1, r1, rfl, hn1⟩ := listN hn0
  obtain ⟨x2, r2, rfl, hn2⟩ := listN hn1
  obtain ⟨x3, r3, rfl, hn3⟩ := listN hn2
  obtain ⟨x4, r4, rfl, hn4⟩ := listN hn3
  obtain ⟨x5, r5, rfl, hn5⟩ := listN hn4
  obtain ⟨x6, r6, rfl, hn6⟩ := listN hn5
  obtain ⟨x7, r7, rfl, hn7⟩ := listN hn6
  obtain ⟨x8, r8, rfl, hn8⟩ := listN hn7
  obtain ⟨x9, r9, rfl, hn9⟩ := listN hn8
  obtain ⟨x10, r10, rfl, hn10⟩ := listN hn9
  obtain rfl := list0 hn10
  have hlen : ys.length = 11 := by simpa using hlen
  obtain ⟨y0, s0, rfl, hk0⟩ := listN hlen
  obtain ⟨y1, s1, rfl, hk1⟩ := listN hk0
  obtain ⟨y2, s2, rfl, hk2⟩ := listN hk1
  obtain ⟨y3, s3, rfl, hk3⟩ := listN hk2
  obtain ⟨y4, s4, rfl, hk4⟩ := listN hk3
  obtain ⟨y5, s5, rfl, hk5⟩ := listN hk4
  obtain ⟨y6, s6, rfl, hk6⟩ := listN hk5
  obtain ⟨y7, s7, rfl, hk7⟩ := listN hk6
  obtain ⟨y8, s8, rfl, hk8⟩ := listN hk7
  obtain ⟨y9, s9, rfl, hk9⟩ := listN hk8
  obtain ⟨y10, s10, rfl, hk10⟩ := listN hk9
  obtain rfl := list0 hk10
  have g0 := hfs 0 _ rfl
  simp [Tryz.cellsOf3] at g0
  obtain ⟨n0, e0, hy0, z0⟩ := DataW.trod_int Tryz.underlying3 g0
  have g1 := hfs 1 _ rfl
  simp [Tryz.cellsOf3] at g1
  obtain ⟨n1, e1, hy1, z1⟩ := DataW.trod_int Tryz.underlying3 g1
  have g2 := hfs 2 _ rfl
  simp [Tryz.cellsOf3] at g2
  obtain ⟨n2, e2, hy2, z2⟩ := DataW.trod_int Tryz.underlying3 g2
  have g3 := hfs 3 _ rfl
  simp [Tryz.cellsOf3] at g3
  obtain ⟨n3, e3, hy3, z3⟩ := DataW.trod_int Tryz.underlying3 g3
  have g4 := hfs 4 _ rfl
  simp [Tryz.cellsOf3] at g4
  obtain ⟨n4, e4, hy4, z4⟩ := DataW.trod_int Tryz.underlying3 g4
  have g5 := hfs 5 _ rfl
  simp [Tryz.cellsOf3] at g5
  obtain ⟨n5, e5, hy5, z5⟩ := DataW.trod_int Tryz.underlying3 g5
  have g6 := hfs 6 _ rfl
  simp [Tryz.cellsOf3] at g6
  obtain ⟨n6, e6, hy6, z6⟩ := DataW.trod_int Tryz.underlying3 g6
  have g7 := hfs 7 _ rfl
  simp [Tryz.cellsOfS] at g7
  obtain ⟨n7, e7, hy7, z7⟩ := DataW.trod_string Tryz.underlying9 g7
  have g8 := hfs 8 _ rfl
  simp [Tryz.cellsOfLInt] at g8
  obtain ⟨n8, e8, k8, b8⟩ := open_lst (atoms := intA) intF_len (by omega) Tryz.underlying44 Tryz.cellsOf3 (open_int enc W sp) _ _ _ g8
  have g9 := hfs 9 _ rfl
  simp [Tryz.cellsOfLSight] at g9
  obtain ⟨n9, e9, k9, b9⟩ := open_lst (atoms := Sight.atoms) Sight.len (by omega) Tryz.underlying65 Tryz.cellsOfSight (open_Sight enc W sp) _ _ _ g9
  have g10 := hfs 10 _ rfl
  simp [Tryz.cellsOfLProof] at g10
  obtain ⟨n10, e10, k10, b10⟩ := open_lst (atoms := Proof.atoms) Proof.len (by omega) Tryz.underlying66 Tryz.cellsOfProof (open_Proof enc W sp) _ _ _ g10
  simp only [List.cons.injEq, and_true] at e0
  subst e0
  simp only [List.cons.injEq, and_true] at e1
  subst e1
  simp only [List.cons.injEq, and_true] at e2
  subst e2
  simp only [List.cons.injEq, and_true] at e3
  subst e3
  simp only [List.cons.injEq, and_true] at e4
  subst e4
  simp only [List.cons.injEq, and_true] at e5
  subst e5
  simp only [List.cons.injEq, and_true] at e6
  subst e6
  simp only [List.cons.injEq, and_true] at e7
  subst e7
  simp only [List.cons.injEq, and_true] at e8
  subst e8
  simp only [List.cons.injEq, and_true] at e9
  subst e9
  simp only [List.cons.injEq, and_true] at e10
  subst e10
  subst hy0
  subst hy1
  subst hy2
  subst hy3
  subst hy4
  subst hy5
  subst hy6
  subst hy7
  refine ⟨⟨n0, n1, n2, n3, n4, n5, n6, n7.data.toList, n8, n9, n10⟩, ?_, ?_, ?_⟩
  · simp [Vote.flds, Guilt.flds, Cert.flds, Header.flds, Turn.flds, Proof.flds, Sight.flds, Tx.flds, Block.flds, Motion.flds, Known.flds, Message.flds, Record.flds, Fld.val, Lst.fld, pairF, ← str_eta]
  · exact goods_cons (i64_wf z0) (goods_cons (i64_wf z1) (goods_cons (i64_wf z2) (goods_cons (i64_wf z3) (goods_cons (i64_wf z4) (goods_cons (i64_wf z5) (goods_cons (i64_wf z6) (goods_cons (trivial) (goods_cons (k8) (goods_cons (k9) (goods_cons (k10) (goods_nil _ _)))))))))))
  · have p8 := bulk_pos y8.1
    have p9 := bulk_pos y9.1
    have p10 := bulk_pos y10.1
    simp only [Tx.atoms, wtL_append, nums, digs, intA, pairA, flagL, digL, textL, listL, benchL, List.map, wtL, Atom.wt, flagB, be_len, List.length_cons, List.length_nil, Rows.uptoBulkAll, Rows.uptoBulk] at *
    omega
end Go.Proofs.YtcnnjcbbeclglaaGreat

namespace Go.Proofs.YtcnnjcbbeclglaaGreat
open Go.ChangeShapes Go.WideShapes Go.ChangeAt Go.RowKit
set_option linter.unusedVariables false
set_option linter.unusedSimpArgs false

theorem Tryz.cellsOfLTx : Tryz.prog.cellsOf 25 = 1 := by kernel_rfl
theorem Tryz.cellsOfLGuilt : Tryz.prog.cellsOf 38 = 1 := by kernel_rfl
theorem Tryz.cellsOfVote : Tryz.prog.cellsOf 35 = 6 := by kernel_rfl
theorem Tryz.cellsOfGuilt : Tryz.prog.cellsOf 177 = 12 := by kernel_rfl
theorem Tryz.cellsOfBlock : Tryz.prog.cellsOf 40 = 11 := by kernel_rfl
theorem open_Vote {H : Type} (enc : TypeId × Value → H) (W : World) (sp : Nat → Bool) : Opened enc W sp Vote.flds Vote.atoms 35 := by
  intro fuel cs x h
  obtain ⟨ys, m, _, rfl, hn, hlen, hfs⟩ := DataW.trod_struct Tryz.underlying35 h
  rw [Tryz.cellsOfVote] at hn
  obtain ⟨x0, r0, rfl, hn0⟩ := listN hn
  obtain ⟨x1, r1, rfl, hn1⟩ := listN hn0
  obtain ⟨x2, r2, rfl, hn2⟩ := listN hn1
  obtain ⟨x3, r3, rfl, hn3⟩ := listN hn2
  obtain ⟨x4, r4, rfl, hn4⟩ := listN hn3
  obtain ⟨x5, r5, rfl, hn5⟩ := listN hn4
  obtain rfl := list0 hn5
  have hlen : ys.length = 6 := by simpa using hlen
  obtain ⟨y0, s0, rfl, hk0⟩ := listN hlen
  obtain ⟨y1, s1, rfl, hk1⟩ := listN hk0
  obtain ⟨y2, s2, rfl, hk2⟩ := listN hk1
  obtain ⟨y3, s3, rfl, hk3⟩ := listN hk2
  obtain ⟨y4, s4, rfl, hk4⟩ := listN hk3
  obtain ⟨y5, s5, rfl, hk5⟩ := listN hk4
  obtain rfl := list0 hk5
  have g0 := hfs 0 _ rfl
  simp [Tryz.cellsOf3] at g0
  obtain ⟨n0, e0, hy0, z0⟩ := DataW.trod_int Tryz.underlying3 g0
  have g1 := hfs 1 _ rfl
  simp [Tryz.cellsOf3] at g1
  obtain ⟨n1, e1, hy1, z1⟩ := DataW.trod_int Tryz.underlying3 g1
  have g2 := hfs 2 _ rfl
  simp [Tryz.cellsOf3] at g2
  obtain ⟨n2, e2, hy2, z2⟩ := DataW.trod_int Tryz.underlying3 g2
  have g3 := hfs 3 _ rfl
  simp [Tryz.cellsOfB] at g3
  obtain ⟨n3, e3, hy3⟩ := DataW.trod_bool Tryz.underlying4 g3
  have g4 := hfs 4 _ rfl
  simp [Tryz.cellsOfD] at g4
  obtain ⟨n4, e4, hy4, z4⟩ := DataW.trod_int Tryz.underlying33 g4
  have g5 := hfs 5 _ rfl
  simp [Tryz.cellsOf3] at g5
  obtain ⟨n5, e5, hy5, z5⟩ := DataW.trod_int Tryz.underlying3 g5
  simp only [List.cons.injEq, and_true] at e0
  subst e0
  simp only [List.cons.injEq, and_true] at e1
  subst e1
  simp only [List.cons.injEq, and_true] at e2
  subst e2
  simp only [List.cons.injEq, and_true] at e3
  subst e3
  simp only [List.cons.injEq, and_true] at e4
  subst e4
  simp only [List.cons.injEq, and_true] at e5
  subst e5
  subst hy0
  subst hy1
  subst hy2
  subst hy3
  subst hy4
  subst hy5
  refine ⟨⟨n0, n1, n2, n3, n4, n5⟩, ?_, ?_, ?_⟩
  · simp [Vote.flds, Guilt.flds, Cert.flds, Header.flds, Turn.flds, Proof.flds, Sight.flds, Tx.flds, Block.flds, Motion.flds, Known.flds, Message.flds, Record.flds, Fld.val, Lst.fld, pairF]
  · exact goods_cons (i64_wf z0) (goods_cons (i64_wf z1) (goods_cons (i64_wf z2) (goods_cons (trivial) (goods_cons (u64_wf z4) (goods_cons (i64_wf z5) (goods_nil _ _))))))
  · have p0 := True.intro
    simp only [Vote.atoms, wtL_append, nums, digs, intA, pairA, flagL, digL, textL, listL, benchL, List.map, wtL, Atom.wt, flagB, be_len, List.length_cons, List.length_nil, Rows.uptoBulkAll, Rows.uptoBulk] at *
    omega
theorem open_Guilt {H : Type} (enc : TypeId × Value → H) (W : World) (sp : Nat → Bool) : Opened enc W sp Guilt.flds Guilt.atoms 177 := by
  intro fuel cs x h
  obtain ⟨ys, m, _, rfl, hn, hlen, hfs⟩ := DataW.trod_struct Tryz.underlying177 h
  rw [Tryz.cellsOfGuilt] at hn
  obtain ⟨x0, r0, rfl, hn0⟩ := listN hn
  obtain ⟨x1, r1, rfl, hn1⟩ := listN hn0
  obtain ⟨x2, r2, rfl, hn2⟩ := listN hn1
  obtain ⟨x3, r3, rfl, hn3⟩ := listN hn2
  obtain ⟨x4, r4, rfl, hn4⟩ := listN hn3
  obtain ⟨x5, r5, rfl, hn5⟩ := listN hn4
  obtain ⟨x6, r6, rfl, hn6⟩ := listN hn5
  obtain ⟨x7, r7, rfl, hn7⟩ := listN hn6
  obtain ⟨x8, r8, rfl, hn8⟩ := listN hn7
  obtain ⟨x9, r9, rfl, hn9⟩ := listN hn8
  obtain ⟨x10, r10, rfl, hn10⟩ := listN hn9
  obtain ⟨x11, r11, rfl, hn11⟩ := listN hn10
  obtain rfl := list0 hn11
  have hlen : ys.length = 2 := by simpa using hlen
  obtain ⟨y0, s0, rfl, hk0⟩ := listN hlen
  obtain ⟨y1, s1, rfl, hk1⟩ := listN hk0
  obtain rfl := list0 hk1
  have g0 := hfs 0 _ rfl
  simp [Tryz.cellsOfVote] at g0
  obtain ⟨n0, e0, k0, b0⟩ := open_Vote enc W sp _ _ _ g0
  have g1 := hfs 1 _ rfl
  simp [Tryz.cellsOfVote] at g1
  obtain ⟨n1, e1, k1, b1⟩ := open_Vote enc W sp _ _ _ g1
  simp only [Vote.flds, Guilt.flds, Cert.flds, Header.flds, Turn.flds, Proof.flds, Sight.flds, Tx.flds, Block.flds, Motion.flds, Known.flds, Message.flds, Record.flds, Fld.val, Lst.fld, List.map_cons, List.map_nil, List.map_append, List.cons_append, List.nil_append, List.length_map, List.cons.injEq, and_true] at e0
  obtain ⟨rfl, rfl, rfl, rfl, rfl, rfl⟩ := e0
  simp only [Vote.flds, Guilt.flds, Cert.flds, Header.flds, Turn.flds, Proof.flds, Sight.flds, Tx.flds, Block.flds, Motion.flds, Known.flds, Message.flds, Record.flds, Fld.val, Lst.fld, List.map_cons, List.map_nil, List.map_append, List.cons_append, List.nil_append, List.length_map, List.cons.injEq, and_true] at e1
  obtain ⟨rfl, rfl, rfl, rfl, rfl, rfl⟩ := e1
  refine ⟨⟨n0, n1⟩, ?_, ?_, ?_⟩
  · simp [Vote.flds, Guilt.flds, Cert.flds, Header.flds, Turn.flds, Proof.flds, Sight.flds, Tx.flds, Block.flds, Motion.flds, Known.flds, Message.flds, Record.flds, Fld.val, Lst.fld, pairF]
  · exact goods.mk k0 (k1)
  · have p0 := bulk_pos y0.1
    have p1 := bulk_pos y1.1
    simp only [Guilt.atoms, wtL_append, nums, digs, intA, pairA, flagL, digL, textL, listL, benchL, List.map, wtL, Atom.wt, flagB, be_len, List.length_cons, List.length_nil, Rows.uptoBulkAll, Rows.uptoBulk] at *
    omega
theorem open_Block {H : Type} (enc : TypeId × Value → H) (W : World) (sp : Nat → Bool) : Opened enc W sp Block.flds Block.atoms 40 := by
  intro fuel cs x h
  obtain ⟨ys, m, _, rfl, hn, hlen, hfs⟩ := DataW.trod_struct Tryz.underlying40 h
  rw [Tryz.cellsOfBlock] at hn
  obtain ⟨x0, r0, rfl, hn0⟩ := listN hn
  obtain ⟨x1, r1, rfl, hn1⟩ := listN hn0
  obtain ⟨x2, r2, rfl, hn2⟩ := listN hn1
  obtain ⟨x3, r3, rfl, hn3⟩ := listN hn2
  obtain ⟨x4, r4, rfl, hn4⟩ := listN hn3
  obtain ⟨x5, r5, rfl, hn5⟩ := listN hn4
  obtain ⟨x6, r6, rfl, hn6⟩ := listN hn5
  obtain ⟨x7, r7, rfl, hn7⟩ := listN hn6
  obtain ⟨x8, r8, rfl, hn8⟩ := listN hn7
  obtain ⟨x9, r9, rfl, hn9⟩ := listN hn8
  obtain ⟨x10, r10, rfl, hn10⟩ := listN hn9
  obtain rfl := list0 hn10
  have hlen : ys.length = 3 := by simpa using hlen
  obtain ⟨y0, s0, rfl, hk0⟩ := listN hlen
  obtain ⟨y1, s1, rfl, hk1⟩ := listN hk0
  obtain ⟨y2, s2, rfl, hk2⟩ := listN hk1
  obtain rfl := list0 hk2
  have g0 := hfs 0 _ rfl
  simp [Tryz.cellsOfHeader] at g0
  obtain ⟨n0, e0, k0, b0⟩ := open_Header enc W sp _ _ _ g0
  have g1 := hfs 1 _ rfl
  simp [Tryz.cellsOfLTx] at g1
  obtain ⟨n1, e1, k1, b1⟩ := open_lst (atoms := Tx.atoms) Tx.len (by omega) Tryz.underlying25 Tryz.cellsOfTx (open_Tx enc W sp) _ _ _ g1
  have g2 := hfs 2 _ rfl
  simp [Tryz.cellsOfLGuilt] at g2
  obtain ⟨n2, e2, k2, b2⟩ := open_lst (atoms := Guilt.atoms) Guilt.len (by omega) Tryz.underlying38 Tryz.cellsOfGuilt (open_Guilt enc W sp) _ _ _ g2
  simp only [Vote.flds, Guilt.flds, Cert.flds, Header.flds, Turn.flds, Proof.flds, Sight.flds, Tx.flds, Block.flds, Motion.flds, Known.flds, Message.flds, Record.flds, Fld.val, Lst.fld, List.map_cons, List.map_nil, List.map_append, List.cons_append, List.nil_append, List.length_map, List.cons.injEq, and_true] at e0
  obtain ⟨rfl, rfl, rfl, rfl, rfl, rfl, rfl, rfl, rfl⟩ := e0
  simp only [List.cons.injEq, and_true] at e1
  subst e1
  simp only [List.cons.injEq, and_true] at e2
  subst e2
  refine ⟨⟨n0, n1, n2⟩, ?_, ?_, ?_⟩
  · simp [Vote.flds, Guilt.flds, Cert.flds, Header.flds, Turn.flds, Proof.flds, Sight.flds, Tx.flds, Block.flds, Motion.flds, Known.flds, Message.flds, Record.flds, Fld.val, Lst.fld, pairF]
  · exact goods.mk k0 (goods_cons (k1) (goods_cons (k2) (goods_nil _ _)))
  · have p0 := bulk_pos y0.1
    have p1 := bulk_pos y1.1
    have p2 := bulk_pos y2.1
    simp only [Block.atoms, wtL_append, nums, digs, intA, pairA, flagL, digL, textL, listL, benchL, List.map, wtL, Atom.wt, flagB, be_len, List.length_cons, List.length_nil, Rows.uptoBulkAll, Rows.uptoBulk] at *
    omega
end Go.Proofs.YtcnnjcbbeclglaaGreat

namespace Go.Proofs.YtcnnjcbbeclglaaGreat
open Go.ChangeShapes Go.WideShapes Go.ChangeAt Go.RowKit
set_option linter.unusedVariables false
set_option linter.unusedSimpArgs false

theorem Tryz.cellsOfLVote : Tryz.prog.cellsOf 22 = 1 := by kernel_rfl
theorem Tryz.cellsOfLMotion : Tryz.prog.cellsOf 23 = 1 := by kernel_rfl
theorem Tryz.cellsOfLKnown : Tryz.prog.cellsOf 24 = 1 := by kernel_rfl
theorem Tryz.cellsOfLCert : Tryz.prog.cellsOf 41 = 1 := by kernel_rfl
theorem Tryz.cellsOfMotion : Tryz.prog.cellsOf 43 = 14 := by kernel_rfl
theorem Tryz.cellsOfKnown : Tryz.prog.cellsOf 48 = 17 := by kernel_rfl
theorem Tryz.cellsOfMessage : Tryz.prog.cellsOf 27 = 7 := by kernel_rfl
theorem open_Motion {H : Type} (enc : TypeId × Value → H) (W : World) (sp : Nat → Bool) : Opened enc W sp Motion.flds Motion.atoms 43 := by
  intro fuel cs x h
  obtain ⟨ys, m, _, rfl, hn, hlen, hfs⟩ := DataW.trod_struct Tryz.underlying43 h
  rw [Tryz.cellsOfMotion] at hn
  obtain ⟨x0, r0, rfl, hn0⟩ := listN hn
  obtain ⟨x1, r1, rfl, hn1⟩ := listN hn0
  obtain ⟨x2, r2, rfl, hn2⟩ := listN hn1
  obtain ⟨x3, r3, rfl, hn3⟩ := listN hn2
  obtain ⟨x4, r4, rfl, hn4⟩ := listN hn3
  obtain ⟨x5, r5, rfl, hn5⟩ := listN hn4
  obtain ⟨x6, r6, rfl, hn6⟩ := listN hn5
  obtain ⟨x7, r7, rfl, hn7⟩ := listN hn6
  obtain ⟨x8, r8, rfl, hn8⟩ := listN hn7
  obtain ⟨x9, r9, rfl, hn9⟩ := listN hn8
  obtain ⟨x10, r10, rfl, hn10⟩ := listN hn9
  obtain ⟨x11, r11, rfl, hn11⟩ := listN hn10
  obtain ⟨x12, r12, rfl, hn12⟩ := listN hn11
  obtain ⟨x13, r13, rfl, hn13⟩ := listN hn12
  obtain rfl := list0 hn13
  have hlen : ys.length = 4 := by simpa using hlen
  obtain ⟨y0, s0, rfl, hk0⟩ := listN hlen
  obtain ⟨y1, s1, rfl, hk1⟩ := listN hk0
  obtain ⟨y2, s2, rfl, hk2⟩ := listN hk1
  obtain ⟨y3, s3, rfl, hk3⟩ := listN hk2
  obtain rfl := list0 hk3
  have g0 := hfs 0 _ rfl
  simp [Tryz.cellsOf3] at g0
  obtain ⟨n0, e0, hy0, z0⟩ := DataW.trod_int Tryz.underlying3 g0
  have g1 := hfs 1 _ rfl
  simp [Tryz.cellsOf3] at g1
  obtain ⟨n1, e1, hy1, z1⟩ := DataW.trod_int Tryz.underlying3 g1
  have g2 := hfs 2 _ rfl
  simp [Tryz.cellsOfBlock] at g2
  obtain ⟨n2, e2, k2, b2⟩ := open_Block enc W sp _ _ _ g2
  have g3 := hfs 3 _ rfl
  simp [Tryz.cellsOfLCert] at g3
  obtain ⟨n3, e3, k3, b3⟩ := open_lst (atoms := Cert.atoms) Cert.len (by omega) Tryz.underlying41 Tryz.cellsOfCert (open_Cert enc W sp) _ _ _ g3
  simp only [List.cons.injEq, and_true] at e0
  subst e0
  simp only [List.cons.injEq, and_true] at e1
  subst e1
  simp only [Vote.flds, Guilt.flds, Cert.flds, Header.flds, Turn.flds, Proof.flds, Sight.flds, Tx.flds, Block.flds, Motion.flds, Known.flds, Message.flds, Record.flds, Fld.val, Lst.fld, List.map_cons, List.map_nil, List.map_append, List.cons_append, List.nil_append, List.length_map, List.cons.injEq, and_true] at e2
  obtain ⟨rfl, rfl, rfl, rfl, rfl, rfl, rfl, rfl, rfl, rfl, rfl⟩ := e2
  simp only [List.cons.injEq, and_true] at e3
  subst e3
  subst hy0
  subst hy1
  refine ⟨⟨n0, n1, n2, n3⟩, ?_, ?_, ?_⟩
  · simp [Vote.flds, Guilt.flds, Cert.flds, Header.flds, Turn.flds, Proof.flds, Sight.flds, Tx.flds, Block.flds, Motion.flds, Known.flds, Message.flds, Record.flds, Fld.val, Lst.fld, pairF]
  · exact goods.mk (goods_cons (i64_wf z0) (goods_cons (i64_wf z1) (goods_nil _ _))) (goods.mk k2 (goods_cons (k3) (goods_nil _ _)))
  · have p2 := bulk_pos y2.1
    have p3 := bulk_pos y3.1
    simp only [Motion.atoms, wtL_append, nums, digs, intA, pairA, flagL, digL, textL, listL, benchL, List.map, wtL, Atom.wt, flagB, be_len, List.length_cons, List.length_nil, Rows.uptoBulkAll, Rows.uptoBulk] at *
    omega
theorem open_Known {H : Type} (enc : TypeId × Value → H) (W : World) (sp : Nat → Bool) : Opened enc W sp Known.flds Known.atoms 48 := by
  intro fuel cs x h
  obtain ⟨ys, m, _, rfl, hn, hlen, hfs⟩ := DataW.trod_struct Tryz.underlying48 h
  rw [Tryz.cellsOfKnown] at hn
  obtain ⟨x0, r0, rfl, hn0⟩ := listN hn
  obtain ⟨x1, r1, rfl, hn1⟩ := listN hn0
  obtain ⟨x2, r2, rfl, hn2⟩ := listN hn1
  obtain ⟨x3, r3, rfl, hn3⟩ := listN hn2
  obtain ⟨x4, r4, rfl, hn4⟩ := listN hn3
  obtain ⟨x5, r5, rfl, hn5⟩ := listN hn4
  obtain ⟨x6, r6, rfl, hn6⟩ := listN hn5
  obtain ⟨x7, r7, rfl, hn7⟩ := listN hn6
  obtain ⟨x8, r8, rfl, hn8⟩ := listN hn7
  obtain ⟨x9, r9, rfl, hn9⟩ := listN hn8
  obtain ⟨x10, r10, rfl, hn10⟩ := listN hn9
  obtain ⟨x11, r11, rfl, hn11⟩ := listN hn10
  obtain ⟨x12, r12, rfl, hn12⟩ := listN hn11
  obtain ⟨x13, r13, rfl, hn13⟩ := listN hn12
  obtain ⟨x14, r14, rfl, hn14⟩ := listN hn13
  obtain ⟨x15, r15, rfl, hn15⟩ := listN hn14
  obtain ⟨x16, r16, rfl, hn16⟩ := listN hn15
  obtain rfl := list0 hn16
  have hlen : ys.length = 2 := by simpa using hlen
  obtain ⟨y0, s0, rfl, hk0⟩ := listN hlen
  obtain ⟨y1, s1, rfl, hk1⟩ := listN hk0
  obtain rfl := list0 hk1
  have g0 := hfs 0 _ rfl
  simp [Tryz.cellsOfCert] at g0
  obtain ⟨n0, e0, k0, b0⟩ := open_Cert enc W sp _ _ _ g0
  have g1 := hfs 1 _ rfl
  simp [Tryz.cellsOfBlock] at g1
  obtain ⟨n1, e1, k1, b1⟩ := open_Block enc W sp _ _ _ g1
  simp only [Vote.flds, Guilt.flds, Cert.flds, Header.flds, Turn.flds, Proof.flds, Sight.flds, Tx.flds, Block.flds, Motion.flds, Known.flds, Message.flds, Record.flds, Fld.val, Lst.fld, List.map_cons, List.map_nil, List.map_append, List.cons_append, List.nil_append, List.length_map, List.cons.injEq, and_true] at e0
  obtain ⟨rfl, rfl, rfl, rfl, rfl, rfl⟩ := e0
  simp only [Vote.flds, Guilt.flds, Cert.flds, Header.flds, Turn.flds, Proof.flds, Sight.flds, Tx.flds, Block.flds, Motion.flds, Known.flds, Message.flds, Record.flds, Fld.val, Lst.fld, List.map_cons, List.map_nil, List.map_append, List.cons_append, List.nil_append, List.length_map, List.cons.injEq, and_true] at e1
  obtain ⟨rfl, rfl, rfl, rfl, rfl, rfl, rfl, rfl, rfl, rfl, rfl⟩ := e1
  refine ⟨⟨n0, n1⟩, ?_, ?_, ?_⟩
  · simp [Vote.flds, Guilt.flds, Cert.flds, Header.flds, Turn.flds, Proof.flds, Sight.flds, Tx.flds, Block.flds, Motion.flds, Known.flds, Message.flds, Record.flds, Fld.val, Lst.fld, pairF]
  · exact goods.mk k0 (k1)
  · have p0 := bulk_pos y0.1
    have p1 := bulk_pos y1.1
    simp only [Known.atoms, wtL_append, nums, digs, intA, pairA, flagL, digL, textL, listL, benchL, List.map, wtL, Atom.wt, flagB, be_len, List.length_cons, List.length_nil, Rows.uptoBulkAll, Rows.uptoBulk] at *
    omega
theorem open_Message {H : Type} (enc : TypeId × Value → H) (W : World) (sp : Nat → Bool) : Opened enc W sp Message.flds Message.atoms 27 := by
  intro fuel cs x h
  obtain ⟨ys, m, _, rfl, hn, hlen, hfs⟩ := DataW.trod_struct Tryz.underlying27 h
  rw [Tryz.cellsOfMessage] at hn
  obtain ⟨x0, r0, rfl, hn0⟩ := listN hn
  obtain ⟨x1, r1, rfl, hn1⟩ := listN hn0
  obtain ⟨x2, r2, rfl, hn2⟩ := listN hn1
  obtain ⟨x3, r3, rfl, hn3⟩ := listN hn2
  obtain ⟨x4, r4, rfl, hn4⟩ := listN hn3
  obtain ⟨x5, r5, rfl, hn5⟩ := listN hn4
  obtain ⟨x6, r6, rfl, hn6⟩ := listN hn5
  obtain rfl := list0 hn6
  have hlen : ys.length = 7 := by simpa using hlen
  obtain ⟨y0, s0, rfl, hk0⟩ := listN hlen
  obtain ⟨y1, s1, rfl, hk1⟩ := listN hk0
  obtain ⟨y2, s2, rfl, hk2⟩ := listN hk1
  obtain ⟨y3, s3, rfl, hk3⟩ := listN hk2
  obtain ⟨y4, s4, rfl, hk4⟩ := listN hk3
  obtain ⟨y5, s5, rfl, hk5⟩ := listN hk4
  obtain ⟨y6, s6, rfl, hk6⟩ := listN hk5
  obtain rfl := list0 hk6
  have g0 := hfs 0 _ rfl
  simp [Tryz.cellsOf3] at g0
  obtain ⟨n0, e0, hy0, z0⟩ := DataW.trod_int Tryz.underlying3 g0
  have g1 := hfs 1 _ rfl
  simp [Tryz.cellsOf3] at g1
  obtain ⟨n1, e1, hy1, z1⟩ := DataW.trod_int Tryz.underlying3 g1
  have g2 := hfs 2 _ rfl
  simp [Tryz.cellsOf3] at g2
  obtain ⟨n2, e2, hy2, z2⟩ := DataW.trod_int Tryz.underlying3 g2
  have g3 := hfs 3 _ rfl
  simp [Tryz.cellsOfLVote] at g3
  obtain ⟨n3, e3, k3, b3⟩ := open_lst (atoms := Vote.atoms) Vote.len (by omega) Tryz.underlying22 Tryz.cellsOfVote (open_Vote enc W sp) _ _ _ g3
  have g4 := hfs 4 _ rfl
  simp [Tryz.cellsOfLMotion] at g4
  obtain ⟨n4, e4, k4, b4⟩ := open_lst (atoms := Motion.atoms) Motion.len (by omega) Tryz.underlying23 Tryz.cellsOfMotion (open_Motion enc W sp) _ _ _ g4
  have g5 := hfs 5 _ rfl
  simp [Tryz.cellsOfLKnown] at g5
  obtain ⟨n5, e5, k5, b5⟩ := open_lst (atoms := Known.atoms) Known.len (by omega) Tryz.underlying24 Tryz.cellsOfKnown (open_Known enc W sp) _ _ _ g5
  have g6 := hfs 6 _ rfl
  simp [Tryz.cellsOfLTx] at g6
  obtain ⟨n6, e6, k6, b6⟩ := open_lst (atoms := Tx.atoms) Tx.len (by omega) Tryz.underlying25 Tryz.cellsOfTx (open_Tx enc W sp) _ _ _ g6
  simp only [List.cons.injEq, and_true] at e0
  subst e0
  simp only [List.cons.injEq, and_true] at e1
  subst e1
  simp only [List.cons.injEq, and_true] at e2
  subst e2
  simp only [List.cons.injEq, and_true] at e3
  subst e3
  simp only [List.cons.injEq, and_true] at e4
  subst e4
  simp only [List.cons.injEq, and_true] at e5
  subst e5
  simp only [List.cons.injEq, and_true] at e6
  subst e6
  subst hy0
  subst hy1
  subst hy2
  refine ⟨⟨n0, n1, n2, n3, n4, n5, n6⟩, ?_, ?_, ?_⟩
  · simp [Vote.flds, Guilt.flds, Cert.flds, Header.flds, Turn.flds, Proof.flds, Sight.flds, Tx.flds, Block.flds, Motion.flds, Known.flds, Message.flds, Record.flds, Fld.val, Lst.fld, pairF]
  · exact goods_cons (i64_wf z0) (goods_cons (i64_wf z1) (goods_cons (i64_wf z2) (goods_cons (k3) (goods_cons (k4) (goods_cons (k5) (goods_cons (k6) (goods_nil _ _)))))))
  · have p3 := bulk_pos y3.1
    have p4 := bulk_pos y4.1
    have p5 := bulk_pos y5.1
    have p6 := bulk_pos y6.1
    simp only [Message.atoms, wtL_append, nums, digs, intA, pairA, flagL, digL, textL, listL, benchL, List.map, wtL, Atom.wt, flagB, be_len, List.length_cons, List.length_nil, Rows.uptoBulkAll, Rows.uptoBulk] at *
    omega
end Go.Proofs.YtcnnjcbbeclglaaGreat
