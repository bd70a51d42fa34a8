/- TrieExact: the law. -/
import Derived.Test.YtfjkgglflmakhaaDoorZSw0
import Derived.Test.YtfjkgglflmakhaaDoorZSw1
import Derived.Test.YtfjkgglflmakhaaDoorZSw2
import Derived.Test.YtfjkgglflmakhaaDoorZSw3
import Derived.Test.YtfjkgglflmakhaaDoorZSw4
import Derived.Test.YtfjkgglflmakhaaDoorZSw5
import Derived.Deep.RegionHeld3
import Derived.Deep.CutBlock
import Derived.Deep.DeepCutAuto
namespace Go.Proofs.YtfjkgglflmakhaaDoor
open Go.RowKit
set_option linter.unusedVariables false
set_option linter.unusedSimpArgs false

set_option maxRecDepth 20000 in
set_option maxHeartbeats 12800000 in
theorem trie_any (wn : Int) (la0 : Option Addr) (ca : Nat) (ls : List Sz) (w : World) (hwn : InN wn) (hl : ls.length ≤ 140737488355328) (hin : ∀ x ∈ ls, x.In) (hS : StepsZ w la0 ls) :
    Calls Tryd.prog 3 #[.int .i64 wn, .slice la0 ls.length ca] w fun e w' => e = .returned (.bool true) ∧ Below w.heap.size w w' := by
  have KSm := small_any la0 ca ls w hl hin hS
  have KPk := fun w' => pick_fn wn 8 w' hwn (by omega)
  have hpb := pickP_bd wn 8 (by omega)
  have HI := show Hid (_) from hin
  have HS := show Hid (StepsZ w la0 ls) from hS
  clear hin hS
  obtain ⟨p8, HP8⟩ : ∃ p8 : Nat, Hid (pickP wn 8 = (p8 : Int)) := ⟨(pickP wn 8).toNat, by show _ = _; omega⟩
  rw [HP8.out] at KPk hpb
  clear HP8
  go_enter Tryd.func3, Tryd.ntmps3
  go_wp2_with fail
  refine KSm.mono ?_
  rintro e w1 ⟨⟨z, rfl, hz⟩, b1⟩
  clear KSm
  cases z
  · go_wp2
    go_ret
    exact ⟨rfl, b1⟩
  obtain ⟨h4, hk4⟩ := hz rfl
  have HK4 := show Hid (_) from hk4
  clear hz hk4
  go_wp2_with fail
  refine (KPk w1).mono ?_
  rintro e w1' ⟨rfl, rfl⟩
  have wsp : IntKind.i64.wrap (1 + (p8 : Int)) = 1 + (p8 : Int) := wrapZ _ (by omega) (by omega)
  obtain ⟨wd, HWD⟩ : ∃ wd : Int, Hid (1 + (p8 : Int) = wd) := ⟨_, rfl⟩
  have HW : Hid (okW wd) := by show okW wd; rw [← HWD.out]; unfold okW; omega
  rw [HWD.out] at wsp
  go_upto_region 4 with fail
  simp only [HWD.out]
  clear wsp KPk
  go_wp2_with fail
  refine (new_any wd w1).mono ?_
  rintro e w2 ⟨rfl, b2⟩
  have T0 := te_start w w2 wd (b1.trans (b2.mono b1.size))
  clear b1 b2
  go_upto_region 6 with fail
  generalize (w2.alloc (.cells #[.int .i64 wd, .pointer none] 27)).alloc (.cells #[.int .i64 wd, .slice none 0 0] 31) = w3 at *
  obtain ⟨tb, htb⟩ : ∃ tb, w2.heap.size = tb := ⟨_, rfl⟩
  obtain ⟨ub, hub⟩ : ∃ ub, tb + 1 = ub := ⟨_, rfl⟩
  rw [htb, hub] at T0
  simp only [htb, hub]
  have HTB := show Hid (_ = _ ∧ _ = _) from ⟨htb, hub⟩
  clear htb hub
  go_wp2_with fail
  go_loopw [7] (fun iv wv => ∃ (i : Nat) (q la : Option Addr) (c : Nat) (o : Option Tr), i ≤ ls.length ∧ iv = .int .i64 i ∧ (itemsO o).length ≤ i ∧ TE w tb ub wd q la c o wv) (fun iv _ => ls.length - (intOf iv).toNat)
  case atStart => exact ⟨0, none, none, 0, none, Nat.zero_le _, rfl, Nat.le_refl _, T0⟩
  case round =>
    obtain ⟨i, q, la, c, o, hi, rfl, hoi, T⟩ := hrel
    clear T0
    by_cases hlt : i < ls.length
    · have hlt' : (i : Int) < (ls.length : Int) := by omega
      obtain ⟨sb0, so, e, hsb, e0, e1, e2, e3, e4, e5, e6⟩ := HS.out.one T.below hlt
      subst e
      have hI := HI.out _ (List.getElem_mem hlt)
      have hxk := HK4.out _ (List.getElem_mem hlt)
      generalize ls[i] = x at *
      have bA : Below wr.heap.size wr (wr.alloc (.cells #[.int .i64 x.k, .int .i64 x.a, .int .i64 x.b, .int .i64 x.c, .int .i64 x.n, .string (str x.key), .string (str x.val)] 33)) := (Below.refl _ _).alloc (Nat.le_refl _) _
      have kS := Blk.new wr #[.int .i64 x.k, .int .i64 x.a, .int .i64 x.b, .int .i64 x.c, .int .i64 x.n, .string (str x.key), .string (str x.val)] 33
      have hts1 := T.t.lt
      have hts2 := T.u.lt
      have T' := T.next bA
      clear T
      have T := T'
      clear T'
      go_upto_region 10 with fail
      generalize wr.alloc (.cells #[.int .i64 x.k, .int .i64 x.a, .int .i64 x.b, .int .i64 x.c, .int .i64 x.n, .string (str x.key), .string (str x.val)] 33) = w4 at *
      generalize wr.heap.size = sb at *
      clear e0 e1 e2 e3 e4 e5 e6 hsb bA
      have sk := str_size x.key
      have sv := str_size x.val
      have hv47 := hI.2.2.2.2
      have t0 := (T.t.cell 0).trans rfl
      have t1 := (T.t.cell 1).trans rfl
      have zt := T.t.lt
      have u0 := (T.u.cell 0).trans rfl
      have u1 := (T.u.cell 1).trans rfl
      have zu := T.u.lt
      have y0 := (kS.cell 0).trans rfl
      have y1 := (kS.cell 1).trans rfl
      have y4 := (kS.cell 4).trans rfl
      have y5 := (kS.cell 5).trans rfl
      have y6 := (kS.cell 6).trans rfl
      have zs := kS.lt
      have KPt := fun w' hb => putE_any wd q o x.key x.val w' HW.out (by unfold maxLen; omega) (by unfold maxLen; omega) T.good (TopAt.below (w := w4) hb T.top)
      have KRt := fun w' hb => rputE_any wd la c o x.key x.val w' (by unfold maxLen; omega) (by unfold maxLen; omega) T.good (by omega) (T.its.below (w' := w') hb)
      have HGo : Hid (Good (stepO x.key x.val o) ∧ (itemsO (stepO x.key x.val o)).length ≤ i + 1) := ⟨stepO_good T.good, by have := stepO_len (key := x.key) (val := x.val) T.good; omega⟩
      have HGoO := show Hid (Good o) from T.good
      have HSE : Hid (putE x.key x.val ≠ 0 → stepO x.key x.val o = o) := fun q => by
        unfold putE at q
        unfold stepO
        by_cases h : 32 < x.key.length ∨ 4096 < x.val.length
        · rw [if_pos h]
        · rw [if_neg h] at q; exact absurd rfl q
      obtain ⟨E, HE⟩ : ∃ E, Hid (putE x.key x.val = E) := ⟨_, rfl⟩
      rw [HE.out] at KPt KRt HSE
      clear HE
      obtain ⟨o', HO⟩ : ∃ o', Hid (stepO x.key x.val o = o') := ⟨_, rfl⟩
      go_wp2_with fail
      refine (KPt _ (Below.refl _ _)).mono ?_
      rintro e w5 ⟨wx, qx, rfl, hx, b5⟩
      have T' := T.next b5
      have kS' := kS.below b5 kS.lt
      clear t0 t1 zt u0 u1 zu y0 y1 y4 y5 y6 zs
      clear T kS 
      have T := T'
      have kS := kS'
      clear T' kS' 
      have t0 := (T.t.cell 0).trans rfl
      have t1 := (T.t.cell 1).trans rfl
      have zt := T.t.lt
      have u0 := (T.u.cell 0).trans rfl
      have u1 := (T.u.cell 1).trans rfl
      have zu := T.u.lt
      have y0 := (kS.cell 0).trans rfl
      have y1 := (kS.cell 1).trans rfl
      have y4 := (kS.cell 4).trans rfl
      have y5 := (kS.cell 5).trans rfl
      have y6 := (kS.cell 6).trans rfl
      have zs := kS.lt
      have bX : Below w5.heap.size w5 (w5.alloc (.cells #[.int .i64 wx, .pointer qx] 27)) := (Below.refl _ _).alloc (Nat.le_refl _) _
      have kX := Blk.new w5 #[.int .i64 wx, .pointer qx] 27
      have hX := show Hid (_) from fun (q : E = 0) => (⟨(hx q).1, TopAt.below bX (hx q).2⟩ : wx = wd ∧ TopAt wd (w5.alloc (.cells #[.int .i64 wx, .pointer qx] 27)) (.pointer qx) (stepO x.key x.val o))
      have b54 := b5.trans (bX.mono b5.size)
      have hsx := kS.lt
      have T6 := T.next bX
      have kS6 := kS.below bX kS.lt
      clear hx KPt b5
      go_upto_region 11 with fail
      generalize w5.alloc (.cells #[.int .i64 wx, .pointer qx] 27) = w6 at *
      clear bX T kS t0 t1 zt u0 u1 zu y0 y1 y4 y5 y6 zs
      generalize w5.heap.size = xb at *
      have T := T6
      have kS := kS6
      clear T6 kS6
      have t0 := (T.t.cell 0).trans rfl
      have t1 := (T.t.cell 1).trans rfl
      have zt := T.t.lt
      have u0 := (T.u.cell 0).trans rfl
      have u1 := (T.u.cell 1).trans rfl
      have zu := T.u.lt
      have y0 := (kS.cell 0).trans rfl
      have y1 := (kS.cell 1).trans rfl
      have y4 := (kS.cell 4).trans rfl
      have y5 := (kS.cell 5).trans rfl
      have y6 := (kS.cell 6).trans rfl
      have zs := kS.lt
      go_wp2_with fail
      refine (KRt _ b54).mono ?_
      rintro e w7 ⟨wy, ly, ny, cy, rfl, hy, b7⟩
      clear KRt b54
      have T' := T.next b7
      have kS' := kS.below b7 kS.lt
      have kX' := kX.below b7 kX.lt
      clear t0 t1 zt u0 u1 zu y0 y1 y4 y5 y6 zs
      clear T kS kX
      have T := T'
      have kS := kS'
      have kX := kX'
      clear T' kS' kX'
      have t0 := (T.t.cell 0).trans rfl
      have t1 := (T.t.cell 1).trans rfl
      have zt := T.t.lt
      have u0 := (T.u.cell 0).trans rfl
      have u1 := (T.u.cell 1).trans rfl
      have zu := T.u.lt
      have y0 := (kS.cell 0).trans rfl
      have y1 := (kS.cell 1).trans rfl
      have y4 := (kS.cell 4).trans rfl
      have y5 := (kS.cell 5).trans rfl
      have y6 := (kS.cell 6).trans rfl
      have zs := kS.lt
      have hX7 := show Hid (_) from fun (q : E = 0) => (⟨(hX.out q).1, TopAt.below b7 (hX.out q).2⟩ : wx = wd ∧ TopAt wd w7 (.pointer qx) (stepO x.key x.val o))
      have bY : Below w7.heap.size w7 (w7.alloc (.cells #[.int .i64 wy, .slice ly ny cy] 31)) := (Below.refl _ _).alloc (Nat.le_refl _) _
      have kY := Blk.new w7 #[.int .i64 wy, .slice ly ny cy] 31
      have hY := show Hid (_) from fun (q : E = 0) => (⟨(hy q).1, (hy q).2.1, (hy q).2.2.1.below bY, (hy q).2.2.2⟩ : wy = wd ∧ ny = (itemsO (stepO x.key x.val o)).length ∧ ItemsAt (w7.alloc (.cells #[.int .i64 wy, .slice ly ny cy] 31)) ly (itemsO (stepO x.key x.val o)) ∧ (itemsO (stepO x.key x.val o)).length ≤ cy)
      have hX8 := show Hid (_) from fun (q : E = 0) => (⟨(hX7.out q).1, TopAt.below bY (hX7.out q).2⟩ : wx = wd ∧ TopAt wd (w7.alloc (.cells #[.int .i64 wy, .slice ly ny cy] 31)) (.pointer qx) (stepO x.key x.val o))
      have hxy := kX.lt
      have T8 := T.next bY
      have kS8 := kS.below bY kS.lt
      have kX8 := kX.below bY kX.lt
      have z7 := T.below.size
      clear hy b7 hX hX7
      go_upto_region 14 with fail
      generalize w7.alloc (.cells #[.int .i64 wy, .slice ly ny cy] 31) = w8 at *
      clear bY T kS kX t0 t1 zt u0 u1 zu y0 y1 y4 y5 y6 zs
      generalize w7.heap.size = yb at *
      have T := T8
      have kS := kS8
      have kX := kX8
      clear T8 kS8 kX8
      have t0 := (T.t.cell 0).trans rfl
      have t1 := (T.t.cell 1).trans rfl
      have zt := T.t.lt
      have u0 := (T.u.cell 0).trans rfl
      have u1 := (T.u.cell 1).trans rfl
      have zu := T.u.lt
      have y0 := (kS.cell 0).trans rfl
      have y1 := (kS.cell 1).trans rfl
      have y4 := (kS.cell 4).trans rfl
      have y5 := (kS.cell 5).trans rfl
      have y6 := (kS.cell 6).trans rfl
      have zs := kS.lt
      have bO : Below w8.heap.size w8 (w8.alloc (.cells #[.int .i64 wd, .pointer q] 27)) := (Below.refl _ _).alloc (Nat.le_refl _) _
      have kO := Blk.new w8 #[.int .i64 wd, .pointer q] 27
      have hyo := kY.lt
      have T9 := T.next bO
      have kS9 := kS.below bO kS.lt
      have kX9 := kX.below bO kX.lt
      have kY9 := kY.below bO kY.lt
      have hX9 := show Hid (_) from fun (z : E = 0) => (⟨(hX8.out z).1, TopAt.below bO (hX8.out z).2⟩ : wx = wd ∧ TopAt wd (w8.alloc (.cells #[.int .i64 wd, .pointer q] 27)) (.pointer qx) (stepO x.key x.val o))
      have hY9 := show Hid (_) from fun (z : E = 0) => (⟨(hY.out z).1, (hY.out z).2.1, (hY.out z).2.2.1.below bO, (hY.out z).2.2.2⟩ : wy = wd ∧ ny = (itemsO (stepO x.key x.val o)).length ∧ ItemsAt (w8.alloc (.cells #[.int .i64 wd, .pointer q] 27)) ly (itemsO (stepO x.key x.val o)) ∧ (itemsO (stepO x.key x.val o)).length ≤ cy)
      clear hX8 hY
      go_upto_region 15 with fail
      generalize w8.alloc (.cells #[.int .i64 wd, .pointer q] 27) = w9 at *
      clear bO T kS kX kY t0 t1 zt u0 u1 zu y0 y1 y4 y5 y6 zs
      generalize w8.heap.size = ob at *
      have T := T9
      have kS := kS9
      have kX := kX9
      have kY := kY9
      clear T9 kS9 kX9 kY9
      go_upto_if 83 with fail
      go_cut [10, 12, 83] (fun _ _ _ wz => Bh w tb ub sb xb ob wd wx q qx o (stepO x.key x.val o) #[.int .i64 x.k, .int .i64 x.a, .int .i64 x.b, .int .i64 x.c, .int .i64 x.n, .string (str x.key), .string (str x.val)] wz)
      case first =>
        by_cases hE : E = 0
        · have hEb : (E == 0) = true := by rw [hE]; rfl
          obtain ⟨ex1, hT⟩ := hX9.out hE
          obtain ⟨ey1, ey2, hIy, hcy⟩ := hY9.out hE
          have HB := show Hid (_) from bh_give T kS kX kO hT hIy HGo.out.1 hcy hts1 hts2 hsx (by omega)
          have kX' : Blk w9 xb #[.int .i64 wd, .pointer qx] 27 := by rw [← ex1]; exact kX
          have kY' : Blk w9 yb #[.int .i64 wd, .slice ly (itemsO (stepO x.key x.val o)).length cy] 31 := by rw [← ey1, ← ey2]; exact kY
          have hne := T.ne
          have kY2 := (kY'.setOther ⟨tb, 0, none⟩ (by show yb ≠ tb; omega) (.int .i64 wd)).setOther ⟨tb, 1, none⟩ (by show yb ≠ tb; omega) (.pointer qx)
          have kU2 := (T.u.setOther ⟨tb, 0, none⟩ (Ne.symm hne) (.int .i64 wd)).setOther ⟨tb, 1, none⟩ (Ne.symm hne) (.pointer qx)
          have v0 := (kX'.cell 0).trans rfl
          have v1 := (kX'.cell 1).trans rfl
          have zx := kX'.lt
          have t0 := (T.t.cell 0).trans rfl
          have t1 := (T.t.cell 1).trans rfl
          have tf0 := T.t.frozen 0
          have tf1 := T.t.frozen 1
          have zt := T.t.lt
          clear ex1 ey1 ey2 hE hX9 hY9 kX kY kX' kY' T kS kO hT hIy hcy HSE
          go_upto_region 17 with fail
          generalize (w9.setCell ⟨tb, 0, none⟩ (.int .i64 wd)).setCell ⟨tb, 1, none⟩ (.pointer qx) = w10 at *
          clear v0 v1 zx t0 t1 tf0 tf1 zt
          have v0 := (kY2.cell 0).trans rfl
          have v1 := (kY2.cell 1).trans rfl
          have zy := kY2.lt
          have u0 := (kU2.cell 0).trans rfl
          have u1 := (kU2.cell 1).trans rfl
          have uf0 := kU2.frozen 0
          have uf1 := kU2.frozen 1
          have zu := kU2.lt
          clear kY2 kU2
          go_wp2_with fail
          go_meet
          case rel => exact HB.out
        · have hEb : (E == 0) = false := by rw [beq_eq_false_iff_ne]; exact hE
          have HB : Hid (Bh w tb ub sb xb ob wd wx q qx o (stepO x.key x.val o) #[.int .i64 x.k, .int .i64 x.a, .int .i64 x.b, .int .i64 x.c, .int .i64 x.n, .string (str x.key), .string (str x.val)] w9) := by
            show Bh _ _ _ _ _ _ _ _ _ _ _ _ _ _
            rw [HSE.out hE]
            exact ⟨⟨_, _, _, T⟩, kS, kX, kO, T.top⟩
          clear hE hX9 hY9 kX kY T kS kO HSE
          go_wp2_with fail
          go_meet
          case rel => exact HB.out
      case rest =>
        clear T kS kX kY kO hX9 hY9 HSE
        generalize wc = w7 at *
        obtain ⟨⟨q2, la2, c2, T⟩, kS, kX, kO, hTo⟩ := hcut
        have hgl := HGo.out.2
        have hgl5 : (itemsO (stepO x.key x.val o)).length ≤ 100000 := by omega
        have t0 := (T.t.cell 0).trans rfl
        have t1 := (T.t.cell 1).trans rfl
        have zt := T.t.lt
        have u0 := (T.u.cell 0).trans rfl
        have u1 := (T.u.cell 1).trans rfl
        have zu := T.u.lt
        have y0 := (kS.cell 0).trans rfl
        have y1 := (kS.cell 1).trans rfl
        have y4 := (kS.cell 4).trans rfl
        have y5 := (kS.cell 5).trans rfl
        have y6 := (kS.cell 6).trans rfl
        have zs := kS.lt
        go_wp2_with fail
        refine (pick_fn x.k 6 w7 hI.1 (by omega)).mono ?_
        rintro e w7' ⟨rfl, rfl⟩
        have hpp := pickP_bd x.k 6 (by omega)
        generalize pickP x.k 6 = p at *
        go_upto_block 2 with fail
        go_cut [14, 88] (fun v _ wz => v = .bool true ∧ ∃ q2 la2 c2, TE w tb ub wd q2 la2 c2 (stepO x.key x.val o) wz)
        case first =>
          by_cases hp0 : p = 0
          · subst hp0
            clear t0 t1 zt u0 u1 zu y0 y1 y4 y5 y6 zs
            refine sw0 w tb ub sb xb ob wd wx q qx q2 la2 c2 o x w7 _ _ _ _ _ _ _ _ _ _ _ _ _ _ _ _ _ _ _ _ _ _ _ _ _ _ _ _ _ _ _ _ _ _ _ _ _ _ _ _ _ _ _ _ _ _ _ _ _ _ _ _ _ _ _ _ _ _ _ _ _ _ _ _ _ _ _ _ _ _ _ _ _ _ _ _ _ _ _ _ _ _ _ _ _ _ _ _ _ _ _ _ _ _ _ _ _ _ _ _ _ _ _ _ _ _ _ _ _ _ _ _ _ _ _ _ _ _ _ _ _ _ _ _ _ _ _ _ _ _ _ _ _ _ _ _ _ _ _ _ _ _ _ _ _ _ _ _ _ _ _ _ _ _ _ _ _ _ _ _ _ _ _ _ _ _ _ _ _ _ _ _ _ _ _ _ _ _ _ _ _ _ _ _ _ _ _ _ _ _ _ _ _ _ _ _ _ _ _ _ _ _ _ _ _ _ _ _ _ _ _ _ _ _ _ _ _ _ _ _ _ _ _ _ _ _ _ _ _ _ _ _ _ _ _ _ _ _ T kS kX kO hTo HGoO HW hI (by omega) hxk hts1 hts2 hsx (by omega) ?_
            intro _ _ _ _ _ _ _ _ _ _ _ _ _ _ _ _ _ _ _ _ _ _ _ _ _ _ _ _ _ _ _ _ _ _ _ _ _ _ _ _ _ _ _ _ _ _ _ _ _ _ _ _ _ _ _ _ _ _ _ _ _ _ _ _ _ _ _ _ _ _ _ _ _ _ _ _ _ _ _ _ _ _ _ _ _ _ _ _ _ _ _ _ _ _ _ _ _ _ _ _ _ _ _ _ _ _ _ _ _ _ _ _ _ _ _ _ _ _ _ _ _ _ _ _ _ _ _ _ _ _ _ _ _ _ _ _ _ _ _ _ _ _ _ _ _ _ _ _ _ _ _ _ _ _ _ _ _ _ wz hz
            dsimp only
            go_step
            go_meet
            case rel => exact ⟨rfl, hz⟩
          by_cases hp1 : p = 1
          · subst hp1
            clear t0 t1 zt u0 u1 zu y0 y1 y4 y5 y6 zs
            refine sw1 w tb ub sb xb ob wd wx q qx q2 la2 c2 o x w7 _ _ _ _ _ _ _ _ _ _ _ _ _ _ _ _ _ _ _ _ _ _ _ _ _ _ _ _ _ _ _ _ _ _ _ _ _ _ _ _ _ _ _ _ _ _ _ _ _ _ _ _ _ _ _ _ _ _ _ _ _ _ _ _ _ _ _ _ _ _ _ _ _ _ _ _ _ _ _ _ _ _ _ _ _ _ _ _ _ _ _ _ _ _ _ _ _ _ _ _ _ _ _ _ _ _ _ _ _ _ _ _ _ _ _ _ _ _ _ _ _ _ _ _ _ _ _ _ _ _ _ _ _ _ _ _ _ _ _ _ _ _ _ _ _ _ _ _ _ _ _ _ _ _ _ _ _ _ _ _ _ _ _ _ _ _ _ _ _ _ _ _ _ _ _ _ _ _ _ _ _ _ _ _ _ _ _ _ _ _ _ _ _ _ _ _ _ _ _ _ _ _ _ _ _ _ _ _ _ _ _ _ _ _ _ _ _ _ _ _ _ _ _ _ _ _ _ _ _ _ _ _ _ _ _ _ _ _ T kS kX kO hTo HGoO HW hI (by omega) hxk hts1 hts2 hsx (by omega) ?_
            intro _ _ _ _ _ _ _ _ _ _ _ _ _ _ _ _ _ _ _ _ _ _ _ _ _ _ _ _ _ _ _ _ _ _ _ _ _ _ _ _ _ _ _ _ _ _ _ _ _ _ _ _ _ _ _ _ _ _ _ _ _ _ _ _ _ _ _ _ _ _ _ _ _ _ _ _ _ _ _ _ _ _ _ _ _ _ _ _ _ _ _ _ _ _ _ _ _ _ _ _ _ _ _ _ _ _ _ _ _ _ _ _ _ _ _ _ _ _ _ _ _ _ _ _ _ _ _ _ _ _ _ _ _ _ _ _ _ _ _ _ _ _ _ _ _ _ _ _ _ _ _ _ _ _ _ _ _ _ wz hz
            dsimp only
            go_step
            go_meet
            case rel => exact ⟨rfl, hz⟩
          by_cases hp2 : p = 2
          · subst hp2
            clear t0 t1 zt u0 u1 zu y0 y1 y4 y5 y6 zs
            refine sw2 w tb ub sb xb ob wd wx q qx q2 la2 c2 o x w7 _ _ _ _ _ _ _ _ _ _ _ _ _ _ _ _ _ _ _ _ _ _ _ _ _ _ _ _ _ _ _ _ _ _ _ _ _ _ _ _ _ _ _ _ _ _ _ _ _ _ _ _ _ _ _ _ _ _ _ _ _ _ _ _ _ _ _ _ _ _ _ _ _ _ _ _ _ _ _ _ _ _ _ _ _ _ _ _ _ _ _ _ _ _ _ _ _ _ _ _ _ _ _ _ _ _ _ _ _ _ _ _ _ _ _ _ _ _ _ _ _ _ _ _ _ _ _ _ _ _ _ _ _ _ _ _ _ _ _ _ _ _ _ _ _ _ _ _ _ _ _ _ _ _ _ _ _ _ _ _ _ _ _ _ _ _ _ _ _ _ _ _ _ _ _ _ _ _ _ _ _ _ _ _ _ _ _ _ _ _ _ _ _ _ _ _ _ _ _ _ _ _ _ _ _ _ _ _ _ _ _ _ _ _ _ _ _ _ _ _ _ _ _ _ _ _ _ _ _ _ _ _ _ _ _ _ _ _ T kS kX kO hTo HGoO HW hI (by omega) hxk hts1 hts2 hsx (by omega) ?_
            intro _ _ _ _ _ _ _ _ _ _ _ _ _ _ _ _ _ _ _ _ _ _ _ _ _ _ _ _ _ _ _ _ _ _ _ _ _ _ _ _ _ _ _ _ _ _ _ _ _ _ _ _ _ _ _ _ _ _ _ _ _ _ _ _ _ _ _ _ _ _ _ _ _ _ _ _ _ _ _ _ _ _ _ _ _ _ _ _ _ _ _ _ _ _ _ _ _ _ _ _ _ _ _ _ _ _ _ _ _ _ _ _ _ _ _ _ _ _ _ _ _ _ _ _ _ _ _ _ _ _ _ _ _ _ _ _ _ _ _ _ _ _ _ _ _ _ _ _ _ _ _ _ _ _ _ _ _ _ wz hz
            dsimp only
            go_step
            go_meet
            case rel => exact ⟨rfl, hz⟩
          by_cases hp3 : p = 3
          · subst hp3
            clear t0 t1 zt u0 u1 zu y0 y1 y4 y5 y6 zs
            refine sw3 w tb ub sb xb ob wd wx q qx q2 la2 c2 o x w7 _ _ _ _ _ _ _ _ _ _ _ _ _ _ _ _ _ _ _ _ _ _ _ _ _ _ _ _ _ _ _ _ _ _ _ _ _ _ _ _ _ _ _ _ _ _ _ _ _ _ _ _ _ _ _ _ _ _ _ _ _ _ _ _ _ _ _ _ _ _ _ _ _ _ _ _ _ _ _ _ _ _ _ _ _ _ _ _ _ _ _ _ _ _ _ _ _ _ _ _ _ _ _ _ _ _ _ _ _ _ _ _ _ _ _ _ _ _ _ _ _ _ _ _ _ _ _ _ _ _ _ _ _ _ _ _ _ _ _ _ _ _ _ _ _ _ _ _ _ _ _ _ _ _ _ _ _ _ _ _ _ _ _ _ _ _ _ _ _ _ _ _ _ _ _ _ _ _ _ _ _ _ _ _ _ _ _ _ _ _ _ _ _ _ _ _ _ _ _ _ _ _ _ _ _ _ _ _ _ _ _ _ _ _ _ _ _ _ _ _ _ _ _ _ _ _ _ _ _ _ _ _ _ _ _ _ _ _ T kS kX kO hTo HGoO HW hI (by omega) hxk hts1 hts2 hsx (by omega) ?_
            intro _ _ _ _ _ _ _ _ _ _ _ _ _ _ _ _ _ _ _ _ _ _ _ _ _ _ _ _ _ _ _ _ _ _ _ _ _ _ _ _ _ _ _ _ _ _ _ _ _ _ _ _ _ _ _ _ _ _ _ _ _ _ _ _ _ _ _ _ _ _ _ _ _ _ _ _ _ _ _ _ _ _ _ _ _ _ _ _ _ _ _ _ _ _ _ _ _ _ _ _ _ _ _ _ _ _ _ _ _ _ _ _ _ _ _ _ _ _ _ _ _ _ _ _ _ _ _ _ _ _ _ _ _ _ _ _ _ _ _ _ _ _ _ _ _ _ _ _ _ _ _ _ _ _ _ _ _ _ wz hz
            dsimp only
            go_step
            go_meet
            case rel => exact ⟨rfl, hz⟩
          by_cases hp4 : p = 4
          · subst hp4
            clear t0 t1 zt u0 u1 zu y0 y1 y4 y5 y6 zs
            refine Code.wp_mono (Q := Exit.then _ fun _ _ _ => False) (fun e1 a1 w1 h1 => by cases e1 <;> first | exact h1 | exact h1.elim) ?_
            refine sw4 w tb ub sb xb ob wd wx q qx q2 la2 c2 o x w7 _ _ _ _ _ _ _ _ _ _ _ _ _ _ _ _ _ _ _ _ _ _ _ _ _ _ _ _ _ _ _ _ _ _ _ _ _ _ _ _ _ _ _ _ _ _ _ _ _ _ _ _ _ _ _ _ _ _ _ _ _ _ _ _ _ _ _ _ _ _ _ _ _ _ _ _ _ _ _ _ _ _ _ _ _ _ _ _ _ _ _ _ _ _ _ _ _ _ _ _ _ _ _ _ _ _ _ _ _ _ _ _ _ _ _ _ _ _ _ _ _ _ _ _ _ _ _ _ _ _ _ _ _ _ _ _ _ _ _ _ _ _ _ _ _ _ _ _ _ _ _ _ _ _ _ _ _ _ _ _ _ _ _ _ _ _ _ _ _ _ _ _ _ _ _ _ _ _ _ _ _ _ _ _ _ _ _ _ _ _ _ _ _ _ _ _ _ _ _ _ _ _ _ _ _ _ _ _ _ _ _ _ _ _ _ _ _ _ _ _ _ _ _ _ _ _ _ _ _ _ _ _ _ _ _ _ _ T kS kX kO hTo HGoO HW hI (by omega) hxk hts1 hts2 hsx (by omega) ?_
            intro _ _ _ _ _ _ _ _ _ _ _ _ _ _ _ _ _ _ _ _ _ _ _ _ _ _ _ _ _ _ _ _ _ _ _ _ _ _ _ _ _ _ _ _ _ _ _ _ _ _ _ _ _ _ _ _ _ _ _ _ _ _ _ _ _ _ _ _ _ _ _ _ _ _ _ _ _ _ _ _ _ _ _ _ _ _ _ _ _ _ _ _ _ _ _ _ _ _ _ _ _ _ _ _ _ _ _ _ _ _ _ _ _ _ _ _ _ _ _ _ _ _ _ _ _ _ _ _ _ _ _ _ _ _ _ _ _ _ _ _ _ _ _ _ _ _ _ _ _ _ _ _ _ _ _ _ _ _ wz hz
            dsimp only
            go_step
            go_meet
            case rel => exact ⟨rfl, hz⟩
          have hp5 : p = 5 := by omega
          subst hp5
          clear t0 t1 zt u0 u1 zu y0 y1 y4 y5 y6 zs
          refine sw5 w tb ub sb xb ob wd wx q qx q2 la2 c2 o x w7 _ _ _ _ _ _ _ _ _ _ _ _ _ _ _ _ _ _ _ _ _ _ _ _ _ _ _ _ _ _ _ _ _ _ _ _ _ _ _ _ _ _ _ _ _ _ _ _ _ _ _ _ _ _ _ _ _ _ _ _ _ _ _ _ _ _ _ _ _ _ _ _ _ _ _ _ _ _ _ _ _ _ _ _ _ _ _ _ _ _ _ _ _ _ _ _ _ _ _ _ _ _ _ _ _ _ _ _ _ _ _ _ _ _ _ _ _ _ _ _ _ _ _ _ _ _ _ _ _ _ _ _ _ _ _ _ _ _ _ _ _ _ _ _ _ _ _ _ _ _ _ _ _ _ _ _ _ _ _ _ _ _ _ _ _ _ _ _ _ _ _ _ _ _ _ _ _ _ _ _ _ _ _ _ _ _ _ _ _ _ _ _ _ _ _ _ _ _ _ _ _ _ _ _ _ _ _ _ _ _ _ _ _ _ _ _ _ _ _ _ _ _ _ _ _ _ _ _ _ _ _ _ _ _ _ _ _ _ T kS kX kO hTo HGoO HW hI (by omega) hxk hts1 hts2 hsx (by omega) ?_
          intro _ _ _ _ _ _ _ _ _ _ _ _ _ _ _ _ _ _ _ _ _ _ _ _ _ _ _ _ _ _ _ _ _ _ _ _ _ _ _ _ _ _ _ _ _ _ _ _ _ _ _ _ _ _ _ _ _ _ _ _ _ _ _ _ _ _ _ _ _ _ _ _ _ _ _ _ _ _ _ _ _ _ _ _ _ _ _ _ _ _ _ _ _ _ _ _ _ _ _ _ _ _ _ _ _ _ _ _ _ _ _ _ _ _ _ _ _ _ _ _ _ _ _ _ _ _ _ _ _ _ _ _ _ _ _ _ _ _ _ _ _ _ _ _ _ _ _ _ _ _ _ _ _ _ _ _ _ _ wz hz
          dsimp only
          go_step
          go_meet
          case rel => exact ⟨rfl, hz⟩
        case rest =>
          obtain ⟨rfl, q3, la3, c3, T3⟩ := hcut
          clear T kS kX kO hTo t0 t1 zt u0 u1 zu y0 y1 y4 y5 y6 zs
          go_wp2
          exact ⟨⟨i + 1, q3, la3, c3, stepO x.key x.val o, by omega, by go_num, hgl, T3⟩, by simp [intOf]; omega⟩
    · have hge : ¬ (i : Int) < (ls.length : Int) := by omega
      have t0 := (T.t.cell 0).trans rfl
      have t1 := (T.t.cell 1).trans rfl
      have zt := T.t.lt
      have KG := root_any wd q o wr HW.out T.top
      have KR := fun w' hb => rroot_any wd o la c w' HW.out (T.good.fine (by omega)) T.cap (T.its.below (w' := w') hb)
      have KT := fun w' hb => items_all wd q o [] (-1) w' (by simp) T.good (by omega) (TopAt.below (w := wr) hb T.top)
      have eP : someP [] (-1) o = itemsO o := by
        unfold someP most
        rw [if_pos (by omega)]
        exact List.filter_eq_self.2 fun x _ => rfl
      rw [eP] at KT
      have hol : (itemsO o).length ≤ 100000 := by omega
      have KS := fun sa sc w' (h1 : ItemsAt w' sa (itemsO o)) (h2 : ItemsAt w' la (itemsO o)) => sameItems_any sa la sc c (itemsO o) (itemsO o) w' (by omega) (by omega) h1 h2
      simp only [decide_eq_true rfl] at KS
      clear eP
      generalize rootP wd o = G at *
      go_wp2_with fail
      refine KG.mono ?_
      rintro e wA ⟨rfl, bA⟩
      have TA := T.next bA
      clear t0 t1 zt KG
      have u0 := (TA.u.cell 0).trans rfl
      have u1 := (TA.u.cell 1).trans rfl
      have zu := TA.u.lt
      go_wp2_with fail
      refine (KR _ bA).mono ?_
      rintro e wB ⟨rfl, bB⟩
      have TB := TA.next bB
      have BB := bA.trans (bB.mono bA.size)
      clear u0 u1 zu KR bA bB TA
      have t0 := (TB.t.cell 0).trans rfl
      have t1 := (TB.t.cell 1).trans rfl
      have zt := TB.t.lt
      go_wp2_with fail
      refine (KT _ BB).mono ?_
      rintro e wC ⟨sa, sc, rfl, hiC, bC⟩
      have TC := TB.next bC
      have KS' := KS sa sc wC hiC TC.its
      clear t0 t1 zt KT KS bC BB TB hiC T
      have u1 := (TC.u.cell 1).trans rfl
      have zu := TC.u.lt
      go_wp2_with fail
      refine KS'.mono ?_
      rintro e wD ⟨rfl, bD⟩
      have TD := TC.next bD
      have hfin := TD.below
      clear KS' u1 zu TC bD TD
      go_wp2
      go_ret
      exact ⟨rfl, hfin⟩
end Go.Proofs.YtfjkgglflmakhaaDoor
