import Derived.Test.YtemjajljpoaioaaDoorCReach1
namespace Go.Proofs.YtemjajljpoaioaaDoor
open Go.RowKit
set_option linter.unusedVariables false
set_option linter.unusedSimpArgs false
set_option maxRecDepth 20000
set_option maxHeartbeats 8000000
def RcQ (ps : List Pc) (xs : List Ins) (w w' : World) (v : Value) : Prop := Good ps xs → ∃ g hs, v = .slice (some ⟨g, 0, none⟩) xs.length xs.length ∧ Blk w' g (ints hs).toArray 3 ∧ w.heap.size ≤ g ∧ hs.length = xs.length ∧ ∀ (k : Nat) (h : Int), Rch ps xs k h → hs[k]? = some h
theorem PD.all {ps : List Pc} {xs : List Ins} {hs : List Int} {ok : Bool} (R : RI ps xs hs ok) (pd : PD ps xs hs xs.length) : hs.length = xs.length ∧ ∀ (k : Nat) (h : Int), Rch ps xs k h → hs[k]? = some h := by
 have key : ∀ k h, Rch ps xs k h → hs[k]? = some h ∧ 0 ≤ h := by
  intro k h r
  induction r with
  | start => exact ⟨R.zero, by omega⟩
  | @step k h i t r hi ht ih =>
   have hl := (List.getElem?_eq_some_iff.1 ih.1).1
   exact ((pd k h (by rw [← R.len]; exact hl) ih.1 ih.2).2 _ hi).2.2 _ ht
 exact ⟨R.len, fun k h r => (key k h r).1⟩
set_option maxRecDepth 4000 in
set_option maxHeartbeats 12800000 in
theorem reached_any (base : Nat) (c : Cd) (p : Pc) (w : World) (E : Env base w c p.bd) (hf : ∀ i ∈ p.bd.xs, fiB c.ps.xs.length c.ns.xs.length p.bd.xs.length p.lo i = true) (hp : ∀ q ∈ c.ps.xs, 0 ≤ q.pa ∧ q.pa ≤ 8) (hmax : p.bd.xs.length ≤ 2048) (hlo : 0 ≤ p.lo ∧ p.lo ≤ 32) (hp32 : c.ps.xs.length ≤ 32) :
  Calls Tryd.prog 8 #[.agg #[.slice c.ps.la c.ps.xs.length c.ps.lc, .slice c.ns.la c.ns.xs.length c.ns.lc], .agg #[.string ⟨p.nm.toArray⟩, .bool p.open_, .int .i64 p.pa, .int .i64 p.lo, .slice p.bd.la p.bd.xs.length p.bd.lc]] w fun e w' => (∃ v, e = .returned (.tuple #[v, .bool (goodB c.ps.xs p.bd.xs)]) ∧ RcQ c.ps.xs p.bd.xs w w' v) ∧ Below w.heap.size w w' := by
 obtain ⟨nm, ob, pa, lo, bla, blc, xs⟩ := p
 simp only at E hf hmax hlo ⊢
 obtain ⟨i0, hinf, hz0, hz1, hz2⟩ := info_parts infoInt
 have bA : Below w.heap.size w (w.alloc (.cells #[.slice c.ps.la c.ps.xs.length c.ps.lc, .slice c.ns.la c.ns.xs.length c.ns.lc] 25)) := (Below.refl _ _).alloc (Nat.le_refl _) _
 have bB := bA.alloc (o := .cells #[.string ⟨nm.toArray⟩, .bool ob, .int .i64 pa, .int .i64 lo, .slice bla xs.length blc] 34) bA.size
 have kA := (Blk.new w #[.slice c.ps.la c.ps.xs.length c.ps.lc, .slice c.ns.la c.ns.xs.length c.ns.lc] 25).alloc (.cells #[.string ⟨nm.toArray⟩, .bool ob, .int .i64 pa, .int .i64 lo, .slice bla xs.length blc] 34)
 have kB := Blk.new (w.alloc (.cells #[.slice c.ps.la c.ps.xs.length c.ps.lc, .slice c.ns.la c.ns.xs.length c.ns.lc] 25)) #[.string ⟨nm.toArray⟩, .bool ob, .int .i64 pa, .int .i64 lo, .slice bla xs.length blc] 34
 simp only [World.size_alloc] at kB
 have hsz : ((w.alloc (.cells #[.slice c.ps.la c.ps.xs.length c.ps.lc, .slice c.ns.la c.ns.xs.length c.ns.lc] 25)).alloc (.cells #[.string ⟨nm.toArray⟩, .bool ob, .int .i64 pa, .int .i64 lo, .slice bla xs.length blc] 34)).heap.size = w.heap.size + 2 := by simp
 have hmk := make_ints xs.length hmax
 have EE : Hid (∀ y : World, Below w.heap.size w y → Env w.heap.size y c ⟨bla, blc, xs⟩) := fun y hy => by
  have e1 := E.below (hy.mono E.2.2.1)
  exact ⟨e1.1, Nat.lt_of_lt_of_le E.2.1 E.2.2.1, hy.size, Lst.held Pc.len (Fld.good_mono E.2.2.1 _ (Lst.good Pc.len e1.2.2.2.1)), Lst.held Ins.len (Fld.good_mono E.2.2.1 _ (Lst.good Ins.len e1.2.2.2.2))⟩
 have HFF := show Hid (∀ i ∈ xs, _) from hf
 have HPP := show Hid (∀ q ∈ c.ps.xs, _) from hp
 clear bA E hf hp
 go_enter Tryd.func8, Tryd.ntmps8
 go_upto_region 1 with fail
 generalize hWA : ((w.alloc (.cells #[.slice c.ps.la c.ps.xs.length c.ps.lc, .slice c.ns.la c.ns.xs.length c.ns.lc] 25)).alloc (.cells #[.string ⟨nm.toArray⟩, .bool ob, .int .i64 pa, .int .i64 lo, .slice bla xs.length blc] 34)) = wA at *
 clear hWA
 have q4 := kB.cell 4
 simp only [List.getElem?_toArray, List.getElem?_cons_succ, List.getElem?_cons_zero] at q4
 have hzB := kB.lt
 have kH0 := Blk.new wA (ints (List.replicate xs.length 0)).toArray 3
 rw [hsz] at kH0
 have bC : Below (w.heap.size + 2) wA (wA.alloc (.cells (ints (List.replicate xs.length 0)).toArray 3)) := (Below.refl _ _).alloc (by omega) _
 go_wp2_with fail
 generalize (wA.alloc (.cells (ints (List.replicate xs.length 0)).toArray 3)) = wB at *
 rw [← part_zero] at kH0
 clear q4 hmk
 go_loopw [7] (fun iv wv => ∃ (k : Nat), k ≤ xs.length ∧ iv = .int .i64 k ∧ Blk wv (w.heap.size + 2) (ints (part k xs.length)).toArray 3 ∧ Below (w.heap.size + 2) wA wv) (fun iv _ => xs.length - (intOf iv).toNat)
 case atStart => exact ⟨0, Nat.zero_le _, rfl, kH0, bC⟩
 case round =>
  obtain ⟨k, hk, rfl, kH, bk⟩ := hrel
  clear kH0 bC
  by_cases hkn : k < xs.length
  ·have hki : (k : Int) < (xs.length : Int) := by omega
   obtain ⟨x, hx⟩ : ∃ x, (part k xs.length)[k]? = some x := ⟨_, List.getElem?_eq_getElem (by rw [part_len _ _ hk]; exact hkn)⟩
   have r := kH.cell k
   rw [ints_get, hx] at r
   simp only [Option.map_some] at r
   have rf := kH.frozen k
   have kH1 := kH.set k (.int .i64 (-1))
   rw [ints_set, part_set k _ hkn] at kH1
   have b1 := bk.setCell (p := ⟨w.heap.size + 2, k, none⟩) (by simp) (.int .i64 (-1))
   have hzh := kH.lt
   have HX := show Hid (_ = _) from hx
   clear hx
   go_wp2
   exact ⟨⟨k + 1, by omega, by go_num, kH1, b1⟩, by simp [intOf]; omega⟩
  have hki : ¬ (k : Int) < (xs.length : Int) := by omega
  obtain rfl : k = xs.length := by omega
  rw [part_all] at kH
  by_cases hn0 : xs.length = 0
  ·have HB : Hid (goodB c.ps.xs xs = false) := goodB_false (not_good_far .start (by omega))
   have hn1 : ((xs.length : Int) == 0) = true := by simp; exact List.eq_nil_of_length_eq_zero hn0
   have HN0 := show Hid (_ = _) from hn0
   clear hn0 kH
   go_wp2
   go_ret2
   exact ⟨⟨_, by rw [HB.out]; rfl, fun G => by have := goodB_true G; rw [HB.out] at this; cases this⟩, bB.trans (bk.mono (by omega))⟩
  have hn1 : ((xs.length : Int) == 0) = false := by simp; intro e; exact hn0 (by rw [e]; rfl)
  have hpos : 0 < xs.length := by omega
  have r := kH.cell 0
  rw [ints_get] at r
  have hr0 : (List.replicate xs.length (-1 : Int))[0]? = some (-1) := by rw [List.getElem?_replicate]; simp [hpos]
  rw [hr0] at r
  simp only [Option.map_some] at r
  have rf := kH.frozen 0
  have hzh := kH.lt
  have kH1 := kH.set 0 (.int .i64 0)
  rw [ints_set] at kH1
  have b1 := bk.setCell (p := ⟨w.heap.size + 2, 0, none⟩) (by simp) (.int .i64 0)
  have hpi : (0 : Int) < (xs.length : Int) := by omega
  have R1 : Hid (RI c.ps.xs xs ((List.replicate xs.length (-1)).set 0 0) true) := RI.start hpos
  clear hr0 hki hn0
  generalize wr = wq at *
  go_wp2_with fail
  go_loopw [8, 9] (fun okv agv wv => ∃ (hs : List Int) (ok again : Bool), okv = .bool ok ∧ agv = .bool again ∧ Hid (RI c.ps.xs xs hs ok) ∧ Hid (again = false → ok = true → PD c.ps.xs xs hs xs.length) ∧ Blk wv (w.heap.size + 2) (ints hs).toArray 3 ∧ Below (w.heap.size + 2) wA wv) (fun _ agv wv => 2 * unseenN (hsOf wv (w.heap.size + 2)) + boolN agv)
  case atStart => exact ⟨_, true, true, rfl, rfl, R1, fun h => by simp at h, kH1, b1⟩
  case round =>
   obtain ⟨hs, ok, again, rfl, rfl, HR, HPD, kH2, b2⟩ := hrel
   clear kH1 b1 r rf hzh kH bk R1
   cases again
   ·have HB : Hid (goodB c.ps.xs xs = ok) := RI.good HR.out (HPD.out rfl)
    have HQ : Hid (Good c.ps.xs xs → hs.length = xs.length ∧ ∀ (k : Nat) (h : Int), Rch c.ps.xs xs k h → hs[k]? = some h) := fun G => PD.all HR.out (HPD.out rfl (by rw [← HB.out]; exact goodB_true G))
    have HK : Hid (Blk wr (w.heap.size + 2) (ints hs).toArray 3) := kH2
    clear HR HPD kH2
    go_wp2
    go_ret2
    exact ⟨⟨.slice (some ⟨w.heap.size + 2, 0, none⟩) xs.length xs.length, by rw [HB.out]; rfl, fun G => ⟨w.heap.size + 2, hs, rfl, HK.out, by omega, HQ.out G⟩⟩, bB.trans (b2.mono (by omega))⟩
   ·have HU : Hid (hsOf wr (w.heap.size + 2) = hs) := hsOf_blk kH2
    have bw2 : Below w.heap.size w wr := bB.trans (b2.mono (by omega))
    generalize wr = w2 at *
    go_wp2_with fail
    go_loopw [8, 9, 10] (fun okv agv iv wv => ∃ (i : Nat) (hs' : List Int) (ok' again' : Bool), i ≤ xs.length ∧ okv = .bool ok' ∧ agv = .bool again' ∧ iv = .int .i64 i ∧ Hid (RI c.ps.xs xs hs' ok') ∧ Hid (again' = false → ok' = true → PD c.ps.xs xs hs' i) ∧ Hid (unseenN hs' + (if again' = true then 1 else 0) ≤ unseenN hs) ∧ Blk wv (w.heap.size + 2) (ints hs').toArray 3 ∧ Below (w.heap.size + 2) wA wv) (fun _ _ iv _ => xs.length - (intOf iv).toNat)
    case atStart => exact ⟨0, hs, ok, false, Nat.zero_le _, rfl, rfl, rfl, HR, (fun _ _ k h hk => by omega), (by show _ ≤ _; simp), kH2, b2⟩
    case round =>
     obtain ⟨i, hs', ok', again', hil, rfl, rfl, rfl, HR', HPD', HME, kH3, b3⟩ := hrel
     clear kH2 b2 HR HPD bw2
     by_cases hin : i < xs.length
     rotate_left
     ·have hii : ¬ (i : Int) < (xs.length : Int) := by omega
      have HU' : Hid (hsOf wr (w.heap.size + 2) = hs') := hsOf_blk kH3
      obtain rfl : i = xs.length := by omega
      go_wp2
      refine ⟨⟨hs', ok', again', rfl, rfl, HR', HPD', kH3, b3⟩, ?_⟩
      rw [HU'.out, HU.out]
      have := HME.out
      cases again' <;> simp [boolN] at this ⊢ <;> omega
     have hii : (i : Int) < (xs.length : Int) := by omega
     obtain ⟨x, hx⟩ : ∃ x, hs'[i]? = some x := ⟨_, List.getElem?_eq_getElem (by rw [HR'.out.len]; exact hin)⟩
     have r := kH3.cell i
     rw [ints_get, hx] at r
     simp only [Option.map_some] at r
     have hzh := kH3.lt
     have HX := show Hid (_ = _) from hx
     clear hx
     by_cases hx0 : x < 0
     ·have d0 := decide_eq_true hx0
      have HN : Hid (again' = false → ok' = true → PD c.ps.xs xs hs' (i + 1)) := fun a h => (HPD'.out a h).skip HX.out hx0
      clear HPD'
      go_wp2
      exact ⟨⟨i + 1, hs', ok', again', by omega, rfl, rfl, by go_num, HR', HN, HME, kH3, b3⟩, by simp [intOf]; omega⟩
     have d0 := decide_eq_false hx0
     have bw3 : Below w.heap.size w wr := bB.trans (b3.mono (by omega))
     have hx00 : 0 ≤ x := by omega
     go_upto_region 17 with fail
     refine reach1 w.heap.size c ⟨nm.toArray⟩ ob pa lo bla blc xs (unseenN hs) i x w.heap.size (w.heap.size + 1) (w.heap.size + 2) wr hs' ok' again' _ _ _ _ _ _ _ _ _ _ _ _ _ _ _ _ _ _ _ _ _ _ _ _ _ _ _ _ _ _ _ _ _ _ _ _ _ _ _ _ _ _ _ _ _ _ _ _ _ _ _ _ _ _ _ _ _ _ _ _ _ _ _ _ _ _ _ _ _ _ _ _ _ _ _ _ _ _ _ _ _ _ _ _ _ _ _ _ _ _ _ _ _ _ _ _ _ _ _ _ _ _ _ _ _ _ _ _ _ _ _ _ _ _ _ _ _ _ _ _ _ _ _ _ _ _ _ _ _ _ _ _ _ _ _ _ _ _ _ _ _ _ _ _ _ _ _ _ _ _ _ _ _ _ _ _ _ _ _ _ _ _ _ _ _ _ (EE.out wr bw3) HFF.out HPP.out hmax hlo hp32 (kA.below b3 (by omega)) (kB.below b3 (by omega)) kH3 HR'.out HX.out hx00 hin HPD'.out HME.out (by assumption) ?_
     unfold T1
     intro d11 d12 d13 d14 d15 d16 d17 d49 d50 d51 d52 d53 d54 d55 d56 d57 d58 d59 d60 d61 d62 d63 d64 d65 d66 d67 d68 d69 d70 d71 d72 d73 d74 d75 d76 d77 d78 d79 d80 d81 d82 d83 d84 d85 d86 d87 d88 d89 d90 d91 d92 d93 d94 d95 d96 d97 d98 d99 d100 d101 d102 d103 d104 d105 d106 d107 d108 d109 d110 d111 d112 d113 d114 d115 d116 d117 d118 d119 d120 d121 d122 d123 d124 d125 d126 d127 d128 d129 d130 d131 d132 d133 d134 d135 d136 d137 d138 d139 d140 d141 d142 d143 d144 d145 d146 d147 d148 d149 d150 d151 d152 d153 d154 d155 d156 d157 d158 d159 d160 d161 d162 d163 d164 d165 d166 d167 hs2 ok2 ag2 wv k1 k2 k3 k4 k5
     have HK1 : Hid (RI c.ps.xs xs hs2 ok2) := k1
     have HK2 : Hid (ag2 = false → ok2 = true → PD c.ps.xs xs hs2 (i + 1)) := k2
     have HK3 : Hid (unseenN hs2 + (if ag2 = true then 1 else 0) ≤ unseenN hs) := k3
     have b5 := b3.trans k5
     clear k1 k2 k3 HR' HPD' HME kH3 r hzh b3 bw3 EE HFF HPP
     simp only [Exit.inBlock, Exit.then]
     go_wp2
     exact ⟨⟨i + 1, hs2, ok2, ag2, by omega, rfl, rfl, by go_num, HK1, HK2, HK3, k4, b5⟩, by simp [intOf]; omega⟩
set_option maxHeartbeats 3200000 in
theorem rflows_any (base : Nat) (c : Cd) (p : Pc) (w : World) (E : Env base w c p.bd) (hf : ∀ i ∈ p.bd.xs, fiB c.ps.xs.length c.ns.xs.length p.bd.xs.length p.lo i = true) (hp : ∀ q ∈ c.ps.xs, 0 ≤ q.pa ∧ q.pa ≤ 8) (hmax : p.bd.xs.length ≤ 2048) (hlo : 0 ≤ p.lo ∧ p.lo ≤ 32) (hp32 : c.ps.xs.length ≤ 32) :
  Calls Tryd.prog 15 #[.agg #[.slice c.ps.la c.ps.xs.length c.ps.lc, .slice c.ns.la c.ns.xs.length c.ns.lc], .agg #[.string ⟨p.nm.toArray⟩, .bool p.open_, .int .i64 p.pa, .int .i64 p.lo, .slice p.bd.la p.bd.xs.length p.bd.lc]] w fun e w' => e = .returned (.bool (goodB c.ps.xs p.bd.xs)) ∧ Below w.heap.size w w' := by
 have bA : Below w.heap.size w (w.alloc (.cells #[.slice c.ps.la c.ps.xs.length c.ps.lc, .slice c.ns.la c.ns.xs.length c.ns.lc] 25)) := (Below.refl _ _).alloc (Nat.le_refl _) _
 have bB := bA.alloc (o := .cells #[.string ⟨p.nm.toArray⟩, .bool p.open_, .int .i64 p.pa, .int .i64 p.lo, .slice p.bd.la p.bd.xs.length p.bd.lc] 34) bA.size
 have key := reached_any base c p _ (E.below (bB.mono E.2.2.1)) hf hp hmax hlo hp32
 clear bA E hf hp
 go_enter Tryd.func15, Tryd.ntmps15
 go_wp2_with fail
 refine key.mono ?_
 rintro e w1 ⟨⟨v, rfl, _⟩, b1⟩
 have B1 := bB.trans (b1.mono bB.size)
 clear key
 go_wp2
 go_ret
 exact ⟨rfl, B1⟩
end Go.Proofs.YtemjajljpoaioaaDoor
