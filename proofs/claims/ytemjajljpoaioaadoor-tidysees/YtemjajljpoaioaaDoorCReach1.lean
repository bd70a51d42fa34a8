import Derived.Test.YtemjajljpoaioaaDoorCReach2
namespace Go.Proofs.YtemjajljpoaioaaDoor
open Go.RowKit
set_option linter.unusedVariables false
set_option linter.unusedSimpArgs false
set_option maxRecDepth 20000
set_option maxHeartbeats 8000000
def T1 (ps : List Pc) (xs : List Ins) (U i cb pb hb : Nat) (w : World) (Q : Exit → Act → World → Prop) (c0 c1 c4 c5 c7 c18 c19 c20 c21 c22 c23 c24 c25 c26 c27 c28 c29 c30 c31 c32 c33 c34 c35 c36 c37 c38 c39 c40 c41 c42 c43 c44 c45 c46 c47 c48 c168 c169 : Value) : Prop :=
 ∀ (d11 d12 d13 d14 d15 d16 d17 d49 d50 d51 d52 d53 d54 d55 d56 d57 d58 d59 d60 d61 d62 d63 d64 d65 d66 d67 d68 d69 d70 d71 d72 d73 d74 d75 d76 d77 d78 d79 d80 d81 d82 d83 d84 d85 d86 d87 d88 d89 d90 d91 d92 d93 d94 d95 d96 d97 d98 d99 d100 d101 d102 d103 d104 d105 d106 d107 d108 d109 d110 d111 d112 d113 d114 d115 d116 d117 d118 d119 d120 d121 d122 d123 d124 d125 d126 d127 d128 d129 d130 d131 d132 d133 d134 d135 d136 d137 d138 d139 d140 d141 d142 d143 d144 d145 d146 d147 d148 d149 d150 d151 d152 d153 d154 d155 d156 d157 d158 d159 d160 d161 d162 d163 d164 d165 d166 d167 : Value) (hs2 : List Int) (ok2 ag2 : Bool) (wv : World), RI ps xs hs2 ok2 → (ag2 = false → ok2 = true → PD ps xs hs2 (i + 1)) → unseenN hs2 + (if ag2 = true then 1 else 0) ≤ U → Blk wv hb (ints hs2).toArray 3 → Below hb w wv → Q .normal ⟨#[c0, c1, .pointer (some ⟨cb, 0, none⟩), .pointer (some ⟨pb, 0, none⟩), c4, c5, .slice (some ⟨hb, 0, none⟩) xs.length xs.length, c7, .bool ok2, .bool ag2, .int .i64 i, d11, d12, d13, d14, d15, d16, d17, c18, c19, c20, c21, c22, c23, c24, c25, c26, c27, c28, c29, c30, c31, c32, c33, c34, c35, c36, c37, c38, c39, c40, c41, c42, c43, c44, c45, c46, c47, c48, d49, d50, d51, d52, d53, d54, d55, d56, d57, d58, d59, d60, d61, d62, d63, d64, d65, d66, d67, d68, d69, d70, d71, d72, d73, d74, d75, d76, d77, d78, d79, d80, d81, d82, d83, d84, d85, d86, d87, d88, d89, d90, d91, d92, d93, d94, d95, d96, d97, d98, d99, d100, d101, d102, d103, d104, d105, d106, d107, d108, d109, d110, d111, d112, d113, d114, d115, d116, d117, d118, d119, d120, d121, d122, d123, d124, d125, d126, d127, d128, d129, d130, d131, d132, d133, d134, d135, d136, d137, d138, d139, d140, d141, d142, d143, d144, d145, d146, d147, d148, d149, d150, d151, d152, d153, d154, d155, d156, d157, d158, d159, d160, d161, d162, d163, d164, d165, d166, d167, c168, c169], []⟩ wv
set_option maxRecDepth 10000 in
set_option maxHeartbeats 12800000 in
theorem reach1 (base : Nat) (c : Cd) (nm : ByteArray) (ob : Bool) (pa lo : Int) (bla : Option Addr) (blc : Nat) (xs : List Ins) (U i : Nat) (x : Int) (cb pb hb : Nat) (w : World) (hs : List Int) (ok again : Bool) (K : Act → World → Prop) (Q : Exit → Act → World → Prop) (c0 c1 c4 c5 c7 c11 c12 c13 c14 c15 c16 c17 c18 c19 c20 c21 c22 c23 c24 c25 c26 c27 c28 c29 c30 c31 c32 c33 c34 c35 c36 c37 c38 c39 c40 c41 c42 c43 c44 c45 c46 c47 c48 c49 c50 c51 c52 c53 c54 c55 c56 c57 c58 c59 c60 c61 c62 c63 c64 c65 c66 c67 c68 c69 c70 c71 c72 c73 c74 c75 c76 c77 c78 c79 c80 c81 c82 c83 c84 c85 c86 c87 c88 c89 c90 c91 c92 c93 c94 c95 c96 c97 c98 c99 c100 c101 c102 c103 c104 c105 c106 c107 c108 c109 c110 c111 c112 c113 c114 c115 c116 c117 c118 c119 c120 c121 c122 c123 c124 c125 c126 c127 c128 c129 c130 c131 c132 c133 c134 c135 c136 c137 c138 c139 c140 c141 c142 c143 c144 c145 c146 c147 c148 c149 c150 c151 c152 c153 c154 c155 c156 c157 c158 c159 c160 c161 c162 c163 c164 c165 c166 c167 c168 c169 : Value)
  (E : Env base w c ⟨bla, blc, xs⟩) (hf : ∀ i ∈ xs, fiB c.ps.xs.length c.ns.xs.length xs.length lo i = true) (hp : ∀ q ∈ c.ps.xs, 0 ≤ q.pa ∧ q.pa ≤ 8) (hmax : xs.length ≤ 2048) (hlo : 0 ≤ lo ∧ lo ≤ 32) (hp32 : c.ps.xs.length ≤ 32)
  (kA : Blk w cb #[.slice c.ps.la c.ps.xs.length c.ps.lc, .slice c.ns.la c.ns.xs.length c.ns.lc] 25) (kB : Blk w pb #[.string nm, .bool ob, .int .i64 pa, .int .i64 lo, .slice bla xs.length blc] 34) (kH : Blk w hb (ints hs).toArray 3)
  (R : RI c.ps.xs xs hs ok) (hx : hs[i]? = some x) (h0 : 0 ≤ x) (hil : i < xs.length) (pd : again = false → ok = true → PD c.ps.xs xs hs i) (me : unseenN hs + (if again = true then 1 else 0) ≤ U)
  (hK : ∀ a w, Code.wp Tryd.prog (rest 17) Q a w → K a w) (hN : T1 c.ps.xs xs U i cb pb hb w Q c0 c1 c4 c5 c7 c18 c19 c20 c21 c22 c23 c24 c25 c26 c27 c28 c29 c30 c31 c32 c33 c34 c35 c36 c37 c38 c39 c40 c41 c42 c43 c44 c45 c46 c47 c48 c168 c169) :
  Code.wp Tryd.prog (reg 17) (Exit.then K Q) ⟨#[c0, c1, .pointer (some ⟨cb, 0, none⟩), .pointer (some ⟨pb, 0, none⟩), c4, c5, .slice (some ⟨hb, 0, none⟩) xs.length xs.length, c7, .bool ok, .bool again, .int .i64 i, c11, c12, c13, c14, c15, c16, c17, c18, c19, c20, c21, c22, c23, c24, c25, c26, c27, c28, c29, c30, c31, c32, c33, c34, c35, c36, c37, c38, c39, c40, c41, c42, c43, c44, c45, c46, c47, c48, c49, c50, c51, c52, c53, c54, c55, c56, c57, c58, c59, c60, c61, c62, c63, c64, c65, c66, c67, c68, c69, c70, c71, c72, c73, c74, c75, c76, c77, c78, c79, c80, c81, c82, c83, c84, c85, c86, c87, c88, c89, c90, c91, c92, c93, c94, c95, c96, c97, c98, c99, c100, c101, c102, c103, c104, c105, c106, c107, c108, c109, c110, c111, c112, c113, c114, c115, c116, c117, c118, c119, c120, c121, c122, c123, c124, c125, c126, c127, c128, c129, c130, c131, c132, c133, c134, c135, c136, c137, c138, c139, c140, c141, c142, c143, c144, c145, c146, c147, c148, c149, c150, c151, c152, c153, c154, c155, c156, c157, c158, c159, c160, c161, c162, c163, c164, c165, c166, c167, c168, c169], []⟩ w := by
 obtain ⟨i0, hinf, hz0, hz1, hz2⟩ := info_parts infoInt
 have hx1 : x ≤ 4096 := by
  have := R.high i x hx
  omega
 have hii : (i : Int) < (xs.length : Int) := by omega
 obtain ⟨ins, hi⟩ : ∃ ins, xs[i]? = some ins := ⟨_, List.getElem?_eq_getElem hil⟩
 have hfi := hf ins (List.mem_of_getElem? hi)
 have hT := takes_bounds hfi hp
 obtain ⟨o, ho, h1, h31, ha0, haE, hb0, hbE⟩ := formed_facts hfi
 obtain ⟨op, a, b⟩ := ins
 simp only at ho ha0 haE hb0 hbE
 subst ho
 obtain ⟨an, rfl⟩ := Int.eq_ofNat_of_zero_le ha0
 obtain ⟨rb, ro, ela, hrb, hrz, c0', c1', c2'⟩ := E.ins i _ hi
 simp only at ela c0' c1' c2'
 have HI := show Hid (_ = _) from hi
 have HR : Hid (RI c.ps.xs xs hs ok) := R
 have HX := show Hid (_ = _) from hx
 have HPD : Hid (again = false → ok = true → PD c.ps.xs xs hs i) := pd
 have HME : Hid (unseenN hs + (if again = true then 1 else 0) ≤ U) := me
 have HNN : Hid (T1 c.ps.xs xs U i cb pb hb w Q c0 c1 c4 c5 c7 c18 c19 c20 c21 c22 c23 c24 c25 c26 c27 c28 c29 c30 c31 c32 c33 c34 c35 c36 c37 c38 c39 c40 c41 c42 c43 c44 c45 c46 c47 c48 c168 c169) := hN
 have bX : Below w.heap.size w (w.alloc (.cells #[.int .i64 o, .int .i64 an, .int .i64 b] 31)) := (Below.refl _ _).alloc (Nat.le_refl _) _
 have kX := Blk.new w #[.int .i64 o, .int .i64 an, .int .i64 b] 31
 have EX := E.below (bX.mono E.2.2.1)
 have keyT := table_any base c o bla xs.length blc nm ob pa lo an b _ h1 h31 hlo hmax hp32 EX.2.2.1 EX.2.2.2.1
 have s0 := (kA.below bX kA.lt).cell 0
 have s1 := (kA.below bX kA.lt).cell 1
 have t0 := (kB.below bX kB.lt).cell 0
 have t1 := (kB.below bX kB.lt).cell 1
 have t2 := (kB.below bX kB.lt).cell 2
 have t3 := (kB.below bX kB.lt).cell 3
 have t4 := (kB.below bX kB.lt).cell 4
 have v4 := kB.cell 4
 simp only [List.getElem?_toArray, List.getElem?_cons_succ, List.getElem?_cons_zero] at s0 s1 t0 t1 t2 t3 t4 v4
 have hzA := kA.lt
 have hzB := kB.lt
 have hzH := kH.lt
 have kHX := kH.below bX kH.lt
 rw [ela] at t4 v4 keyT
 clear hi hfi ela R hx pd me hN E EX hf hp
 conv => arg 2; whnf
 conv => arg 4; dsimp only
 go_wp2_with fail
 conv => arg 2; whnf
 conv => arg 4; dsimp only
 go_wp2_with fail
 refine keyT.mono ?_
 rintro e w3 ⟨⟨t, l, rfl, htl⟩, b4⟩
 obtain ⟨rfl, rfl⟩ := htl ha0 haE
 have hL := lv_bounds h31
 have hLV : leavesP ⟨o, an, b⟩ = lv o := by simp [leavesP]
 rw [← hLV] at hL
 have hz3 : w.heap.size < w3.heap.size := Nat.lt_of_lt_of_le kX.lt b4.size
 have b3 : Below hb w w3 := (bX.mono (Nat.le_of_lt hzH)).trans (b4.mono (by simp; omega))
 have kX3 := kX.below b4 kX.lt
 have kH3 := kHX.below b4 kHX.lt
 have r3 := kH3.cell i
 rw [ints_get, HX.out] at r3
 simp only [Option.map_some] at r3
 have x0 := kX3.cell 0
 have x1 := kX3.cell 1
 simp only [List.getElem?_toArray, List.getElem?_cons_succ, List.getElem?_cons_zero] at x0 x1
 have hb3 : hb < w3.heap.size := by omega
 clear keyT s0 s1 t0 t1 t2 t3 t4 v4 c0' c1' c2' htl b4 bX kX kHX hLV kH kA kB hzA hzB
 obtain ⟨T, HT0⟩ : ∃ T, Hid (takesP c.ps.xs ⟨o, an, b⟩ = T) := ⟨_, rfl⟩
 obtain ⟨L, HL0⟩ : ∃ L, Hid (leavesP ⟨o, an, b⟩ = L) := ⟨_, rfl⟩
 rw [HT0.out] at hT ⊢
 rw [HL0.out] at hL ⊢
 by_cases e17 : o = 17
 ·subst e17
  go_upto_region 25 with fail
  skip
  have bE : Below w3.heap.size w3 w3 := Below.refl _ _
  have kXE := kX3.below bE kX3.lt
  have kHE := kH3.below bE kH3.lt
  have qE := kXE.cell 0
  simp only [List.getElem?_toArray, List.getElem?_cons_succ, List.getElem?_cons_zero] at qE
  refine reach2 c.ps.xs xs U i x T L (17 : Nat) an b [] hb w.heap.size 0 w3.heap.size none w3 hs ok again _ Q _ _ _ _ _ _ _ _ _ _ _ _ _ _ _ _ _ _ _ _ _ _ _ _ _ _ _ _ _ _ _ _ _ _ _ _ _ _ _ _ _ _ _ _ _ _ _ _ _ _ _ _ _ _ _ _ _ _ _ _ _ _ _ _ _ _ _ _ _ _ _ _ _ _ _ _ _ _ _ _ _ _ _ _ _ _ _ _ _ _ _ _ _ _ _ _ _ _ _ _ _ _ _ _ _ _ _ _ _ _ _ _ _ _ _ _ _ _ _ _ _ _ _ _ _ _ _ _ _ _ _ _ _ _ _ _ _ _ _ _ _ _ _ _ _ _ _ _ _ _ _ _ _ _ _ _ _ _ _ _ _ _ HT0.out HL0.out hT.1 hL.1 hL.2 h0 HI.out (by intro t ht; simp [goOn] at ht) (by simp) hmax (by omega) HR.out HX.out HPD.out HME.out kHE (World.ownsRow_nil _ _ _ _) qE kXE.lt (by assumption) ?_
  unfold T2
  intro d17 d96 d97 d98 d99 d100 d101 d102 d103 d104 d105 d106 d107 d108 d109 d110 d111 d112 d113 d114 d115 d116 d117 d118 d119 d120 d121 d122 d123 d124 d125 d126 d127 d128 d129 d130 d131 d132 d133 d134 d135 d136 d137 d138 d139 d140 d141 d142 d143 d144 d145 d146 d147 d148 d149 d150 d151 d152 d153 d154 d155 d156 d157 d158 d159 d160 d161 d162 d163 d164 d165 d166 d167 hs2 ok2 ag2 j wv k1 k2 k3 k4
  exact HNN.out _ _ _ _ _ _ d17 _ _ _ _ _ _ _ _ _ _ _ _ _ _ _ _ _ _ _ _ _ _ _ _ _ _ _ _ _ _ _ _ _ _ _ _ _ _ _ _ _ _ _ _ _ _ _ d96 d97 d98 d99 d100 d101 d102 d103 d104 d105 d106 d107 d108 d109 d110 d111 d112 d113 d114 d115 d116 d117 d118 d119 d120 d121 d122 d123 d124 d125 d126 d127 d128 d129 d130 d131 d132 d133 d134 d135 d136 d137 d138 d139 d140 d141 d142 d143 d144 d145 d146 d147 d148 d149 d150 d151 d152 d153 d154 d155 d156 d157 d158 d159 d160 d161 d162 d163 d164 d165 d166 d167 hs2 ok2 ag2 wv k1.ri (k1.finish k2 HI.out (by intro t ht; simp [goOn] at ht) (leaves_nonneg _)) k1.me k3 ((b3.trans (bE.mono (by omega))).trans k4)
 have g17 : ((o : Int) == 17) = false := by simp; omega
 have n17 : ((o : Int) != 17) = true := by simp; omega
 by_cases e14 : o = 14
 ·subst e14
  go_upto_region 25 with (at_builtin; refine wpList_append_lies _ rfl _ _ _ rfl w3.heap.size 3 i0 (.int .i64 0) 1 8 Tryd.underlying37 hinf hz0 hz1 hz2 rfl (by omega) (.slice none 0 0) 0 [] rfl (World.ownsRow_nil _ _ _ _) ⟨w3.heap.size, 0, none⟩ 1 1 [.int .i64 an] rfl rfl (cell_one_new _ _ _) (by intro u hu; simp at hu; subst hu; rfl) (by omega) (by unfold maxLen; omega) (by omega) (by simp <;> omega) (w3.heap.size + 1) (by simp) ?_; intro g cg w4 hown' hgrow hat hlt; have b34 : Below w3.heap.size w3 w4 := ((Below.refl _ _).alloc (Nat.le_refl _) _).grown hgrow (by simp) (fun k e => by simp [Value.ownBlock] at e); have kX4 := kX3.below b34 kX3.lt; have x04 := kX4.cell 0; simp only [List.getElem?_toArray, List.getElem?_cons_zero] at x04; have hz4 := kX4.lt)
  skip
  have bE : Below w3.heap.size w3 w4 := ((Below.refl _ _).alloc (Nat.le_refl _) _).grown hgrow (by simp) (fun k e => by simp [Value.ownBlock] at e)
  have kXE := kX3.below bE kX3.lt
  have kHE := kH3.below bE kH3.lt
  have qE := kXE.cell 0
  simp only [List.getElem?_toArray, List.getElem?_cons_succ, List.getElem?_cons_zero] at qE
  refine reach2 c.ps.xs xs U i x T L (14 : Nat) an b [an] hb w.heap.size cg w3.heap.size (some ⟨g, 0, none⟩) w4 hs ok again _ Q _ _ _ _ _ _ _ _ _ _ _ _ _ _ _ _ _ _ _ _ _ _ _ _ _ _ _ _ _ _ _ _ _ _ _ _ _ _ _ _ _ _ _ _ _ _ _ _ _ _ _ _ _ _ _ _ _ _ _ _ _ _ _ _ _ _ _ _ _ _ _ _ _ _ _ _ _ _ _ _ _ _ _ _ _ _ _ _ _ _ _ _ _ _ _ _ _ _ _ _ _ _ _ _ _ _ _ _ _ _ _ _ _ _ _ _ _ _ _ _ _ _ _ _ _ _ _ _ _ _ _ _ _ _ _ _ _ _ _ _ _ _ _ _ _ _ _ _ _ _ _ _ _ _ _ _ _ _ _ _ _ _ HT0.out HL0.out hT.1 hL.1 hL.2 h0 HI.out (by intro t ht; simpa [goOn] using ht) (by simp) hmax (by omega) HR.out HX.out HPD.out HME.out kHE hown' qE kXE.lt (by assumption) ?_
  unfold T2
  intro d17 d96 d97 d98 d99 d100 d101 d102 d103 d104 d105 d106 d107 d108 d109 d110 d111 d112 d113 d114 d115 d116 d117 d118 d119 d120 d121 d122 d123 d124 d125 d126 d127 d128 d129 d130 d131 d132 d133 d134 d135 d136 d137 d138 d139 d140 d141 d142 d143 d144 d145 d146 d147 d148 d149 d150 d151 d152 d153 d154 d155 d156 d157 d158 d159 d160 d161 d162 d163 d164 d165 d166 d167 hs2 ok2 ag2 j wv k1 k2 k3 k4
  exact HNN.out _ _ _ _ _ _ d17 _ _ _ _ _ _ _ _ _ _ _ _ _ _ _ _ _ _ _ _ _ _ _ _ _ _ _ _ _ _ _ _ _ _ _ _ _ _ _ _ _ _ _ _ _ _ _ d96 d97 d98 d99 d100 d101 d102 d103 d104 d105 d106 d107 d108 d109 d110 d111 d112 d113 d114 d115 d116 d117 d118 d119 d120 d121 d122 d123 d124 d125 d126 d127 d128 d129 d130 d131 d132 d133 d134 d135 d136 d137 d138 d139 d140 d141 d142 d143 d144 d145 d146 d147 d148 d149 d150 d151 d152 d153 d154 d155 d156 d157 d158 d159 d160 d161 d162 d163 d164 d165 d166 d167 hs2 ok2 ag2 wv k1.ri (k1.finish k2 HI.out (by intro t ht; simpa [goOn] using ht) (leaves_nonneg _)) k1.me k3 ((b3.trans (bE.mono (by omega))).trans k4)
 have g14 : ((o : Int) == 14) = false := by simp; omega
 have n14 : ((o : Int) != 14) = true := by simp; omega
 by_cases e15 : o = 15
 ·subst e15
  go_upto_region 25 with (first | (at_builtin; refine wpList_append_lies _ rfl _ _ _ rfl w3.heap.size 3 i0 (.int .i64 0) 1 8 Tryd.underlying37 hinf hz0 hz1 hz2 rfl (by omega) (.slice none 0 0) 0 [] rfl (World.ownsRow_nil _ _ _ _) ⟨w3.heap.size, 0, none⟩ 1 1 [.int .i64 an] rfl rfl (cell_one_new _ _ _) (by intro u hu; simp at hu; subst hu; rfl) (by omega) (by unfold maxLen; omega) (by omega) (by simp <;> omega) (w3.heap.size + 1) (by simp) ?_; intro g cg w4 hown' hgrow hat hlt; have b34 : Below w3.heap.size w3 w4 := ((Below.refl _ _).alloc (Nat.le_refl _) _).grown hgrow (by simp) (fun k e => by simp [Value.ownBlock] at e); have kX4 := kX3.below b34 kX3.lt; have x04 := kX4.cell 0; simp only [List.getElem?_toArray, List.getElem?_cons_zero] at x04; have hz4 := kX4.lt) | (at_builtin; refine wpList_append_lies _ rfl _ _ _ rfl w3.heap.size 3 i0 (.int .i64 0) 1 8 Tryd.underlying37 hinf hz0 hz1 hz2 rfl (by omega) (.slice (some ⟨g, 0, none⟩) (0 + 1) cg) (0 + 1) _ rfl (hown'.alloc _) ⟨w4.heap.size, 0, none⟩ 1 1 [.int .i64 ((i : Int) + 1)] rfl rfl (cell_one_new _ _ _) (by intro u hu; simp at hu; subst hu; rfl) (by omega) (by unfold maxLen; omega) (by omega) (by have := b34.size; simp; omega) (w4.heap.size + 1) (by simp) ?_; intro g2 cg2 w5 hown2 hgrow2 hat2 hlt2))
  skip
  have bE : Below w3.heap.size w3 w5 := (b34.alloc b34.size _).grown hgrow2 (by have := b34.size; simp; omega) (fun k e => (hown'.lt k e).1)
  have kXE := kX3.below bE kX3.lt
  have kHE := kH3.below bE kH3.lt
  have qE := kXE.cell 0
  simp only [List.getElem?_toArray, List.getElem?_cons_succ, List.getElem?_cons_zero] at qE
  refine reach2 c.ps.xs xs U i x T L (15 : Nat) an b [an, i + 1] hb w.heap.size cg2 w3.heap.size (some ⟨g2, 0, none⟩) w5 hs ok again _ Q _ _ _ _ _ _ _ _ _ _ _ _ _ _ _ _ _ _ _ _ _ _ _ _ _ _ _ _ _ _ _ _ _ _ _ _ _ _ _ _ _ _ _ _ _ _ _ _ _ _ _ _ _ _ _ _ _ _ _ _ _ _ _ _ _ _ _ _ _ _ _ _ _ _ _ _ _ _ _ _ _ _ _ _ _ _ _ _ _ _ _ _ _ _ _ _ _ _ _ _ _ _ _ _ _ _ _ _ _ _ _ _ _ _ _ _ _ _ _ _ _ _ _ _ _ _ _ _ _ _ _ _ _ _ _ _ _ _ _ _ _ _ _ _ _ _ _ _ _ _ _ _ _ _ _ _ _ _ _ _ _ _ HT0.out HL0.out hT.1 hL.1 hL.2 h0 HI.out (by intro t ht; simpa [goOn, or_comm] using ht) (by simp) hmax (by omega) HR.out HX.out HPD.out HME.out kHE (by simpa [nats] using hown2) qE kXE.lt (by assumption) ?_
  unfold T2
  intro d17 d96 d97 d98 d99 d100 d101 d102 d103 d104 d105 d106 d107 d108 d109 d110 d111 d112 d113 d114 d115 d116 d117 d118 d119 d120 d121 d122 d123 d124 d125 d126 d127 d128 d129 d130 d131 d132 d133 d134 d135 d136 d137 d138 d139 d140 d141 d142 d143 d144 d145 d146 d147 d148 d149 d150 d151 d152 d153 d154 d155 d156 d157 d158 d159 d160 d161 d162 d163 d164 d165 d166 d167 hs2 ok2 ag2 j wv k1 k2 k3 k4
  exact HNN.out _ _ _ _ _ _ d17 _ _ _ _ _ _ _ _ _ _ _ _ _ _ _ _ _ _ _ _ _ _ _ _ _ _ _ _ _ _ _ _ _ _ _ _ _ _ _ _ _ _ _ _ _ _ _ d96 d97 d98 d99 d100 d101 d102 d103 d104 d105 d106 d107 d108 d109 d110 d111 d112 d113 d114 d115 d116 d117 d118 d119 d120 d121 d122 d123 d124 d125 d126 d127 d128 d129 d130 d131 d132 d133 d134 d135 d136 d137 d138 d139 d140 d141 d142 d143 d144 d145 d146 d147 d148 d149 d150 d151 d152 d153 d154 d155 d156 d157 d158 d159 d160 d161 d162 d163 d164 d165 d166 d167 hs2 ok2 ag2 wv k1.ri (k1.finish k2 HI.out (by intro t ht; simpa [goOn, or_comm] using ht) (leaves_nonneg _)) k1.me k3 ((b3.trans (bE.mono (by omega))).trans k4)
 have g15 : ((o : Int) == 15) = false := by simp; omega
 go_upto_region 25 with (at_builtin; refine wpList_append_lies _ rfl _ _ _ rfl w3.heap.size 3 i0 (.int .i64 0) 1 8 Tryd.underlying37 hinf hz0 hz1 hz2 rfl (by omega) (.slice none 0 0) 0 [] rfl (World.ownsRow_nil _ _ _ _) ⟨w3.heap.size, 0, none⟩ 1 1 [.int .i64 ((i : Int) + 1)] rfl rfl (cell_one_new _ _ _) (by intro u hu; simp at hu; subst hu; rfl) (by omega) (by unfold maxLen; omega) (by omega) (by simp <;> omega) (w3.heap.size + 1) (by simp) ?_; intro g cg w4 hown' hgrow hat hlt)
 skip
 have bE : Below w3.heap.size w3 w4 := ((Below.refl _ _).alloc (Nat.le_refl _) _).grown hgrow (by simp) (fun k e => by simp [Value.ownBlock] at e)
 have kXE := kX3.below bE kX3.lt
 have kHE := kH3.below bE kH3.lt
 have qE := kXE.cell 0
 simp only [List.getElem?_toArray, List.getElem?_cons_succ, List.getElem?_cons_zero] at qE
 refine reach2 c.ps.xs xs U i x T L o an b [i + 1] hb w.heap.size cg w3.heap.size (some ⟨g, 0, none⟩) w4 hs ok again _ Q _ _ _ _ _ _ _ _ _ _ _ _ _ _ _ _ _ _ _ _ _ _ _ _ _ _ _ _ _ _ _ _ _ _ _ _ _ _ _ _ _ _ _ _ _ _ _ _ _ _ _ _ _ _ _ _ _ _ _ _ _ _ _ _ _ _ _ _ _ _ _ _ _ _ _ _ _ _ _ _ _ _ _ _ _ _ _ _ _ _ _ _ _ _ _ _ _ _ _ _ _ _ _ _ _ _ _ _ _ _ _ _ _ _ _ _ _ _ _ _ _ _ _ _ _ _ _ _ _ _ _ _ _ _ _ _ _ _ _ _ _ _ _ _ _ _ _ _ _ _ _ _ _ _ _ _ _ _ _ _ _ _ HT0.out HL0.out hT.1 hL.1 hL.2 h0 HI.out (by intro t ht; simpa [goOn, show ¬ (o : Int) = 17 by omega, show ¬ (o : Int) = 14 by omega, show ¬ (o : Int) = 15 by omega] using ht) (by simp) hmax (by omega) HR.out HX.out HPD.out HME.out kHE (by simpa [nats] using hown') qE kXE.lt (by assumption) ?_
 unfold T2
 intro d17 d96 d97 d98 d99 d100 d101 d102 d103 d104 d105 d106 d107 d108 d109 d110 d111 d112 d113 d114 d115 d116 d117 d118 d119 d120 d121 d122 d123 d124 d125 d126 d127 d128 d129 d130 d131 d132 d133 d134 d135 d136 d137 d138 d139 d140 d141 d142 d143 d144 d145 d146 d147 d148 d149 d150 d151 d152 d153 d154 d155 d156 d157 d158 d159 d160 d161 d162 d163 d164 d165 d166 d167 hs2 ok2 ag2 j wv k1 k2 k3 k4
 exact HNN.out _ _ _ _ _ _ d17 _ _ _ _ _ _ _ _ _ _ _ _ _ _ _ _ _ _ _ _ _ _ _ _ _ _ _ _ _ _ _ _ _ _ _ _ _ _ _ _ _ _ _ _ _ _ _ d96 d97 d98 d99 d100 d101 d102 d103 d104 d105 d106 d107 d108 d109 d110 d111 d112 d113 d114 d115 d116 d117 d118 d119 d120 d121 d122 d123 d124 d125 d126 d127 d128 d129 d130 d131 d132 d133 d134 d135 d136 d137 d138 d139 d140 d141 d142 d143 d144 d145 d146 d147 d148 d149 d150 d151 d152 d153 d154 d155 d156 d157 d158 d159 d160 d161 d162 d163 d164 d165 d166 d167 hs2 ok2 ag2 wv k1.ri (k1.finish k2 HI.out (by intro t ht; simpa [goOn, show ¬ (o : Int) = 17 by omega, show ¬ (o : Int) = 14 by omega, show ¬ (o : Int) = 15 by omega] using ht) (leaves_nonneg _)) k1.me k3 ((b3.trans (bE.mono (by omega))).trans k4)
end Go.Proofs.YtemjajljpoaioaaDoor
