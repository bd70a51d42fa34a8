/- TrieExact: what the law asks of both trees (5). -/
import Derived.Test.YtfjkgglflmakhaaDoorM44
import Derived.Deep.RegionHeld3
import Derived.Deep.CutBlock
import Derived.Deep.DeepCutAuto
namespace Go.Proofs.YtfjkgglflmakhaaDoor
open Go.RowKit
set_option linter.unusedVariables false
set_option linter.unusedSimpArgs false

set_option maxRecDepth 20000 in
set_option maxHeartbeats 12800000 in
theorem sw5 (w : World) (tb ub sb xb ob : Nat) (wd wx : Int) (q qx q2 la2 : Option Addr) (c2 : Nat) (o : Option Tr) (x : Sz) (w7 : World) (K : Act → World → Prop) (Q : Exit → Act → World → Prop) (z1 z2 z3 z4 z7 z10 z11 z12 z15 z16 z17 z18 z19 z20 z21 z22 z23 z24 z25 z26 z27 z28 z29 z30 z31 z32 z33 z34 z35 z36 z37 z38 z39 z40 z41 z42 z43 z44 z45 z46 z47 z48 z49 z50 z51 z52 z53 z54 z55 z56 z57 z58 z59 z60 z61 z62 z63 z64 z65 z66 z67 z68 z69 z70 z71 z72 z73 z74 z75 z76 z77 z78 z79 z80 z81 z82 z83 z84 z85 z86 z87 z89 z90 z91 z92 z93 z94 z95 z96 z97 z98 z99 z100 z101 z102 z103 z104 z105 z106 z107 z108 z109 z110 z111 z112 z113 z114 z115 z116 z117 z118 z119 z120 z121 z122 z123 z124 z125 z126 z127 z128 z129 z130 z131 z132 z133 z134 z135 z136 z137 z138 z139 z140 z141 z142 z143 z144 z145 z146 z147 z148 z149 z150 z151 z152 z153 z154 z155 z156 z157 z158 z159 z160 z161 z162 z163 z164 z165 z166 z167 z168 z169 z170 z171 z172 z173 z174 z175 z176 z177 z178 z179 z180 z181 z182 z183 z184 z185 z186 z187 z188 z189 z190 z191 z192 z193 z194 z195 z196 z197 z198 z199 z200 z201 z202 z203 z204 z205 z206 z207 z208 z209 z210 z211 z212 z213 z214 z215 z216 z217 z218 z219 z220 z221 z222 z223 z224 z225 z226 z227 z228 z229 z230 z231 z232 z233 z234 z235 z236 z237 z238 z239 z240 z241 z242 z243 : Value)
    (T : TE w tb ub wd q2 la2 c2 (stepO x.key x.val o) w7) (kS : Blk w7 sb #[.int .i64 x.k, .int .i64 x.a, .int .i64 x.b, .int .i64 x.c, .int .i64 x.n, .string (str x.key), .string (str x.val)] 33) (kX : Blk w7 xb #[.int .i64 wx, .pointer qx] 27) (kO : Blk w7 ob #[.int .i64 wd, .pointer q] 27) (hTo : TopAt wd w7 (.pointer q) o) (HGoO : Hid (Good o)) (HW : Hid (okW wd)) (hI : x.In) (hgl : (itemsO (stepO x.key x.val o)).length ≤ 100000) (hxk : x.key.length ≤ 65536) (hts1 : tb < sb) (hts2 : ub < sb) (hsx : sb < xb) (hxo : xb < ob)
    (hK : ∀ (u15 u16 u17 u18 u19 u20 u21 u22 u23 u24 u25 u26 u27 u28 u29 u30 u31 u32 u33 u34 u35 u89 u90 u91 u92 u93 u94 u95 u96 u97 u98 u99 u100 u101 u102 u103 u104 u105 u106 u107 u108 u109 u110 u111 u112 u113 u114 u115 u116 u117 u118 u119 u120 u121 u122 u123 u124 u125 u126 u127 u128 u129 u130 u131 u132 u133 u134 u135 u136 u137 u138 u139 u140 u141 u142 u143 u144 u145 u146 u147 u148 u149 u150 u151 u152 u153 u154 u155 u156 u157 u158 u159 u160 u161 u162 u163 u164 u165 u166 u167 u168 u169 u170 u171 u172 u173 u174 u175 u176 u177 u178 u179 u180 u181 u182 u183 u184 u185 u186 u187 u188 u189 u190 u191 u192 u193 u194 u195 u196 u197 u198 u199 u200 u201 u202 u203 u204 u205 u206 u207 u208 u209 u210 u211 u212 u213 u214 u215 u216 u217 u218 u219 u220 u221 u222 u223 u224 u225 : Value) (wz : World), (∃ q2 la2 c2, TE w tb ub wd q2 la2 c2 (stepO x.key x.val o) wz) → K ⟨#[.int .i64 wd, z1, z2, z3, z4, .pointer (some ⟨tb, 0, none⟩), .pointer (some ⟨ub, 0, none⟩), z7, .pointer (some ⟨sb, 0, none⟩), .pointer (some ⟨xb, 0, none⟩), z10, z11, z12, .pointer (some ⟨ob, 0, none⟩), .bool true, u15, u16, u17, u18, u19, u20, u21, u22, u23, u24, u25, u26, u27, u28, u29, u30, u31, u32, u33, u34, u35, z36, z37, z38, z39, z40, z41, z42, z43, z44, z45, z46, z47, z48, z49, z50, z51, z52, z53, z54, z55, z56, z57, z58, z59, z60, z61, z62, z63, z64, z65, z66, z67, z68, z69, z70, z71, z72, z73, z74, z75, z76, z77, z78, z79, z80, z81, z82, z83, z84, z85, z86, z87, .int .i64 5, u89, u90, u91, u92, u93, u94, u95, u96, u97, u98, u99, u100, u101, u102, u103, u104, u105, u106, u107, u108, u109, u110, u111, u112, u113, u114, u115, u116, u117, u118, u119, u120, u121, u122, u123, u124, u125, u126, u127, u128, u129, u130, u131, u132, u133, u134, u135, u136, u137, u138, u139, u140, u141, u142, u143, u144, u145, u146, u147, u148, u149, u150, u151, u152, u153, u154, u155, u156, u157, u158, u159, u160, u161, u162, u163, u164, u165, u166, u167, u168, u169, u170, u171, u172, u173, u174, u175, u176, u177, u178, u179, u180, u181, u182, u183, u184, u185, u186, u187, u188, u189, u190, u191, u192, u193, u194, u195, u196, u197, u198, u199, u200, u201, u202, u203, u204, u205, u206, u207, u208, u209, u210, u211, u212, u213, u214, u215, u216, u217, u218, u219, u220, u221, u222, u223, u224, u225, z226, z227, z228, z229, z230, z231, z232, z233, z234, z235, z236, z237, z238, z239, z240, z241, z242, z243], []⟩ wz) :
    Code.wp Tryd.prog blk2 (Exit.then K Q) ⟨#[.int .i64 wd, z1, z2, z3, z4, .pointer (some ⟨tb, 0, none⟩), .pointer (some ⟨ub, 0, none⟩), z7, .pointer (some ⟨sb, 0, none⟩), .pointer (some ⟨xb, 0, none⟩), z10, z11, z12, .pointer (some ⟨ob, 0, none⟩), .bool true, z15, z16, z17, z18, z19, z20, z21, z22, z23, z24, z25, z26, z27, z28, z29, z30, z31, z32, z33, z34, z35, z36, z37, z38, z39, z40, z41, z42, z43, z44, z45, z46, z47, z48, z49, z50, z51, z52, z53, z54, z55, z56, z57, z58, z59, z60, z61, z62, z63, z64, z65, z66, z67, z68, z69, z70, z71, z72, z73, z74, z75, z76, z77, z78, z79, z80, z81, z82, z83, z84, z85, z86, z87, .int .i64 5, z89, z90, z91, z92, z93, z94, z95, z96, z97, z98, z99, z100, z101, z102, z103, z104, z105, z106, z107, z108, z109, z110, z111, z112, z113, z114, z115, z116, z117, z118, z119, z120, z121, z122, z123, z124, z125, z126, z127, z128, z129, z130, z131, z132, z133, z134, z135, z136, z137, z138, z139, z140, z141, z142, z143, z144, z145, z146, z147, z148, z149, z150, z151, z152, z153, z154, z155, z156, z157, z158, z159, z160, z161, z162, z163, z164, z165, z166, z167, z168, z169, z170, z171, z172, z173, z174, z175, z176, z177, z178, z179, z180, z181, z182, z183, z184, z185, z186, z187, z188, z189, z190, z191, z192, z193, z194, z195, z196, z197, z198, z199, z200, z201, z202, z203, z204, z205, z206, z207, z208, z209, z210, z211, z212, z213, z214, z215, z216, z217, z218, z219, z220, z221, z222, z223, z224, z225, z226, z227, z228, z229, z230, z231, z232, z233, z234, z235, z236, z237, z238, z239, z240, z241, z242, z243], []⟩ w7 := by
  have HK := show Hid (_) from hK
  clear hK
  have sk := str_size x.key
  have sv := str_size x.val
  have hv47 := hI.2.2.2.2
  have t0 := (T.t.cell 0).trans rfl
  have t1 := (T.t.cell 1).trans rfl
  have zt := T.t.lt
  have u0 := (T.u.cell 0).trans rfl
  have u1 := (T.u.cell 1).trans rfl
  have zu := T.u.lt
  have y0 := (kS.cell 0).trans rfl
  have y1 := (kS.cell 1).trans rfl
  have y4 := (kS.cell 4).trans rfl
  have y5 := (kS.cell 5).trans rfl
  have y6 := (kS.cell 6).trans rfl
  have zs := kS.lt
  conv => arg 2; whnf
  conv => arg 4; dsimp only
  have KA := fun w' hb => root_any wd q o w' HW.out (TopAt.below (w := w7) hb hTo)
  have KP := fun w' hb => putE_any wd q o x.key x.val w' HW.out (by unfold maxLen; omega) (by unfold maxLen; omega) HGoO.out (TopAt.below (w := w7) hb hTo)
  generalize hG5 : rootP wd o = G at *
  have HG5 := show Hid (_ = _) from hG5
  clear hG5
  have o0 := (kO.cell 0).trans rfl
  have o1 := (kO.cell 1).trans rfl
  have oz := kO.lt
  go_wp2_with fail
  refine (KA _ (Below.refl _ _)).mono ?_
  rintro e w8 ⟨rfl, b8⟩
  clear o0 o1 oz
  have T' := T.next b8
  have kS' := kS.below b8 kS.lt
  have kO' := kO.below b8 kO.lt
  have kX' := kX.below b8 kX.lt
  clear t0 t1 zt u0 u1 zu y0 y1 y4 y5 y6 zs
  clear T kS kO kX
  have T := T'
  have kS := kS'
  have kO := kO'
  have kX := kX'
  clear T' kS' kO' kX'
  have t0 := (T.t.cell 0).trans rfl
  have t1 := (T.t.cell 1).trans rfl
  have zt := T.t.lt
  have u0 := (T.u.cell 0).trans rfl
  have u1 := (T.u.cell 1).trans rfl
  have zu := T.u.lt
  have y0 := (kS.cell 0).trans rfl
  have y1 := (kS.cell 1).trans rfl
  have y4 := (kS.cell 4).trans rfl
  have y5 := (kS.cell 5).trans rfl
  have y6 := (kS.cell 6).trans rfl
  have zs := kS.lt
  have o0 := (kO.cell 0).trans rfl
  have o1 := (kO.cell 1).trans rfl
  have oz := kO.lt
  go_wp2_with fail
  refine (KP _ b8).mono ?_
  rintro e w9 ⟨wx2, qx2, rfl, _, b9⟩
  clear o0 o1 oz KP
  have T' := T.next b9
  have kS' := kS.below b9 kS.lt
  have kO' := kO.below b9 kO.lt
  have kX' := kX.below b9 kX.lt
  clear t0 t1 zt u0 u1 zu y0 y1 y4 y5 y6 zs
  clear T kS kO kX
  have T := T'
  have kS := kS'
  have kO := kO'
  have kX := kX'
  clear T' kS' kO' kX'
  have t0 := (T.t.cell 0).trans rfl
  have t1 := (T.t.cell 1).trans rfl
  have zt := T.t.lt
  have u0 := (T.u.cell 0).trans rfl
  have u1 := (T.u.cell 1).trans rfl
  have zu := T.u.lt
  have y0 := (kS.cell 0).trans rfl
  have y1 := (kS.cell 1).trans rfl
  have y4 := (kS.cell 4).trans rfl
  have y5 := (kS.cell 5).trans rfl
  have y6 := (kS.cell 6).trans rfl
  have zs := kS.lt
  have B9 := b8.trans (b9.mono b8.size)
  have hTo9 := TopAt.below B9 hTo
  have m0 := (kX.cell 0).trans rfl
  have m1 := (kX.cell 1).trans rfl
  have mf0 := kX.frozen 0
  have mf1 := kX.frozen 1
  have mz := kX.lt
  have TX := T.other kX (by omega) (by omega) wx2 qx2
  have kO2 := (kO.setOther ⟨xb, 0, none⟩ (by show ob ≠ xb; omega) (.int .i64 wx2)).setOther ⟨xb, 1, none⟩ (by show ob ≠ xb; omega) (.pointer qx2)
  have hTo2 := (hTo9.setAny kX (by decide) 0 (.int .i64 wx2)).setAny (kX.set 0 (.int .i64 wx2)) (by decide) 1 (.pointer qx2)
  clear b8 b9 B9 hTo9 kX kO KA
  go_upto_region 48 with fail
  generalize (w9.setCell ⟨xb, 0, none⟩ (.int .i64 wx2)).setCell ⟨xb, 1, none⟩ (.pointer qx2) = w10 at *
  clear T kS m0 m1 mf0 mf1 mz
  clear t0 t1 zt u0 u1 zu y0 y1 y4 y5 y6 zs
  have KA := root_any wd q o w10 HW.out hTo2
  rw [HG5.out] at KA
  have o0 := (kO2.cell 0).trans rfl
  have o1 := (kO2.cell 1).trans rfl
  have oz := kO2.lt
  go_wp2_with fail
  refine KA.mono ?_
  rintro e w11 ⟨rfl, b11⟩
  have T11 := TX.next b11
  clear KA o0 o1 oz kO2 TX b11
  go_wp2_with fail
  exact HK.out _ _ _ _ _ _ _ _ _ _ _ _ _ _ _ _ _ _ _ _ _ _ _ _ _ _ _ _ _ _ _ _ _ _ _ _ _ _ _ _ _ _ _ _ _ _ _ _ _ _ _ _ _ _ _ _ _ _ _ _ _ _ _ _ _ _ _ _ _ _ _ _ _ _ _ _ _ _ _ _ _ _ _ _ _ _ _ _ _ _ _ _ _ _ _ _ _ _ _ _ _ _ _ _ _ _ _ _ _ _ _ _ _ _ _ _ _ _ _ _ _ _ _ _ _ _ _ _ _ _ _ _ _ _ _ _ _ _ _ _ _ _ _ _ _ _ _ _ _ _ _ _ _ _ _ _ _ _ _ ⟨_, _, _, T11⟩
end Go.Proofs.YtfjkgglflmakhaaDoor
