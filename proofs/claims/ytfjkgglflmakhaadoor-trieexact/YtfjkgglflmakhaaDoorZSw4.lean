/- TrieExact: what the law asks of both trees (4). -/
import Derived.Test.YtfjkgglflmakhaaDoorM44
import Derived.Deep.RegionHeld3
import Derived.Deep.CutBlock
import Derived.Deep.DeepCutAuto
namespace Go.Proofs.YtfjkgglflmakhaaDoor
open Go.RowKit
set_option linter.unusedVariables false
set_option linter.unusedSimpArgs false

set_option maxRecDepth 20000 in
set_option maxHeartbeats 12800000 in
theorem sw4 (w : World) (tb ub sb xb ob : Nat) (wd wx : Int) (q qx q2 la2 : Option Addr) (c2 : Nat) (o : Option Tr) (x : Sz) (w7 : World) (K : Act → World → Prop) (z1 z2 z3 z4 z7 z10 z11 z12 z15 z16 z17 z18 z19 z20 z21 z22 z23 z24 z25 z26 z27 z28 z29 z30 z31 z32 z33 z34 z35 z36 z37 z38 z39 z40 z41 z42 z43 z44 z45 z46 z47 z48 z49 z50 z51 z52 z53 z54 z55 z56 z57 z58 z59 z60 z61 z62 z63 z64 z65 z66 z67 z68 z69 z70 z71 z72 z73 z74 z75 z76 z77 z78 z79 z80 z81 z82 z83 z84 z85 z86 z87 z89 z90 z91 z92 z93 z94 z95 z96 z97 z98 z99 z100 z101 z102 z103 z104 z105 z106 z107 z108 z109 z110 z111 z112 z113 z114 z115 z116 z117 z118 z119 z120 z121 z122 z123 z124 z125 z126 z127 z128 z129 z130 z131 z132 z133 z134 z135 z136 z137 z138 z139 z140 z141 z142 z143 z144 z145 z146 z147 z148 z149 z150 z151 z152 z153 z154 z155 z156 z157 z158 z159 z160 z161 z162 z163 z164 z165 z166 z167 z168 z169 z170 z171 z172 z173 z174 z175 z176 z177 z178 z179 z180 z181 z182 z183 z184 z185 z186 z187 z188 z189 z190 z191 z192 z193 z194 z195 z196 z197 z198 z199 z200 z201 z202 z203 z204 z205 z206 z207 z208 z209 z210 z211 z212 z213 z214 z215 z216 z217 z218 z219 z220 z221 z222 z223 z224 z225 z226 z227 z228 z229 z230 z231 z232 z233 z234 z235 z236 z237 z238 z239 z240 z241 z242 z243 : Value)
    (T : TE w tb ub wd q2 la2 c2 (stepO x.key x.val o) w7) (kS : Blk w7 sb #[.int .i64 x.k, .int .i64 x.a, .int .i64 x.b, .int .i64 x.c, .int .i64 x.n, .string (str x.key), .string (str x.val)] 33) (kX : Blk w7 xb #[.int .i64 wx, .pointer qx] 27) (kO : Blk w7 ob #[.int .i64 wd, .pointer q] 27) (hTo : TopAt wd w7 (.pointer q) o) (HGoO : Hid (Good o)) (HW : Hid (okW wd)) (hI : x.In) (hgl : (itemsO (stepO x.key x.val o)).length ≤ 100000) (hxk : x.key.length ≤ 65536) (hts1 : tb < sb) (hts2 : ub < sb) (hsx : sb < xb) (hxo : xb < ob)
    (hK : ∀ (u15 u16 u17 u18 u19 u20 u21 u22 u23 u24 u25 u26 u27 u28 u29 u30 u31 u32 u33 u34 u35 u89 u90 u91 u92 u93 u94 u95 u96 u97 u98 u99 u100 u101 u102 u103 u104 u105 u106 u107 u108 u109 u110 u111 u112 u113 u114 u115 u116 u117 u118 u119 u120 u121 u122 u123 u124 u125 u126 u127 u128 u129 u130 u131 u132 u133 u134 u135 u136 u137 u138 u139 u140 u141 u142 u143 u144 u145 u146 u147 u148 u149 u150 u151 u152 u153 u154 u155 u156 u157 u158 u159 u160 u161 u162 u163 u164 u165 u166 u167 u168 u169 u170 u171 u172 u173 u174 u175 u176 u177 u178 u179 u180 u181 u182 u183 u184 u185 u186 u187 u188 u189 u190 u191 u192 u193 u194 u195 u196 u197 u198 u199 u200 u201 u202 u203 u204 u205 u206 u207 u208 u209 u210 u211 u212 u213 u214 u215 u216 u217 u218 u219 u220 u221 u222 u223 u224 u225 : Value) (wz : World), (∃ q2 la2 c2, TE w tb ub wd q2 la2 c2 (stepO x.key x.val o) wz) → K ⟨#[.int .i64 wd, z1, z2, z3, z4, .pointer (some ⟨tb, 0, none⟩), .pointer (some ⟨ub, 0, none⟩), z7, .pointer (some ⟨sb, 0, none⟩), .pointer (some ⟨xb, 0, none⟩), z10, z11, z12, .pointer (some ⟨ob, 0, none⟩), .bool true, u15, u16, u17, u18, u19, u20, u21, u22, u23, u24, u25, u26, u27, u28, u29, u30, u31, u32, u33, u34, u35, z36, z37, z38, z39, z40, z41, z42, z43, z44, z45, z46, z47, z48, z49, z50, z51, z52, z53, z54, z55, z56, z57, z58, z59, z60, z61, z62, z63, z64, z65, z66, z67, z68, z69, z70, z71, z72, z73, z74, z75, z76, z77, z78, z79, z80, z81, z82, z83, z84, z85, z86, z87, .int .i64 4, u89, u90, u91, u92, u93, u94, u95, u96, u97, u98, u99, u100, u101, u102, u103, u104, u105, u106, u107, u108, u109, u110, u111, u112, u113, u114, u115, u116, u117, u118, u119, u120, u121, u122, u123, u124, u125, u126, u127, u128, u129, u130, u131, u132, u133, u134, u135, u136, u137, u138, u139, u140, u141, u142, u143, u144, u145, u146, u147, u148, u149, u150, u151, u152, u153, u154, u155, u156, u157, u158, u159, u160, u161, u162, u163, u164, u165, u166, u167, u168, u169, u170, u171, u172, u173, u174, u175, u176, u177, u178, u179, u180, u181, u182, u183, u184, u185, u186, u187, u188, u189, u190, u191, u192, u193, u194, u195, u196, u197, u198, u199, u200, u201, u202, u203, u204, u205, u206, u207, u208, u209, u210, u211, u212, u213, u214, u215, u216, u217, u218, u219, u220, u221, u222, u223, u224, u225, z226, z227, z228, z229, z230, z231, z232, z233, z234, z235, z236, z237, z238, z239, z240, z241, z242, z243], []⟩ wz) :
    Code.wp Tryd.prog blk2 (Exit.then K (fun _ _ _ => False)) ⟨#[.int .i64 wd, z1, z2, z3, z4, .pointer (some ⟨tb, 0, none⟩), .pointer (some ⟨ub, 0, none⟩), z7, .pointer (some ⟨sb, 0, none⟩), .pointer (some ⟨xb, 0, none⟩), z10, z11, z12, .pointer (some ⟨ob, 0, none⟩), .bool true, z15, z16, z17, z18, z19, z20, z21, z22, z23, z24, z25, z26, z27, z28, z29, z30, z31, z32, z33, z34, z35, z36, z37, z38, z39, z40, z41, z42, z43, z44, z45, z46, z47, z48, z49, z50, z51, z52, z53, z54, z55, z56, z57, z58, z59, z60, z61, z62, z63, z64, z65, z66, z67, z68, z69, z70, z71, z72, z73, z74, z75, z76, z77, z78, z79, z80, z81, z82, z83, z84, z85, z86, z87, .int .i64 4, z89, z90, z91, z92, z93, z94, z95, z96, z97, z98, z99, z100, z101, z102, z103, z104, z105, z106, z107, z108, z109, z110, z111, z112, z113, z114, z115, z116, z117, z118, z119, z120, z121, z122, z123, z124, z125, z126, z127, z128, z129, z130, z131, z132, z133, z134, z135, z136, z137, z138, z139, z140, z141, z142, z143, z144, z145, z146, z147, z148, z149, z150, z151, z152, z153, z154, z155, z156, z157, z158, z159, z160, z161, z162, z163, z164, z165, z166, z167, z168, z169, z170, z171, z172, z173, z174, z175, z176, z177, z178, z179, z180, z181, z182, z183, z184, z185, z186, z187, z188, z189, z190, z191, z192, z193, z194, z195, z196, z197, z198, z199, z200, z201, z202, z203, z204, z205, z206, z207, z208, z209, z210, z211, z212, z213, z214, z215, z216, z217, z218, z219, z220, z221, z222, z223, z224, z225, z226, z227, z228, z229, z230, z231, z232, z233, z234, z235, z236, z237, z238, z239, z240, z241, z242, z243], []⟩ w7 := by
  have HK := show Hid (_) from hK
  clear hK
  have sk := str_size x.key
  have sv := str_size x.val
  have hv47 := hI.2.2.2.2
  have t0 := (T.t.cell 0).trans rfl
  have t1 := (T.t.cell 1).trans rfl
  have zt := T.t.lt
  have u0 := (T.u.cell 0).trans rfl
  have u1 := (T.u.cell 1).trans rfl
  have zu := T.u.lt
  have y0 := (kS.cell 0).trans rfl
  have y1 := (kS.cell 1).trans rfl
  have y4 := (kS.cell 4).trans rfl
  have y5 := (kS.cell 5).trans rfl
  have y6 := (kS.cell 6).trans rfl
  have zs := kS.lt
  conv => arg 2; whnf
  conv => arg 4; dsimp only
  obtain ⟨aak, aas, aat, aap, aal, aar, En, ha, he⟩ := atP_form wd x.val (stepO x.key x.val o)
  obtain ⟨mk, ms, mt, mp, ml, mr, Em, hm, hem⟩ := atP_form wd (lwP x.a) (stepO x.key x.val o)
  have hwl : (lwP x.a).length ≤ 12 := wayF_len _ _
  have KG := at_any wd q2 (stepO x.key x.val o) x.val w7 (by unfold maxLen; omega) T.top
  have KR := fun w' hb => rat_any wd (stepO x.key x.val o) la2 c2 x.val w' HW.out (by unfold maxLen; omega) (T.good.fine (by omega)) T.cap (T.its.below (w' := w') hb)
  have KW := fun w' => way_any x.a w' hI.2.1
  have KG2 := fun w' hb => at_any wd q2 (stepO x.key x.val o) (lwP x.a) w' (by unfold maxLen; omega) (TopAt.below (w := w7) hb T.top)
  have KR2 := fun w' hb => rat_any wd (stepO x.key x.val o) la2 c2 (lwP x.a) w' HW.out (by unfold maxLen; omega) (T.good.fine (by omega)) T.cap (T.its.below (w' := w') hb)
  simp only [AtE, ha, he] at KG KR
  simp only [AtE, hm, hem] at KG2 KR2
  clear ha he hm hem
  generalize lwP x.a = LW at *
  go_wp2_with fail
  refine KG.mono ?_
  rintro e w8 ⟨rfl, b8⟩
  clear KG
  have T' := T.next b8
  have kS' := kS.below b8 kS.lt
  clear t0 t1 zt u0 u1 zu y0 y1 y4 y5 y6 zs
  clear T kS 
  have T := T'
  have kS := kS'
  clear T' kS' 
  have t0 := (T.t.cell 0).trans rfl
  have t1 := (T.t.cell 1).trans rfl
  have zt := T.t.lt
  have u0 := (T.u.cell 0).trans rfl
  have u1 := (T.u.cell 1).trans rfl
  have zu := T.u.lt
  have y0 := (kS.cell 0).trans rfl
  have y1 := (kS.cell 1).trans rfl
  have y4 := (kS.cell 4).trans rfl
  have y5 := (kS.cell 5).trans rfl
  have y6 := (kS.cell 6).trans rfl
  have zs := kS.lt
  have BW := b8.trans (((Below.refl w8.heap.size w8).alloc (Nat.le_refl _) (.cells #[.int .i64 aak, .string aas, .string aat, .int .i64 aap, .int .u64 aal, .int .u64 aar] 52)).mono b8.size)
  clear b8
  have bq : Below w8.heap.size w8 (w8.alloc (.cells #[.int .i64 aak, .string aas, .string aat, .int .i64 aap, .int .u64 aal, .int .u64 aar] 52)) := (Below.refl _ _).alloc (Nat.le_refl _) _
  have kA := Blk.new w8 #[.int .i64 aak, .string aas, .string aat, .int .i64 aap, .int .u64 aal, .int .u64 aar] 52
  have Tq := T.next bq
  have kSq := kS.below bq kS.lt
  go_upto_region 41 with fail
  generalize w8.alloc (.cells #[.int .i64 aak, .string aas, .string aat, .int .i64 aap, .int .u64 aal, .int .u64 aar] 52) = w9 at *
  clear bq T kS  
  clear t0 t1 zt u0 u1 zu y0 y1 y4 y5 y6 zs
  generalize w8.heap.size = ab at *
  have T := Tq
  have kS := kSq
  clear Tq kSq  
  have t0 := (T.t.cell 0).trans rfl
  have t1 := (T.t.cell 1).trans rfl
  have zt := T.t.lt
  have u0 := (T.u.cell 0).trans rfl
  have u1 := (T.u.cell 1).trans rfl
  have zu := T.u.lt
  have y0 := (kS.cell 0).trans rfl
  have y1 := (kS.cell 1).trans rfl
  have y4 := (kS.cell 4).trans rfl
  have y5 := (kS.cell 5).trans rfl
  have y6 := (kS.cell 6).trans rfl
  have zs := kS.lt
  go_wp2_with fail
  refine (KR _ BW).mono ?_
  rintro e w10 ⟨rfl, b10⟩
  clear KR
  have T' := T.next b10
  have kS' := kS.below b10 kS.lt
  have kA' := kA.below b10 kA.lt
  clear t0 t1 zt u0 u1 zu y0 y1 y4 y5 y6 zs
  clear T kS kA
  have T := T'
  have kS := kS'
  have kA := kA'
  clear T' kS' kA'
  have t0 := (T.t.cell 0).trans rfl
  have t1 := (T.t.cell 1).trans rfl
  have zt := T.t.lt
  have u0 := (T.u.cell 0).trans rfl
  have u1 := (T.u.cell 1).trans rfl
  have zu := T.u.lt
  have y0 := (kS.cell 0).trans rfl
  have y1 := (kS.cell 1).trans rfl
  have y4 := (kS.cell 4).trans rfl
  have y5 := (kS.cell 5).trans rfl
  have y6 := (kS.cell 6).trans rfl
  have zs := kS.lt
  have BW2 := BW.trans ((b10.trans (((Below.refl w10.heap.size w10).alloc (Nat.le_refl _) (.cells #[.int .i64 aak, .string aas, .string aat, .int .i64 aap, .int .u64 aal, .int .u64 aar] 52)).mono b10.size)).mono BW.size)
  clear b10 BW
  have bq : Below w10.heap.size w10 (w10.alloc (.cells #[.int .i64 aak, .string aas, .string aat, .int .i64 aap, .int .u64 aal, .int .u64 aar] 52)) := (Below.refl _ _).alloc (Nat.le_refl _) _
  have kB := Blk.new w10 #[.int .i64 aak, .string aas, .string aat, .int .i64 aap, .int .u64 aal, .int .u64 aar] 52
  have Tq := T.next bq
  have kSq := kS.below bq kS.lt
  have kAq := kA.below bq kA.lt
  go_upto_region 42 with fail
  generalize w10.alloc (.cells #[.int .i64 aak, .string aas, .string aat, .int .i64 aap, .int .u64 aal, .int .u64 aar] 52) = w11 at *
  clear bq T kS kA 
  clear t0 t1 zt u0 u1 zu y0 y1 y4 y5 y6 zs
  generalize w10.heap.size = bb at *
  have T := Tq
  have kS := kSq
  have kA := kAq
  clear Tq kSq kAq 
  have t0 := (T.t.cell 0).trans rfl
  have t1 := (T.t.cell 1).trans rfl
  have zt := T.t.lt
  have u0 := (T.u.cell 0).trans rfl
  have u1 := (T.u.cell 1).trans rfl
  have zu := T.u.lt
  have y0 := (kS.cell 0).trans rfl
  have y1 := (kS.cell 1).trans rfl
  have y4 := (kS.cell 4).trans rfl
  have y5 := (kS.cell 5).trans rfl
  have y6 := (kS.cell 6).trans rfl
  have zs := kS.lt
  have BW := BW2
  clear BW2
  go_upto_region 42 with fail
  have md : Below w11.heap.size w11 w11.drew := (Below.refl _ _).drew
  have Y0 : ∀ w', Below w11.heap.size w11 w' → w'.cell? ⟨tb, 0, none⟩ = some (.int .i64 wd) := fun w' hb => ((T.t.below hb T.t.lt).cell 0).trans rfl
  have Y1 : ∀ w', Below w11.heap.size w11 w' → w'.cell? ⟨tb, 1, none⟩ = some (.pointer q2) := fun w' hb => ((T.t.below hb T.t.lt).cell 1).trans rfl
  have Y2 : ∀ w', Below w11.heap.size w11 w' → w'.cell? ⟨sb, 1, none⟩ = some (.int .i64 x.a) := fun w' hb => ((kS.below hb kS.lt).cell 1).trans rfl
  refine wp_region_held (S := fun w' => Below w11.heap.size w11 w') (by kernel_rfl) ?_
  refine wpAnyH_take (i := 0) (v := .agg #[.int .i64 wd, .pointer q2]) rfl (by kernel_rfl) (by kernel_rfl) (by kernel_rfl) (fun _ _ _ h => h) (Or.inl ⟨by kernel_rfl, ?_⟩) (by assumption) ?_
  · intro w' hSw
    have z0 := Y0 _ hSw
    have z1 := Y1 _ hSw
    go_simp
    first | (with_reducible rfl) | done | assumption | skip
  simp only [Act.put, List.getElem_toArray, List.getElem_cons_succ, List.getElem_cons_zero, List.setIfInBounds_toArray, List.set_cons_zero, List.set_cons_succ]
  refine wpAnyH_take (i := 1) (v := ?_) rfl (by kernel_rfl) (by kernel_rfl) (by kernel_rfl) (fun _ _ _ h => h) (Or.inl ⟨by kernel_rfl, ?_⟩) (by assumption) ?_
  rotate_left
  · intro w' hSw
    go_simp
    first | (with_reducible rfl) | done | assumption | skip
  simp only [Act.put, List.getElem_toArray, List.getElem_cons_succ, List.getElem_cons_zero, List.setIfInBounds_toArray, List.set_cons_zero, List.set_cons_succ]
  refine wpAnyH_take (i := 2) (v := .int .i64 x.a) rfl (by kernel_rfl) (by kernel_rfl) (by kernel_rfl) (fun _ _ _ h => h) (Or.inl ⟨by kernel_rfl, ?_⟩) (by assumption) ?_
  · intro w' hSw
    have z2 := Y2 _ hSw
    go_simp
    first | (with_reducible rfl) | done | assumption | skip
  simp only [Act.put, List.getElem_toArray, List.getElem_cons_succ, List.getElem_cons_zero, List.setIfInBounds_toArray, List.set_cons_zero, List.set_cons_succ]
  refine wpAnyH_ready (rs := [3, 8]) (by kernel_rfl) (by simp) ?_
  refine (AllReadyH.cons rfl (fun K hK => ?_) (AllReadyH.cons rfl (fun K hK => ?_) AllReadyH.nil))
  · go_simp
    refine (KW _).mono ?_
    rintro e mA ⟨rfl, bmA⟩
    have cmA : Below w11.heap.size w11 mA := Below.trans md (bmA.mono (Below.size md))
    refine hK.out _ _ cmA (fun _ => ?_)
    clear hK K
    try simp only [Act.put, List.getElem_toArray, List.getElem_cons_succ, List.getElem_cons_zero, List.setIfInBounds_toArray, List.set_cons_zero, List.set_cons_succ]
    refine wpAnyH_ready (rs := [4, 8]) (by kernel_rfl) (by simp) ?_
    refine (AllReadyH.cons rfl (fun K hK => ?_) (AllReadyH.cons rfl (fun K hK => ?_) AllReadyH.nil))
    · go_simp
      refine (KG2 _ (BW.trans (Below.mono cmA BW.size))).mono ?_
      rintro e mB ⟨rfl, bmB⟩
      have cmB : Below w11.heap.size w11 mB := Below.trans cmA (bmB.mono (Below.size cmA))
      refine hK.out _ _ cmB (fun _ => ?_)
      clear hK K
      try simp only [Act.put, List.getElem_toArray, List.getElem_cons_succ, List.getElem_cons_zero, List.setIfInBounds_toArray, List.set_cons_zero, List.set_cons_succ]
      refine wpAnyH_take (i := 5) (v := ?_) rfl (by kernel_rfl) (by kernel_rfl) (by kernel_rfl) (fun _ _ _ h => h) (Or.inl ⟨by kernel_rfl, ?_⟩) (by assumption) ?_
      rotate_left
      · intro w' hSw
        go_simp
        first | (with_reducible rfl) | done | assumption | skip
      simp only [Act.put, List.getElem_toArray, List.getElem_cons_succ, List.getElem_cons_zero, List.setIfInBounds_toArray, List.set_cons_zero, List.set_cons_succ]
      refine wpAnyH_take (i := 6) (v := ?_) rfl (by kernel_rfl) (by kernel_rfl) (by kernel_rfl) (fun _ _ _ h => h) (Or.inl ⟨by kernel_rfl, ?_⟩) (by assumption) ?_
      rotate_left
      · intro w' hSw
        go_simp
        first | (with_reducible rfl) | done | assumption | skip
      simp only [Act.put, List.getElem_toArray, List.getElem_cons_succ, List.getElem_cons_zero, List.setIfInBounds_toArray, List.set_cons_zero, List.set_cons_succ]
      refine wpAnyH_take (i := 7) (v := ?_) rfl (by kernel_rfl) (by kernel_rfl) (by kernel_rfl) (fun _ _ _ h => h) (Or.inl ⟨by kernel_rfl, ?_⟩) (by assumption) ?_
      rotate_left
      · intro w' hSw
        go_simp
        first | (with_reducible rfl) | done | assumption | skip
      simp only [Act.put, List.getElem_toArray, List.getElem_cons_succ, List.getElem_cons_zero, List.setIfInBounds_toArray, List.set_cons_zero, List.set_cons_succ]
      refine wpAnyH_ready (rs := [8]) (by kernel_rfl) (by simp) ?_
      refine (AllReadyH.cons rfl (fun K hK => ?_) AllReadyH.nil)
      · go_simp
        refine hK.out _ _ (bel_alZ cmB (.cells #[.int .i64 0, .string ⟨#[]⟩, .string ⟨#[]⟩, .int .i64 0, .int .u64 0, .int .u64 0] 52)) (fun _ => ?_)
        clear hK K
        try simp only [Act.put, List.getElem_toArray, List.getElem_cons_succ, List.getElem_cons_zero, List.setIfInBounds_toArray, List.set_cons_zero, List.set_cons_succ]
        refine wpAnyH_ready (rs := [9]) (by kernel_rfl) (by simp) ?_
        refine (AllReadyH.cons rfl (fun K hK => ?_) AllReadyH.nil)
        · go_simp
          refine hK.out _ _ (bel_alZ cmB (.cells #[.int .i64 mk, .string ms, .string mt, .int .i64 mp, .int .u64 ml, .int .u64 mr] 52)) (fun _ => ?_)
          clear hK K
          try simp only [Act.put, List.getElem_toArray, List.getElem_cons_succ, List.getElem_cons_zero, List.setIfInBounds_toArray, List.set_cons_zero, List.set_cons_succ]
          refine wpAnyH_take (i := 10) (v := ?_) rfl (by kernel_rfl) (by kernel_rfl) (by kernel_rfl) (fun _ _ _ h => h) (Or.inl ⟨by kernel_rfl, ?_⟩) (by assumption) ?_
          rotate_left
          · intro w' hSw
            go_simp
            first | (with_reducible rfl) | done | assumption | skip
          simp only [Act.put, List.getElem_toArray, List.getElem_cons_succ, List.getElem_cons_zero, List.setIfInBounds_toArray, List.set_cons_zero, List.set_cons_succ]
          refine wpAnyH_done (by kernel_rfl) ?_ _
          have kN := Blk.new mB #[.int .i64 mk, .string ms, .string mt, .int .i64 mp, .int .u64 ml, .int .u64 mr] 52
          have cN := bel_alZ cmB (.cells #[.int .i64 mk, .string ms, .string mt, .int .i64 mp, .int .u64 ml, .int .u64 mr] 52)
          generalize mB.alloc (.cells #[.int .i64 mk, .string ms, .string mt, .int .i64 mp, .int .u64 ml, .int .u64 mr] 52) = mW at *
          generalize mB.heap.size = mb at *
          have kA2 := kA.below cN kA.lt
          have kB2 := kB.below cN kB.lt
          have T2 := T.next cN
          have kS2 := kS.below cN kS.lt
          have BW2 := BW.trans (cN.mono BW.size)
          clear T kS kA kB cN BW Y0 Y1 Y2
          clear t0 t1 zt u0 u1 zu y0 y1 y4 y5 y6 zs
          have T := T2
          have kS := kS2
          have kA := kA2
          have kB := kB2
          have kC := kN
          have BW := BW2
          clear T2 kS2 kA2 kB2 kN BW2
          have t0 := (T.t.cell 0).trans rfl
          have t1 := (T.t.cell 1).trans rfl
          have zt := T.t.lt
          have u0 := (T.u.cell 0).trans rfl
          have u1 := (T.u.cell 1).trans rfl
          have zu := T.u.lt
          have y0 := (kS.cell 0).trans rfl
          have y1 := (kS.cell 1).trans rfl
          have y4 := (kS.cell 4).trans rfl
          have y5 := (kS.cell 5).trans rfl
          have y6 := (kS.cell 6).trans rfl
          have zs := kS.lt
          go_upto_region 43 with fail
          have nd : Below mW.heap.size mW mW.drew := (Below.refl _ _).drew
          have Y0 : ∀ w', Below mW.heap.size mW w' → w'.cell? ⟨ub, 0, none⟩ = some (.int .i64 wd) := fun w' hb => ((T.u.below hb T.u.lt).cell 0).trans rfl
          have Y1 : ∀ w', Below mW.heap.size mW w' → w'.cell? ⟨ub, 1, none⟩ = some (.slice la2 (itemsO (stepO x.key x.val o)).length c2) := fun w' hb => ((T.u.below hb T.u.lt).cell 1).trans rfl
          have Y2 : ∀ w', Below mW.heap.size mW w' → w'.cell? ⟨sb, 1, none⟩ = some (.int .i64 x.a) := fun w' hb => ((kS.below hb kS.lt).cell 1).trans rfl
          refine wp_region_held (S := fun w' => Below mW.heap.size mW w') (by kernel_rfl) ?_
          refine wpAnyH_take (i := 0) (v := .agg #[.int .i64 wd, .slice la2 (itemsO (stepO x.key x.val o)).length c2]) rfl (by kernel_rfl) (by kernel_rfl) (by kernel_rfl) (fun _ _ _ h => h) (Or.inl ⟨by kernel_rfl, ?_⟩) (by assumption) ?_
          · intro w' hSw
            have z0 := Y0 _ hSw
            have z1 := Y1 _ hSw
            go_simp
            first | (with_reducible rfl) | done | assumption | skip
          simp only [Act.put, List.getElem_toArray, List.getElem_cons_succ, List.getElem_cons_zero, List.setIfInBounds_toArray, List.set_cons_zero, List.set_cons_succ]
          refine wpAnyH_take (i := 1) (v := ?_) rfl (by kernel_rfl) (by kernel_rfl) (by kernel_rfl) (fun _ _ _ h => h) (Or.inl ⟨by kernel_rfl, ?_⟩) (by assumption) ?_
          rotate_left
          · intro w' hSw
            go_simp
            first | (with_reducible rfl) | done | assumption | skip
          simp only [Act.put, List.getElem_toArray, List.getElem_cons_succ, List.getElem_cons_zero, List.setIfInBounds_toArray, List.set_cons_zero, List.set_cons_succ]
          refine wpAnyH_take (i := 2) (v := .int .i64 x.a) rfl (by kernel_rfl) (by kernel_rfl) (by kernel_rfl) (fun _ _ _ h => h) (Or.inl ⟨by kernel_rfl, ?_⟩) (by assumption) ?_
          · intro w' hSw
            have z2 := Y2 _ hSw
            go_simp
            first | (with_reducible rfl) | done | assumption | skip
          simp only [Act.put, List.getElem_toArray, List.getElem_cons_succ, List.getElem_cons_zero, List.setIfInBounds_toArray, List.set_cons_zero, List.set_cons_succ]
          refine wpAnyH_ready (rs := [3, 8]) (by kernel_rfl) (by simp) ?_
          refine (AllReadyH.cons rfl (fun K hK => ?_) (AllReadyH.cons rfl (fun K hK => ?_) AllReadyH.nil))
          · go_simp
            refine (KW _).mono ?_
            rintro e nA ⟨rfl, bnA⟩
            have cnA : Below mW.heap.size mW nA := Below.trans nd (bnA.mono (Below.size nd))
            refine hK.out _ _ cnA (fun _ => ?_)
            clear hK K
            try simp only [Act.put, List.getElem_toArray, List.getElem_cons_succ, List.getElem_cons_zero, List.setIfInBounds_toArray, List.set_cons_zero, List.set_cons_succ]
            refine wpAnyH_ready (rs := [4, 8]) (by kernel_rfl) (by simp) ?_
            refine (AllReadyH.cons rfl (fun K hK => ?_) (AllReadyH.cons rfl (fun K hK => ?_) AllReadyH.nil))
            · go_simp
              refine (KR2 _ (BW.trans (Below.mono cnA BW.size))).mono ?_
              rintro e nB ⟨rfl, bnB⟩
              have cnB : Below mW.heap.size mW nB := Below.trans cnA (bnB.mono (Below.size cnA))
              refine hK.out _ _ cnB (fun _ => ?_)
              clear hK K
              try simp only [Act.put, List.getElem_toArray, List.getElem_cons_succ, List.getElem_cons_zero, List.setIfInBounds_toArray, List.set_cons_zero, List.set_cons_succ]
              refine wpAnyH_take (i := 5) (v := ?_) rfl (by kernel_rfl) (by kernel_rfl) (by kernel_rfl) (fun _ _ _ h => h) (Or.inl ⟨by kernel_rfl, ?_⟩) (by assumption) ?_
              rotate_left
              · intro w' hSw
                go_simp
                first | (with_reducible rfl) | done | assumption | skip
              simp only [Act.put, List.getElem_toArray, List.getElem_cons_succ, List.getElem_cons_zero, List.setIfInBounds_toArray, List.set_cons_zero, List.set_cons_succ]
              refine wpAnyH_take (i := 6) (v := ?_) rfl (by kernel_rfl) (by kernel_rfl) (by kernel_rfl) (fun _ _ _ h => h) (Or.inl ⟨by kernel_rfl, ?_⟩) (by assumption) ?_
              rotate_left
              · intro w' hSw
                go_simp
                first | (with_reducible rfl) | done | assumption | skip
              simp only [Act.put, List.getElem_toArray, List.getElem_cons_succ, List.getElem_cons_zero, List.setIfInBounds_toArray, List.set_cons_zero, List.set_cons_succ]
              refine wpAnyH_take (i := 7) (v := ?_) rfl (by kernel_rfl) (by kernel_rfl) (by kernel_rfl) (fun _ _ _ h => h) (Or.inl ⟨by kernel_rfl, ?_⟩) (by assumption) ?_
              rotate_left
              · intro w' hSw
                go_simp
                first | (with_reducible rfl) | done | assumption | skip
              simp only [Act.put, List.getElem_toArray, List.getElem_cons_succ, List.getElem_cons_zero, List.setIfInBounds_toArray, List.set_cons_zero, List.set_cons_succ]
              refine wpAnyH_ready (rs := [8]) (by kernel_rfl) (by simp) ?_
              refine (AllReadyH.cons rfl (fun K hK => ?_) AllReadyH.nil)
              · go_simp
                refine hK.out _ _ (bel_alZ cnB (.cells #[.int .i64 0, .string ⟨#[]⟩, .string ⟨#[]⟩, .int .i64 0, .int .u64 0, .int .u64 0] 52)) (fun _ => ?_)
                clear hK K
                try simp only [Act.put, List.getElem_toArray, List.getElem_cons_succ, List.getElem_cons_zero, List.setIfInBounds_toArray, List.set_cons_zero, List.set_cons_succ]
                refine wpAnyH_ready (rs := [9]) (by kernel_rfl) (by simp) ?_
                refine (AllReadyH.cons rfl (fun K hK => ?_) AllReadyH.nil)
                · go_simp
                  refine hK.out _ _ (bel_alZ cnB (.cells #[.int .i64 mk, .string ms, .string mt, .int .i64 mp, .int .u64 ml, .int .u64 mr] 52)) (fun _ => ?_)
                  clear hK K
                  try simp only [Act.put, List.getElem_toArray, List.getElem_cons_succ, List.getElem_cons_zero, List.setIfInBounds_toArray, List.set_cons_zero, List.set_cons_succ]
                  refine wpAnyH_take (i := 10) (v := ?_) rfl (by kernel_rfl) (by kernel_rfl) (by kernel_rfl) (fun _ _ _ h => h) (Or.inl ⟨by kernel_rfl, ?_⟩) (by assumption) ?_
                  rotate_left
                  · intro w' hSw
                    go_simp
                    first | (with_reducible rfl) | done | assumption | skip
                  simp only [Act.put, List.getElem_toArray, List.getElem_cons_succ, List.getElem_cons_zero, List.setIfInBounds_toArray, List.set_cons_zero, List.set_cons_succ]
                  refine wpAnyH_done (by kernel_rfl) ?_ _
                  have kN := Blk.new nB #[.int .i64 mk, .string ms, .string mt, .int .i64 mp, .int .u64 ml, .int .u64 mr] 52
                  have cN := bel_alZ cnB (.cells #[.int .i64 mk, .string ms, .string mt, .int .i64 mp, .int .u64 ml, .int .u64 mr] 52)
                  generalize nB.alloc (.cells #[.int .i64 mk, .string ms, .string mt, .int .i64 mp, .int .u64 ml, .int .u64 mr] 52) = nW at *
                  generalize nB.heap.size = nb at *
                  have kA2 := kA.below cN kA.lt
                  have kB2 := kB.below cN kB.lt
                  have kC2 := kC.below cN kC.lt
                  have T4 := T.next cN
                  clear T kS kA kB kC cN BW KW KG2 KR2 Y0 Y1 Y2
                  clear t0 t1 zt u0 u1 zu y0 y1 y4 y5 y6 zs
                  have ka0 := (kA2.cell 0).trans rfl
                  have ka1 := (kA2.cell 1).trans rfl
                  have ka2 := (kA2.cell 2).trans rfl
                  have ka3 := (kA2.cell 3).trans rfl
                  have ka4 := (kA2.cell 4).trans rfl
                  have ka5 := (kA2.cell 5).trans rfl
                  have kaz := kA2.lt
                  have kb0 := (kB2.cell 0).trans rfl
                  have kb1 := (kB2.cell 1).trans rfl
                  have kb2 := (kB2.cell 2).trans rfl
                  have kb3 := (kB2.cell 3).trans rfl
                  have kb4 := (kB2.cell 4).trans rfl
                  have kb5 := (kB2.cell 5).trans rfl
                  have kbz := kB2.lt
                  have kc0 := (kC2.cell 0).trans rfl
                  have kc1 := (kC2.cell 1).trans rfl
                  have kc2 := (kC2.cell 2).trans rfl
                  have kc3 := (kC2.cell 3).trans rfl
                  have kc4 := (kC2.cell 4).trans rfl
                  have kc5 := (kC2.cell 5).trans rfl
                  have kcz := kC2.lt
                  have kd0 := (kN.cell 0).trans rfl
                  have kd1 := (kN.cell 1).trans rfl
                  have kd2 := (kN.cell 2).trans rfl
                  have kd3 := (kN.cell 3).trans rfl
                  have kd4 := (kN.cell 4).trans rfl
                  have kd5 := (kN.cell 5).trans rfl
                  have kdz := kN.lt
                  clear kA2 kB2 kC2 kN
                  go_wp2_with fail
                  exact HK.out _ _ _ _ _ _ _ _ _ _ _ _ _ _ _ _ _ _ _ _ _ _ _ _ _ _ _ _ _ _ _ _ _ _ _ _ _ _ _ _ _ _ _ _ _ _ _ _ _ _ _ _ _ _ _ _ _ _ _ _ _ _ _ _ _ _ _ _ _ _ _ _ _ _ _ _ _ _ _ _ _ _ _ _ _ _ _ _ _ _ _ _ _ _ _ _ _ _ _ _ _ _ _ _ _ _ _ _ _ _ _ _ _ _ _ _ _ _ _ _ _ _ _ _ _ _ _ _ _ _ _ _ _ _ _ _ _ _ _ _ _ _ _ _ _ _ _ _ _ _ _ _ _ _ _ _ _ _ _ ⟨_, _, _, T4⟩
            · have kM0 := Blk.new nA #[.int .i64 0, .string ⟨#[]⟩, .string ⟨#[]⟩, .int .i64 0, .int .u64 0, .int .u64 0] 52
              have hnb := cnA.size
              have cM := bel_alZ cnA (.cells #[.int .i64 0, .string ⟨#[]⟩, .string ⟨#[]⟩, .int .i64 0, .int .u64 0, .int .u64 0] 52)
              go_simp
              refine hK.out _ _ cM (fun _ => ?_)
              clear hK K
              try simp only [Act.put, List.getElem_toArray, List.getElem_cons_succ, List.getElem_cons_zero, List.setIfInBounds_toArray, List.set_cons_zero, List.set_cons_succ]
              generalize nA.alloc (.cells #[.int .i64 0, .string ⟨#[]⟩, .string ⟨#[]⟩, .int .i64 0, .int .u64 0, .int .u64 0] 52) = nM at *
              generalize nA.heap.size = nb at *
              refine wpAnyH_ready (rs := [4]) (by kernel_rfl) (by simp) ?_
              refine (AllReadyH.cons rfl (fun K hK => ?_) AllReadyH.nil)
              · go_simp
                refine (KR2 _ (BW.trans (Below.mono cM BW.size))).mono ?_
                rintro e nB ⟨rfl, bnB⟩
                have cnB : Below mW.heap.size mW nB := Below.trans cM (bnB.mono (Below.size cM))
                refine hK.out _ _ cnB (fun _ => ?_)
                clear hK K
                try simp only [Act.put, List.getElem_toArray, List.getElem_cons_succ, List.getElem_cons_zero, List.setIfInBounds_toArray, List.set_cons_zero, List.set_cons_succ]
                refine wpAnyH_take (i := 5) (v := ?_) rfl (by kernel_rfl) (by kernel_rfl) (by kernel_rfl) (fun _ _ _ h => h) (Or.inl ⟨by kernel_rfl, ?_⟩) (by assumption) ?_
                rotate_left
                · intro w' hSw
                  go_simp
                  first | (with_reducible rfl) | done | assumption | skip
                simp only [Act.put, List.getElem_toArray, List.getElem_cons_succ, List.getElem_cons_zero, List.setIfInBounds_toArray, List.set_cons_zero, List.set_cons_succ]
                refine wpAnyH_take (i := 6) (v := ?_) rfl (by kernel_rfl) (by kernel_rfl) (by kernel_rfl) (fun _ _ _ h => h) (Or.inl ⟨by kernel_rfl, ?_⟩) (by assumption) ?_
                rotate_left
                · intro w' hSw
                  go_simp
                  first | (with_reducible rfl) | done | assumption | skip
                simp only [Act.put, List.getElem_toArray, List.getElem_cons_succ, List.getElem_cons_zero, List.setIfInBounds_toArray, List.set_cons_zero, List.set_cons_succ]
                refine wpAnyH_take (i := 7) (v := ?_) rfl (by kernel_rfl) (by kernel_rfl) (by kernel_rfl) (fun _ _ _ h => h) (Or.inl ⟨by kernel_rfl, ?_⟩) (by assumption) ?_
                rotate_left
                · intro w' hSw
                  go_simp
                  first | (with_reducible rfl) | done | assumption | skip
                simp only [Act.put, List.getElem_toArray, List.getElem_cons_succ, List.getElem_cons_zero, List.setIfInBounds_toArray, List.set_cons_zero, List.set_cons_succ]
                have kM := kM0.below bnB kM0.lt
                have g0 := (kM.cell 0).trans rfl
                have h0 := kM.frozen 0
                have g1 := (kM.cell 1).trans rfl
                have h1 := kM.frozen 1
                have g2 := (kM.cell 2).trans rfl
                have h2 := kM.frozen 2
                have g3 := (kM.cell 3).trans rfl
                have h3 := kM.frozen 3
                have g4 := (kM.cell 4).trans rfl
                have h4 := kM.frozen 4
                have g5 := (kM.cell 5).trans rfl
                have h5 := kM.frozen 5
                have gz := kM.lt
                have kN : Blk ((((((nB.setCell ⟨nb, 0, none⟩ (.int .i64 mk)).setCell ⟨nb, 1, none⟩ (.string ms)).setCell ⟨nb, 2, none⟩ (.string mt)).setCell ⟨nb, 3, none⟩ (.int .i64 mp)).setCell ⟨nb, 4, none⟩ (.int .u64 ml)).setCell ⟨nb, 5, none⟩ (.int .u64 mr)) nb #[.int .i64 mk, .string ms, .string mt, .int .i64 mp, .int .u64 ml, .int .u64 mr] 52 := ((((((kM.set 0 (.int .i64 mk)).set 1 (.string ms)).set 2 (.string mt)).set 3 (.int .i64 mp)).set 4 (.int .u64 ml)).set 5 (.int .u64 mr))
                have cN := (bel_stZ (p := ⟨nb, 5, none⟩) (bel_stZ (p := ⟨nb, 4, none⟩) (bel_stZ (p := ⟨nb, 3, none⟩) (bel_stZ (p := ⟨nb, 2, none⟩) (bel_stZ (p := ⟨nb, 1, none⟩) (bel_stZ (p := ⟨nb, 0, none⟩) cnB hnb (.int .i64 mk)) hnb (.string ms)) hnb (.string mt)) hnb (.int .i64 mp)) hnb (.int .u64 ml)) hnb (.int .u64 mr))
                refine wpAnyH_ready (rs := [9]) (by kernel_rfl) (by simp) ?_
                refine (AllReadyH.cons rfl (fun K hK => ?_) AllReadyH.nil)
                · go_simp
                  refine hK.out _ _ cN (fun _ => ?_)
                  clear hK K
                  try simp only [Act.put, List.getElem_toArray, List.getElem_cons_succ, List.getElem_cons_zero, List.setIfInBounds_toArray, List.set_cons_zero, List.set_cons_succ]
                  refine wpAnyH_take (i := 10) (v := ?_) rfl (by kernel_rfl) (by kernel_rfl) (by kernel_rfl) (fun _ _ _ h => h) (Or.inl ⟨by kernel_rfl, ?_⟩) (by assumption) ?_
                  rotate_left
                  · intro w' hSw
                    go_simp
                    first | (with_reducible rfl) | done | assumption | skip
                  simp only [Act.put, List.getElem_toArray, List.getElem_cons_succ, List.getElem_cons_zero, List.setIfInBounds_toArray, List.set_cons_zero, List.set_cons_succ]
                  refine wpAnyH_done (by kernel_rfl) ?_ _
                  clear g0 g1 g2 g3 g4 g5 h0 h1 h2 h3 h4 h5 gz kM
                  generalize ((((((nB.setCell ⟨nb, 0, none⟩ (.int .i64 mk)).setCell ⟨nb, 1, none⟩ (.string ms)).setCell ⟨nb, 2, none⟩ (.string mt)).setCell ⟨nb, 3, none⟩ (.int .i64 mp)).setCell ⟨nb, 4, none⟩ (.int .u64 ml)).setCell ⟨nb, 5, none⟩ (.int .u64 mr)) = nW at *
                  have kA2 := kA.below cN kA.lt
                  have kB2 := kB.below cN kB.lt
                  have kC2 := kC.below cN kC.lt
                  have T4 := T.next cN
                  clear T kS kA kB kC cN BW KW KG2 KR2 Y0 Y1 Y2
                  clear t0 t1 zt u0 u1 zu y0 y1 y4 y5 y6 zs
                  have ka0 := (kA2.cell 0).trans rfl
                  have ka1 := (kA2.cell 1).trans rfl
                  have ka2 := (kA2.cell 2).trans rfl
                  have ka3 := (kA2.cell 3).trans rfl
                  have ka4 := (kA2.cell 4).trans rfl
                  have ka5 := (kA2.cell 5).trans rfl
                  have kaz := kA2.lt
                  have kb0 := (kB2.cell 0).trans rfl
                  have kb1 := (kB2.cell 1).trans rfl
                  have kb2 := (kB2.cell 2).trans rfl
                  have kb3 := (kB2.cell 3).trans rfl
                  have kb4 := (kB2.cell 4).trans rfl
                  have kb5 := (kB2.cell 5).trans rfl
                  have kbz := kB2.lt
                  have kc0 := (kC2.cell 0).trans rfl
                  have kc1 := (kC2.cell 1).trans rfl
                  have kc2 := (kC2.cell 2).trans rfl
                  have kc3 := (kC2.cell 3).trans rfl
                  have kc4 := (kC2.cell 4).trans rfl
                  have kc5 := (kC2.cell 5).trans rfl
                  have kcz := kC2.lt
                  have kd0 := (kN.cell 0).trans rfl
                  have kd1 := (kN.cell 1).trans rfl
                  have kd2 := (kN.cell 2).trans rfl
                  have kd3 := (kN.cell 3).trans rfl
                  have kd4 := (kN.cell 4).trans rfl
                  have kd5 := (kN.cell 5).trans rfl
                  have kdz := kN.lt
                  clear kA2 kB2 kC2 kN
                  go_wp2_with fail
                  exact HK.out _ _ _ _ _ _ _ _ _ _ _ _ _ _ _ _ _ _ _ _ _ _ _ _ _ _ _ _ _ _ _ _ _ _ _ _ _ _ _ _ _ _ _ _ _ _ _ _ _ _ _ _ _ _ _ _ _ _ _ _ _ _ _ _ _ _ _ _ _ _ _ _ _ _ _ _ _ _ _ _ _ _ _ _ _ _ _ _ _ _ _ _ _ _ _ _ _ _ _ _ _ _ _ _ _ _ _ _ _ _ _ _ _ _ _ _ _ _ _ _ _ _ _ _ _ _ _ _ _ _ _ _ _ _ _ _ _ _ _ _ _ _ _ _ _ _ _ _ _ _ _ _ _ _ _ _ _ _ _ ⟨_, _, _, T4⟩
          · have kM0 := (Blk.new mW #[.int .i64 0, .string ⟨#[]⟩, .string ⟨#[]⟩, .int .i64 0, .int .u64 0, .int .u64 0] 52).drew
            have cM : Below mW.heap.size mW (mW.alloc (.cells #[.int .i64 0, .string ⟨#[]⟩, .string ⟨#[]⟩, .int .i64 0, .int .u64 0, .int .u64 0] 52)).drew := (bel_alZ (Below.refl mW.heap.size mW) (.cells #[.int .i64 0, .string ⟨#[]⟩, .string ⟨#[]⟩, .int .i64 0, .int .u64 0, .int .u64 0] 52)).drew
            go_simp
            refine hK.out _ _ cM (fun _ => ?_)
            clear hK K
            try simp only [Act.put, List.getElem_toArray, List.getElem_cons_succ, List.getElem_cons_zero, List.setIfInBounds_toArray, List.set_cons_zero, List.set_cons_succ]
            generalize (mW.alloc (.cells #[.int .i64 0, .string ⟨#[]⟩, .string ⟨#[]⟩, .int .i64 0, .int .u64 0, .int .u64 0] 52)).drew = nM at *
            obtain ⟨nb, nbe⟩ : ∃ b, mW.heap.size = b := ⟨_, rfl⟩
            have kM1 : Blk nM nb #[.int .i64 0, .string ⟨#[]⟩, .string ⟨#[]⟩, .int .i64 0, .int .u64 0, .int .u64 0] 52 := by rw [← nbe]; exact kM0
            have hnb : mW.heap.size ≤ nb := by omega
            simp only [nbe]
            have Hne := show Hid (_ = _) from nbe
            have fnb : ∀ v, Below mW.heap.size mW v → Below nb mW v := fun v h => by rw [← nbe]; exact h
            clear kM0 nbe
            refine wpAnyH_ready (rs := [3]) (by kernel_rfl) (by simp) ?_
            refine (AllReadyH.cons rfl (fun K hK => ?_) AllReadyH.nil)
            · go_simp
              refine (KW _).mono ?_
              rintro e nA ⟨rfl, bnA⟩
              have cnA : Below mW.heap.size mW nA := Below.trans cM (bnA.mono (Below.size cM))
              refine hK.out _ _ (fnb _ cnA) (fun _ => ?_)
              clear hK K
              try simp only [Act.put, List.getElem_toArray, List.getElem_cons_succ, List.getElem_cons_zero, List.setIfInBounds_toArray, List.set_cons_zero, List.set_cons_succ]
              have kM2 := kM1.below bnA kM1.lt
              refine wpAnyH_ready (rs := [4]) (by kernel_rfl) (by simp) ?_
              refine (AllReadyH.cons rfl (fun K hK => ?_) AllReadyH.nil)
              · go_simp
                refine (KR2 _ (BW.trans (Below.mono cnA BW.size))).mono ?_
                rintro e nB ⟨rfl, bnB⟩
                have cnB : Below mW.heap.size mW nB := Below.trans cnA (bnB.mono (Below.size cnA))
                refine hK.out _ _ (fnb _ cnB) (fun _ => ?_)
                clear hK K
                try simp only [Act.put, List.getElem_toArray, List.getElem_cons_succ, List.getElem_cons_zero, List.setIfInBounds_toArray, List.set_cons_zero, List.set_cons_succ]
                refine wpAnyH_take (i := 5) (v := ?_) rfl (by kernel_rfl) (by kernel_rfl) (by kernel_rfl) (fun _ _ _ h => h) (Or.inl ⟨by kernel_rfl, ?_⟩) (by assumption) ?_
                rotate_left
                · intro w' hSw
                  go_simp
                  first | (with_reducible rfl) | done | assumption | skip
                simp only [Act.put, List.getElem_toArray, List.getElem_cons_succ, List.getElem_cons_zero, List.setIfInBounds_toArray, List.set_cons_zero, List.set_cons_succ]
                refine wpAnyH_take (i := 6) (v := ?_) rfl (by kernel_rfl) (by kernel_rfl) (by kernel_rfl) (fun _ _ _ h => h) (Or.inl ⟨by kernel_rfl, ?_⟩) (by assumption) ?_
                rotate_left
                · intro w' hSw
                  go_simp
                  first | (with_reducible rfl) | done | assumption | skip
                simp only [Act.put, List.getElem_toArray, List.getElem_cons_succ, List.getElem_cons_zero, List.setIfInBounds_toArray, List.set_cons_zero, List.set_cons_succ]
                refine wpAnyH_take (i := 7) (v := ?_) rfl (by kernel_rfl) (by kernel_rfl) (by kernel_rfl) (fun _ _ _ h => h) (Or.inl ⟨by kernel_rfl, ?_⟩) (by assumption) ?_
                rotate_left
                · intro w' hSw
                  go_simp
                  first | (with_reducible rfl) | done | assumption | skip
                simp only [Act.put, List.getElem_toArray, List.getElem_cons_succ, List.getElem_cons_zero, List.setIfInBounds_toArray, List.set_cons_zero, List.set_cons_succ]
                have kM := kM2.below bnB kM2.lt
                have g0 := (kM.cell 0).trans rfl
                have h0 := kM.frozen 0
                have g1 := (kM.cell 1).trans rfl
                have h1 := kM.frozen 1
                have g2 := (kM.cell 2).trans rfl
                have h2 := kM.frozen 2
                have g3 := (kM.cell 3).trans rfl
                have h3 := kM.frozen 3
                have g4 := (kM.cell 4).trans rfl
                have h4 := kM.frozen 4
                have g5 := (kM.cell 5).trans rfl
                have h5 := kM.frozen 5
                have gz := kM.lt
                have kN : Blk ((((((nB.setCell ⟨nb, 0, none⟩ (.int .i64 mk)).setCell ⟨nb, 1, none⟩ (.string ms)).setCell ⟨nb, 2, none⟩ (.string mt)).setCell ⟨nb, 3, none⟩ (.int .i64 mp)).setCell ⟨nb, 4, none⟩ (.int .u64 ml)).setCell ⟨nb, 5, none⟩ (.int .u64 mr)) nb #[.int .i64 mk, .string ms, .string mt, .int .i64 mp, .int .u64 ml, .int .u64 mr] 52 := ((((((kM.set 0 (.int .i64 mk)).set 1 (.string ms)).set 2 (.string mt)).set 3 (.int .i64 mp)).set 4 (.int .u64 ml)).set 5 (.int .u64 mr))
                have cN := (bel_stZ (p := ⟨nb, 5, none⟩) (bel_stZ (p := ⟨nb, 4, none⟩) (bel_stZ (p := ⟨nb, 3, none⟩) (bel_stZ (p := ⟨nb, 2, none⟩) (bel_stZ (p := ⟨nb, 1, none⟩) (bel_stZ (p := ⟨nb, 0, none⟩) cnB hnb (.int .i64 mk)) hnb (.string ms)) hnb (.string mt)) hnb (.int .i64 mp)) hnb (.int .u64 ml)) hnb (.int .u64 mr))
                refine wpAnyH_ready (rs := [9]) (by kernel_rfl) (by simp) ?_
                refine (AllReadyH.cons rfl (fun K hK => ?_) AllReadyH.nil)
                · go_simp
                  refine hK.out _ _ (fnb _ cN) (fun _ => ?_)
                  clear hK K
                  try simp only [Act.put, List.getElem_toArray, List.getElem_cons_succ, List.getElem_cons_zero, List.setIfInBounds_toArray, List.set_cons_zero, List.set_cons_succ]
                  refine wpAnyH_take (i := 10) (v := ?_) rfl (by kernel_rfl) (by kernel_rfl) (by kernel_rfl) (fun _ _ _ h => h) (Or.inl ⟨by kernel_rfl, ?_⟩) (by assumption) ?_
                  rotate_left
                  · intro w' hSw
                    go_simp
                    first | (with_reducible rfl) | done | assumption | skip
                  simp only [Act.put, List.getElem_toArray, List.getElem_cons_succ, List.getElem_cons_zero, List.setIfInBounds_toArray, List.set_cons_zero, List.set_cons_succ]
                  refine wpAnyH_done (by kernel_rfl) ?_ _
                  clear g0 g1 g2 g3 g4 g5 h0 h1 h2 h3 h4 h5 gz kM
                  generalize ((((((nB.setCell ⟨nb, 0, none⟩ (.int .i64 mk)).setCell ⟨nb, 1, none⟩ (.string ms)).setCell ⟨nb, 2, none⟩ (.string mt)).setCell ⟨nb, 3, none⟩ (.int .i64 mp)).setCell ⟨nb, 4, none⟩ (.int .u64 ml)).setCell ⟨nb, 5, none⟩ (.int .u64 mr)) = nW at *
                  have kA2 := kA.below cN kA.lt
                  have kB2 := kB.below cN kB.lt
                  have kC2 := kC.below cN kC.lt
                  have T4 := T.next cN
                  clear T kS kA kB kC cN BW KW KG2 KR2 Y0 Y1 Y2
                  clear t0 t1 zt u0 u1 zu y0 y1 y4 y5 y6 zs
                  have ka0 := (kA2.cell 0).trans rfl
                  have ka1 := (kA2.cell 1).trans rfl
                  have ka2 := (kA2.cell 2).trans rfl
                  have ka3 := (kA2.cell 3).trans rfl
                  have ka4 := (kA2.cell 4).trans rfl
                  have ka5 := (kA2.cell 5).trans rfl
                  have kaz := kA2.lt
                  have kb0 := (kB2.cell 0).trans rfl
                  have kb1 := (kB2.cell 1).trans rfl
                  have kb2 := (kB2.cell 2).trans rfl
                  have kb3 := (kB2.cell 3).trans rfl
                  have kb4 := (kB2.cell 4).trans rfl
                  have kb5 := (kB2.cell 5).trans rfl
                  have kbz := kB2.lt
                  have kc0 := (kC2.cell 0).trans rfl
                  have kc1 := (kC2.cell 1).trans rfl
                  have kc2 := (kC2.cell 2).trans rfl
                  have kc3 := (kC2.cell 3).trans rfl
                  have kc4 := (kC2.cell 4).trans rfl
                  have kc5 := (kC2.cell 5).trans rfl
                  have kcz := kC2.lt
                  have kd0 := (kN.cell 0).trans rfl
                  have kd1 := (kN.cell 1).trans rfl
                  have kd2 := (kN.cell 2).trans rfl
                  have kd3 := (kN.cell 3).trans rfl
                  have kd4 := (kN.cell 4).trans rfl
                  have kd5 := (kN.cell 5).trans rfl
                  have kdz := kN.lt
                  clear kA2 kB2 kC2 kN
                  go_wp2_with fail
                  exact HK.out _ _ _ _ _ _ _ _ _ _ _ _ _ _ _ _ _ _ _ _ _ _ _ _ _ _ _ _ _ _ _ _ _ _ _ _ _ _ _ _ _ _ _ _ _ _ _ _ _ _ _ _ _ _ _ _ _ _ _ _ _ _ _ _ _ _ _ _ _ _ _ _ _ _ _ _ _ _ _ _ _ _ _ _ _ _ _ _ _ _ _ _ _ _ _ _ _ _ _ _ _ _ _ _ _ _ _ _ _ _ _ _ _ _ _ _ _ _ _ _ _ _ _ _ _ _ _ _ _ _ _ _ _ _ _ _ _ _ _ _ _ _ _ _ _ _ _ _ _ _ _ _ _ _ _ _ _ _ _ ⟨_, _, _, T4⟩
    · have kM0 := Blk.new mA #[.int .i64 0, .string ⟨#[]⟩, .string ⟨#[]⟩, .int .i64 0, .int .u64 0, .int .u64 0] 52
      have hnb := cmA.size
      have cM := bel_alZ cmA (.cells #[.int .i64 0, .string ⟨#[]⟩, .string ⟨#[]⟩, .int .i64 0, .int .u64 0, .int .u64 0] 52)
      go_simp
      refine hK.out _ _ cM (fun _ => ?_)
      clear hK K
      try simp only [Act.put, List.getElem_toArray, List.getElem_cons_succ, List.getElem_cons_zero, List.setIfInBounds_toArray, List.set_cons_zero, List.set_cons_succ]
      generalize mA.alloc (.cells #[.int .i64 0, .string ⟨#[]⟩, .string ⟨#[]⟩, .int .i64 0, .int .u64 0, .int .u64 0] 52) = mM at *
      generalize mA.heap.size = mb at *
      refine wpAnyH_ready (rs := [4]) (by kernel_rfl) (by simp) ?_
      refine (AllReadyH.cons rfl (fun K hK => ?_) AllReadyH.nil)
      · go_simp
        refine (KG2 _ (BW.trans (Below.mono cM BW.size))).mono ?_
        rintro e mB ⟨rfl, bmB⟩
        have cmB : Below w11.heap.size w11 mB := Below.trans cM (bmB.mono (Below.size cM))
        refine hK.out _ _ cmB (fun _ => ?_)
        clear hK K
        try simp only [Act.put, List.getElem_toArray, List.getElem_cons_succ, List.getElem_cons_zero, List.setIfInBounds_toArray, List.set_cons_zero, List.set_cons_succ]
        refine wpAnyH_take (i := 5) (v := ?_) rfl (by kernel_rfl) (by kernel_rfl) (by kernel_rfl) (fun _ _ _ h => h) (Or.inl ⟨by kernel_rfl, ?_⟩) (by assumption) ?_
        rotate_left
        · intro w' hSw
          go_simp
          first | (with_reducible rfl) | done | assumption | skip
        simp only [Act.put, List.getElem_toArray, List.getElem_cons_succ, List.getElem_cons_zero, List.setIfInBounds_toArray, List.set_cons_zero, List.set_cons_succ]
        refine wpAnyH_take (i := 6) (v := ?_) rfl (by kernel_rfl) (by kernel_rfl) (by kernel_rfl) (fun _ _ _ h => h) (Or.inl ⟨by kernel_rfl, ?_⟩) (by assumption) ?_
        rotate_left
        · intro w' hSw
          go_simp
          first | (with_reducible rfl) | done | assumption | skip
        simp only [Act.put, List.getElem_toArray, List.getElem_cons_succ, List.getElem_cons_zero, List.setIfInBounds_toArray, List.set_cons_zero, List.set_cons_succ]
        refine wpAnyH_take (i := 7) (v := ?_) rfl (by kernel_rfl) (by kernel_rfl) (by kernel_rfl) (fun _ _ _ h => h) (Or.inl ⟨by kernel_rfl, ?_⟩) (by assumption) ?_
        rotate_left
        · intro w' hSw
          go_simp
          first | (with_reducible rfl) | done | assumption | skip
        simp only [Act.put, List.getElem_toArray, List.getElem_cons_succ, List.getElem_cons_zero, List.setIfInBounds_toArray, List.set_cons_zero, List.set_cons_succ]
        have kM := kM0.below bmB kM0.lt
        have g0 := (kM.cell 0).trans rfl
        have h0 := kM.frozen 0
        have g1 := (kM.cell 1).trans rfl
        have h1 := kM.frozen 1
        have g2 := (kM.cell 2).trans rfl
        have h2 := kM.frozen 2
        have g3 := (kM.cell 3).trans rfl
        have h3 := kM.frozen 3
        have g4 := (kM.cell 4).trans rfl
        have h4 := kM.frozen 4
        have g5 := (kM.cell 5).trans rfl
        have h5 := kM.frozen 5
        have gz := kM.lt
        have kN : Blk ((((((mB.setCell ⟨mb, 0, none⟩ (.int .i64 mk)).setCell ⟨mb, 1, none⟩ (.string ms)).setCell ⟨mb, 2, none⟩ (.string mt)).setCell ⟨mb, 3, none⟩ (.int .i64 mp)).setCell ⟨mb, 4, none⟩ (.int .u64 ml)).setCell ⟨mb, 5, none⟩ (.int .u64 mr)) mb #[.int .i64 mk, .string ms, .string mt, .int .i64 mp, .int .u64 ml, .int .u64 mr] 52 := ((((((kM.set 0 (.int .i64 mk)).set 1 (.string ms)).set 2 (.string mt)).set 3 (.int .i64 mp)).set 4 (.int .u64 ml)).set 5 (.int .u64 mr))
        have cN := (bel_stZ (p := ⟨mb, 5, none⟩) (bel_stZ (p := ⟨mb, 4, none⟩) (bel_stZ (p := ⟨mb, 3, none⟩) (bel_stZ (p := ⟨mb, 2, none⟩) (bel_stZ (p := ⟨mb, 1, none⟩) (bel_stZ (p := ⟨mb, 0, none⟩) cmB hnb (.int .i64 mk)) hnb (.string ms)) hnb (.string mt)) hnb (.int .i64 mp)) hnb (.int .u64 ml)) hnb (.int .u64 mr))
        refine wpAnyH_ready (rs := [9]) (by kernel_rfl) (by simp) ?_
        refine (AllReadyH.cons rfl (fun K hK => ?_) AllReadyH.nil)
        · go_simp
          refine hK.out _ _ cN (fun _ => ?_)
          clear hK K
          try simp only [Act.put, List.getElem_toArray, List.getElem_cons_succ, List.getElem_cons_zero, List.setIfInBounds_toArray, List.set_cons_zero, List.set_cons_succ]
          refine wpAnyH_take (i := 10) (v := ?_) rfl (by kernel_rfl) (by kernel_rfl) (by kernel_rfl) (fun _ _ _ h => h) (Or.inl ⟨by kernel_rfl, ?_⟩) (by assumption) ?_
          rotate_left
          · intro w' hSw
            go_simp
            first | (with_reducible rfl) | done | assumption | skip
          simp only [Act.put, List.getElem_toArray, List.getElem_cons_succ, List.getElem_cons_zero, List.setIfInBounds_toArray, List.set_cons_zero, List.set_cons_succ]
          refine wpAnyH_done (by kernel_rfl) ?_ _
          clear g0 g1 g2 g3 g4 g5 h0 h1 h2 h3 h4 h5 gz kM
          generalize ((((((mB.setCell ⟨mb, 0, none⟩ (.int .i64 mk)).setCell ⟨mb, 1, none⟩ (.string ms)).setCell ⟨mb, 2, none⟩ (.string mt)).setCell ⟨mb, 3, none⟩ (.int .i64 mp)).setCell ⟨mb, 4, none⟩ (.int .u64 ml)).setCell ⟨mb, 5, none⟩ (.int .u64 mr)) = mW at *
          have kA2 := kA.below cN kA.lt
          have kB2 := kB.below cN kB.lt
          have T2 := T.next cN
          have kS2 := kS.below cN kS.lt
          have BW2 := BW.trans (cN.mono BW.size)
          clear T kS kA kB cN BW Y0 Y1 Y2
          clear t0 t1 zt u0 u1 zu y0 y1 y4 y5 y6 zs
          have T := T2
          have kS := kS2
          have kA := kA2
          have kB := kB2
          have kC := kN
          have BW := BW2
          clear T2 kS2 kA2 kB2 kN BW2
          have t0 := (T.t.cell 0).trans rfl
          have t1 := (T.t.cell 1).trans rfl
          have zt := T.t.lt
          have u0 := (T.u.cell 0).trans rfl
          have u1 := (T.u.cell 1).trans rfl
          have zu := T.u.lt
          have y0 := (kS.cell 0).trans rfl
          have y1 := (kS.cell 1).trans rfl
          have y4 := (kS.cell 4).trans rfl
          have y5 := (kS.cell 5).trans rfl
          have y6 := (kS.cell 6).trans rfl
          have zs := kS.lt
          go_upto_region 43 with fail
          have nd : Below mW.heap.size mW mW.drew := (Below.refl _ _).drew
          have Y0 : ∀ w', Below mW.heap.size mW w' → w'.cell? ⟨ub, 0, none⟩ = some (.int .i64 wd) := fun w' hb => ((T.u.below hb T.u.lt).cell 0).trans rfl
          have Y1 : ∀ w', Below mW.heap.size mW w' → w'.cell? ⟨ub, 1, none⟩ = some (.slice la2 (itemsO (stepO x.key x.val o)).length c2) := fun w' hb => ((T.u.below hb T.u.lt).cell 1).trans rfl
          have Y2 : ∀ w', Below mW.heap.size mW w' → w'.cell? ⟨sb, 1, none⟩ = some (.int .i64 x.a) := fun w' hb => ((kS.below hb kS.lt).cell 1).trans rfl
          refine wp_region_held (S := fun w' => Below mW.heap.size mW w') (by kernel_rfl) ?_
          refine wpAnyH_take (i := 0) (v := .agg #[.int .i64 wd, .slice la2 (itemsO (stepO x.key x.val o)).length c2]) rfl (by kernel_rfl) (by kernel_rfl) (by kernel_rfl) (fun _ _ _ h => h) (Or.inl ⟨by kernel_rfl, ?_⟩) (by assumption) ?_
          · intro w' hSw
            have z0 := Y0 _ hSw
            have z1 := Y1 _ hSw
            go_simp
            first | (with_reducible rfl) | done | assumption | skip
          simp only [Act.put, List.getElem_toArray, List.getElem_cons_succ, List.getElem_cons_zero, List.setIfInBounds_toArray, List.set_cons_zero, List.set_cons_succ]
          refine wpAnyH_take (i := 1) (v := ?_) rfl (by kernel_rfl) (by kernel_rfl) (by kernel_rfl) (fun _ _ _ h => h) (Or.inl ⟨by kernel_rfl, ?_⟩) (by assumption) ?_
          rotate_left
          · intro w' hSw
            go_simp
            first | (with_reducible rfl) | done | assumption | skip
          simp only [Act.put, List.getElem_toArray, List.getElem_cons_succ, List.getElem_cons_zero, List.setIfInBounds_toArray, List.set_cons_zero, List.set_cons_succ]
          refine wpAnyH_take (i := 2) (v := .int .i64 x.a) rfl (by kernel_rfl) (by kernel_rfl) (by kernel_rfl) (fun _ _ _ h => h) (Or.inl ⟨by kernel_rfl, ?_⟩) (by assumption) ?_
          · intro w' hSw
            have z2 := Y2 _ hSw
            go_simp
            first | (with_reducible rfl) | done | assumption | skip
          simp only [Act.put, List.getElem_toArray, List.getElem_cons_succ, List.getElem_cons_zero, List.setIfInBounds_toArray, List.set_cons_zero, List.set_cons_succ]
          refine wpAnyH_ready (rs := [3, 8]) (by kernel_rfl) (by simp) ?_
          refine (AllReadyH.cons rfl (fun K hK => ?_) (AllReadyH.cons rfl (fun K hK => ?_) AllReadyH.nil))
          · go_simp
            refine (KW _).mono ?_
            rintro e nA ⟨rfl, bnA⟩
            have cnA : Below mW.heap.size mW nA := Below.trans nd (bnA.mono (Below.size nd))
            refine hK.out _ _ cnA (fun _ => ?_)
            clear hK K
            try simp only [Act.put, List.getElem_toArray, List.getElem_cons_succ, List.getElem_cons_zero, List.setIfInBounds_toArray, List.set_cons_zero, List.set_cons_succ]
            refine wpAnyH_ready (rs := [4, 8]) (by kernel_rfl) (by simp) ?_
            refine (AllReadyH.cons rfl (fun K hK => ?_) (AllReadyH.cons rfl (fun K hK => ?_) AllReadyH.nil))
            · go_simp
              refine (KR2 _ (BW.trans (Below.mono cnA BW.size))).mono ?_
              rintro e nB ⟨rfl, bnB⟩
              have cnB : Below mW.heap.size mW nB := Below.trans cnA (bnB.mono (Below.size cnA))
              refine hK.out _ _ cnB (fun _ => ?_)
              clear hK K
              try simp only [Act.put, List.getElem_toArray, List.getElem_cons_succ, List.getElem_cons_zero, List.setIfInBounds_toArray, List.set_cons_zero, List.set_cons_succ]
              refine wpAnyH_take (i := 5) (v := ?_) rfl (by kernel_rfl) (by kernel_rfl) (by kernel_rfl) (fun _ _ _ h => h) (Or.inl ⟨by kernel_rfl, ?_⟩) (by assumption) ?_
              rotate_left
              · intro w' hSw
                go_simp
                first | (with_reducible rfl) | done | assumption | skip
              simp only [Act.put, List.getElem_toArray, List.getElem_cons_succ, List.getElem_cons_zero, List.setIfInBounds_toArray, List.set_cons_zero, List.set_cons_succ]
              refine wpAnyH_take (i := 6) (v := ?_) rfl (by kernel_rfl) (by kernel_rfl) (by kernel_rfl) (fun _ _ _ h => h) (Or.inl ⟨by kernel_rfl, ?_⟩) (by assumption) ?_
              rotate_left
              · intro w' hSw
                go_simp
                first | (with_reducible rfl) | done | assumption | skip
              simp only [Act.put, List.getElem_toArray, List.getElem_cons_succ, List.getElem_cons_zero, List.setIfInBounds_toArray, List.set_cons_zero, List.set_cons_succ]
              refine wpAnyH_take (i := 7) (v := ?_) rfl (by kernel_rfl) (by kernel_rfl) (by kernel_rfl) (fun _ _ _ h => h) (Or.inl ⟨by kernel_rfl, ?_⟩) (by assumption) ?_
              rotate_left
              · intro w' hSw
                go_simp
                first | (with_reducible rfl) | done | assumption | skip
              simp only [Act.put, List.getElem_toArray, List.getElem_cons_succ, List.getElem_cons_zero, List.setIfInBounds_toArray, List.set_cons_zero, List.set_cons_succ]
              refine wpAnyH_ready (rs := [8]) (by kernel_rfl) (by simp) ?_
              refine (AllReadyH.cons rfl (fun K hK => ?_) AllReadyH.nil)
              · go_simp
                refine hK.out _ _ (bel_alZ cnB (.cells #[.int .i64 0, .string ⟨#[]⟩, .string ⟨#[]⟩, .int .i64 0, .int .u64 0, .int .u64 0] 52)) (fun _ => ?_)
                clear hK K
                try simp only [Act.put, List.getElem_toArray, List.getElem_cons_succ, List.getElem_cons_zero, List.setIfInBounds_toArray, List.set_cons_zero, List.set_cons_succ]
                refine wpAnyH_ready (rs := [9]) (by kernel_rfl) (by simp) ?_
                refine (AllReadyH.cons rfl (fun K hK => ?_) AllReadyH.nil)
                · go_simp
                  refine hK.out _ _ (bel_alZ cnB (.cells #[.int .i64 mk, .string ms, .string mt, .int .i64 mp, .int .u64 ml, .int .u64 mr] 52)) (fun _ => ?_)
                  clear hK K
                  try simp only [Act.put, List.getElem_toArray, List.getElem_cons_succ, List.getElem_cons_zero, List.setIfInBounds_toArray, List.set_cons_zero, List.set_cons_succ]
                  refine wpAnyH_take (i := 10) (v := ?_) rfl (by kernel_rfl) (by kernel_rfl) (by kernel_rfl) (fun _ _ _ h => h) (Or.inl ⟨by kernel_rfl, ?_⟩) (by assumption) ?_
                  rotate_left
                  · intro w' hSw
                    go_simp
                    first | (with_reducible rfl) | done | assumption | skip
                  simp only [Act.put, List.getElem_toArray, List.getElem_cons_succ, List.getElem_cons_zero, List.setIfInBounds_toArray, List.set_cons_zero, List.set_cons_succ]
                  refine wpAnyH_done (by kernel_rfl) ?_ _
                  have kN := Blk.new nB #[.int .i64 mk, .string ms, .string mt, .int .i64 mp, .int .u64 ml, .int .u64 mr] 52
                  have cN := bel_alZ cnB (.cells #[.int .i64 mk, .string ms, .string mt, .int .i64 mp, .int .u64 ml, .int .u64 mr] 52)
                  generalize nB.alloc (.cells #[.int .i64 mk, .string ms, .string mt, .int .i64 mp, .int .u64 ml, .int .u64 mr] 52) = nW at *
                  generalize nB.heap.size = nb at *
                  have kA2 := kA.below cN kA.lt
                  have kB2 := kB.below cN kB.lt
                  have kC2 := kC.below cN kC.lt
                  have T4 := T.next cN
                  clear T kS kA kB kC cN BW KW KG2 KR2 Y0 Y1 Y2
                  clear t0 t1 zt u0 u1 zu y0 y1 y4 y5 y6 zs
                  have ka0 := (kA2.cell 0).trans rfl
                  have ka1 := (kA2.cell 1).trans rfl
                  have ka2 := (kA2.cell 2).trans rfl
                  have ka3 := (kA2.cell 3).trans rfl
                  have ka4 := (kA2.cell 4).trans rfl
                  have ka5 := (kA2.cell 5).trans rfl
                  have kaz := kA2.lt
                  have kb0 := (kB2.cell 0).trans rfl
                  have kb1 := (kB2.cell 1).trans rfl
                  have kb2 := (kB2.cell 2).trans rfl
                  have kb3 := (kB2.cell 3).trans rfl
                  have kb4 := (kB2.cell 4).trans rfl
                  have kb5 := (kB2.cell 5).trans rfl
                  have kbz := kB2.lt
                  have kc0 := (kC2.cell 0).trans rfl
                  have kc1 := (kC2.cell 1).trans rfl
                  have kc2 := (kC2.cell 2).trans rfl
                  have kc3 := (kC2.cell 3).trans rfl
                  have kc4 := (kC2.cell 4).trans rfl
                  have kc5 := (kC2.cell 5).trans rfl
                  have kcz := kC2.lt
                  have kd0 := (kN.cell 0).trans rfl
                  have kd1 := (kN.cell 1).trans rfl
                  have kd2 := (kN.cell 2).trans rfl
                  have kd3 := (kN.cell 3).trans rfl
                  have kd4 := (kN.cell 4).trans rfl
                  have kd5 := (kN.cell 5).trans rfl
                  have kdz := kN.lt
                  clear kA2 kB2 kC2 kN
                  go_wp2_with fail
                  exact HK.out _ _ _ _ _ _ _ _ _ _ _ _ _ _ _ _ _ _ _ _ _ _ _ _ _ _ _ _ _ _ _ _ _ _ _ _ _ _ _ _ _ _ _ _ _ _ _ _ _ _ _ _ _ _ _ _ _ _ _ _ _ _ _ _ _ _ _ _ _ _ _ _ _ _ _ _ _ _ _ _ _ _ _ _ _ _ _ _ _ _ _ _ _ _ _ _ _ _ _ _ _ _ _ _ _ _ _ _ _ _ _ _ _ _ _ _ _ _ _ _ _ _ _ _ _ _ _ _ _ _ _ _ _ _ _ _ _ _ _ _ _ _ _ _ _ _ _ _ _ _ _ _ _ _ _ _ _ _ _ ⟨_, _, _, T4⟩
            · have kM0 := Blk.new nA #[.int .i64 0, .string ⟨#[]⟩, .string ⟨#[]⟩, .int .i64 0, .int .u64 0, .int .u64 0] 52
              have hnb := cnA.size
              have cM := bel_alZ cnA (.cells #[.int .i64 0, .string ⟨#[]⟩, .string ⟨#[]⟩, .int .i64 0, .int .u64 0, .int .u64 0] 52)
              go_simp
              refine hK.out _ _ cM (fun _ => ?_)
              clear hK K
              try simp only [Act.put, List.getElem_toArray, List.getElem_cons_succ, List.getElem_cons_zero, List.setIfInBounds_toArray, List.set_cons_zero, List.set_cons_succ]
              generalize nA.alloc (.cells #[.int .i64 0, .string ⟨#[]⟩, .string ⟨#[]⟩, .int .i64 0, .int .u64 0, .int .u64 0] 52) = nM at *
              generalize nA.heap.size = nb at *
              refine wpAnyH_ready (rs := [4]) (by kernel_rfl) (by simp) ?_
              refine (AllReadyH.cons rfl (fun K hK => ?_) AllReadyH.nil)
              · go_simp
                refine (KR2 _ (BW.trans (Below.mono cM BW.size))).mono ?_
                rintro e nB ⟨rfl, bnB⟩
                have cnB : Below mW.heap.size mW nB := Below.trans cM (bnB.mono (Below.size cM))
                refine hK.out _ _ cnB (fun _ => ?_)
                clear hK K
                try simp only [Act.put, List.getElem_toArray, List.getElem_cons_succ, List.getElem_cons_zero, List.setIfInBounds_toArray, List.set_cons_zero, List.set_cons_succ]
                refine wpAnyH_take (i := 5) (v := ?_) rfl (by kernel_rfl) (by kernel_rfl) (by kernel_rfl) (fun _ _ _ h => h) (Or.inl ⟨by kernel_rfl, ?_⟩) (by assumption) ?_
                rotate_left
                · intro w' hSw
                  go_simp
                  first | (with_reducible rfl) | done | assumption | skip
                simp only [Act.put, List.getElem_toArray, List.getElem_cons_succ, List.getElem_cons_zero, List.setIfInBounds_toArray, List.set_cons_zero, List.set_cons_succ]
                refine wpAnyH_take (i := 6) (v := ?_) rfl (by kernel_rfl) (by kernel_rfl) (by kernel_rfl) (fun _ _ _ h => h) (Or.inl ⟨by kernel_rfl, ?_⟩) (by assumption) ?_
                rotate_left
                · intro w' hSw
                  go_simp
                  first | (with_reducible rfl) | done | assumption | skip
                simp only [Act.put, List.getElem_toArray, List.getElem_cons_succ, List.getElem_cons_zero, List.setIfInBounds_toArray, List.set_cons_zero, List.set_cons_succ]
                refine wpAnyH_take (i := 7) (v := ?_) rfl (by kernel_rfl) (by kernel_rfl) (by kernel_rfl) (fun _ _ _ h => h) (Or.inl ⟨by kernel_rfl, ?_⟩) (by assumption) ?_
                rotate_left
                · intro w' hSw
                  go_simp
                  first | (with_reducible rfl) | done | assumption | skip
                simp only [Act.put, List.getElem_toArray, List.getElem_cons_succ, List.getElem_cons_zero, List.setIfInBounds_toArray, List.set_cons_zero, List.set_cons_succ]
                have kM := kM0.below bnB kM0.lt
                have g0 := (kM.cell 0).trans rfl
                have h0 := kM.frozen 0
                have g1 := (kM.cell 1).trans rfl
                have h1 := kM.frozen 1
                have g2 := (kM.cell 2).trans rfl
                have h2 := kM.frozen 2
                have g3 := (kM.cell 3).trans rfl
                have h3 := kM.frozen 3
                have g4 := (kM.cell 4).trans rfl
                have h4 := kM.frozen 4
                have g5 := (kM.cell 5).trans rfl
                have h5 := kM.frozen 5
                have gz := kM.lt
                have kN : Blk ((((((nB.setCell ⟨nb, 0, none⟩ (.int .i64 mk)).setCell ⟨nb, 1, none⟩ (.string ms)).setCell ⟨nb, 2, none⟩ (.string mt)).setCell ⟨nb, 3, none⟩ (.int .i64 mp)).setCell ⟨nb, 4, none⟩ (.int .u64 ml)).setCell ⟨nb, 5, none⟩ (.int .u64 mr)) nb #[.int .i64 mk, .string ms, .string mt, .int .i64 mp, .int .u64 ml, .int .u64 mr] 52 := ((((((kM.set 0 (.int .i64 mk)).set 1 (.string ms)).set 2 (.string mt)).set 3 (.int .i64 mp)).set 4 (.int .u64 ml)).set 5 (.int .u64 mr))
                have cN := (bel_stZ (p := ⟨nb, 5, none⟩) (bel_stZ (p := ⟨nb, 4, none⟩) (bel_stZ (p := ⟨nb, 3, none⟩) (bel_stZ (p := ⟨nb, 2, none⟩) (bel_stZ (p := ⟨nb, 1, none⟩) (bel_stZ (p := ⟨nb, 0, none⟩) cnB hnb (.int .i64 mk)) hnb (.string ms)) hnb (.string mt)) hnb (.int .i64 mp)) hnb (.int .u64 ml)) hnb (.int .u64 mr))
                refine wpAnyH_ready (rs := [9]) (by kernel_rfl) (by simp) ?_
                refine (AllReadyH.cons rfl (fun K hK => ?_) AllReadyH.nil)
                · go_simp
                  refine hK.out _ _ cN (fun _ => ?_)
                  clear hK K
                  try simp only [Act.put, List.getElem_toArray, List.getElem_cons_succ, List.getElem_cons_zero, List.setIfInBounds_toArray, List.set_cons_zero, List.set_cons_succ]
                  refine wpAnyH_take (i := 10) (v := ?_) rfl (by kernel_rfl) (by kernel_rfl) (by kernel_rfl) (fun _ _ _ h => h) (Or.inl ⟨by kernel_rfl, ?_⟩) (by assumption) ?_
                  rotate_left
                  · intro w' hSw
                    go_simp
                    first | (with_reducible rfl) | done | assumption | skip
                  simp only [Act.put, List.getElem_toArray, List.getElem_cons_succ, List.getElem_cons_zero, List.setIfInBounds_toArray, List.set_cons_zero, List.set_cons_succ]
                  refine wpAnyH_done (by kernel_rfl) ?_ _
                  clear g0 g1 g2 g3 g4 g5 h0 h1 h2 h3 h4 h5 gz kM
                  generalize ((((((nB.setCell ⟨nb, 0, none⟩ (.int .i64 mk)).setCell ⟨nb, 1, none⟩ (.string ms)).setCell ⟨nb, 2, none⟩ (.string mt)).setCell ⟨nb, 3, none⟩ (.int .i64 mp)).setCell ⟨nb, 4, none⟩ (.int .u64 ml)).setCell ⟨nb, 5, none⟩ (.int .u64 mr)) = nW at *
                  have kA2 := kA.below cN kA.lt
                  have kB2 := kB.below cN kB.lt
                  have kC2 := kC.below cN kC.lt
                  have T4 := T.next cN
                  clear T kS kA kB kC cN BW KW KG2 KR2 Y0 Y1 Y2
                  clear t0 t1 zt u0 u1 zu y0 y1 y4 y5 y6 zs
                  have ka0 := (kA2.cell 0).trans rfl
                  have ka1 := (kA2.cell 1).trans rfl
                  have ka2 := (kA2.cell 2).trans rfl
                  have ka3 := (kA2.cell 3).trans rfl
                  have ka4 := (kA2.cell 4).trans rfl
                  have ka5 := (kA2.cell 5).trans rfl
                  have kaz := kA2.lt
                  have kb0 := (kB2.cell 0).trans rfl
                  have kb1 := (kB2.cell 1).trans rfl
                  have kb2 := (kB2.cell 2).trans rfl
                  have kb3 := (kB2.cell 3).trans rfl
                  have kb4 := (kB2.cell 4).trans rfl
                  have kb5 := (kB2.cell 5).trans rfl
                  have kbz := kB2.lt
                  have kc0 := (kC2.cell 0).trans rfl
                  have kc1 := (kC2.cell 1).trans rfl
                  have kc2 := (kC2.cell 2).trans rfl
                  have kc3 := (kC2.cell 3).trans rfl
                  have kc4 := (kC2.cell 4).trans rfl
                  have kc5 := (kC2.cell 5).trans rfl
                  have kcz := kC2.lt
                  have kd0 := (kN.cell 0).trans rfl
                  have kd1 := (kN.cell 1).trans rfl
                  have kd2 := (kN.cell 2).trans rfl
                  have kd3 := (kN.cell 3).trans rfl
                  have kd4 := (kN.cell 4).trans rfl
                  have kd5 := (kN.cell 5).trans rfl
                  have kdz := kN.lt
                  clear kA2 kB2 kC2 kN
                  go_wp2_with fail
                  exact HK.out _ _ _ _ _ _ _ _ _ _ _ _ _ _ _ _ _ _ _ _ _ _ _ _ _ _ _ _ _ _ _ _ _ _ _ _ _ _ _ _ _ _ _ _ _ _ _ _ _ _ _ _ _ _ _ _ _ _ _ _ _ _ _ _ _ _ _ _ _ _ _ _ _ _ _ _ _ _ _ _ _ _ _ _ _ _ _ _ _ _ _ _ _ _ _ _ _ _ _ _ _ _ _ _ _ _ _ _ _ _ _ _ _ _ _ _ _ _ _ _ _ _ _ _ _ _ _ _ _ _ _ _ _ _ _ _ _ _ _ _ _ _ _ _ _ _ _ _ _ _ _ _ _ _ _ _ _ _ _ ⟨_, _, _, T4⟩
          · have kM0 := (Blk.new mW #[.int .i64 0, .string ⟨#[]⟩, .string ⟨#[]⟩, .int .i64 0, .int .u64 0, .int .u64 0] 52).drew
            have cM : Below mW.heap.size mW (mW.alloc (.cells #[.int .i64 0, .string ⟨#[]⟩, .string ⟨#[]⟩, .int .i64 0, .int .u64 0, .int .u64 0] 52)).drew := (bel_alZ (Below.refl mW.heap.size mW) (.cells #[.int .i64 0, .string ⟨#[]⟩, .string ⟨#[]⟩, .int .i64 0, .int .u64 0, .int .u64 0] 52)).drew
            go_simp
            refine hK.out _ _ cM (fun _ => ?_)
            clear hK K
            try simp only [Act.put, List.getElem_toArray, List.getElem_cons_succ, List.getElem_cons_zero, List.setIfInBounds_toArray, List.set_cons_zero, List.set_cons_succ]
            generalize (mW.alloc (.cells #[.int .i64 0, .string ⟨#[]⟩, .string ⟨#[]⟩, .int .i64 0, .int .u64 0, .int .u64 0] 52)).drew = nM at *
            obtain ⟨nb, nbe⟩ : ∃ b, mW.heap.size = b := ⟨_, rfl⟩
            have kM1 : Blk nM nb #[.int .i64 0, .string ⟨#[]⟩, .string ⟨#[]⟩, .int .i64 0, .int .u64 0, .int .u64 0] 52 := by rw [← nbe]; exact kM0
            have hnb : mW.heap.size ≤ nb := by omega
            simp only [nbe]
            have Hne := show Hid (_ = _) from nbe
            have fnb : ∀ v, Below mW.heap.size mW v → Below nb mW v := fun v h => by rw [← nbe]; exact h
            clear kM0 nbe
            refine wpAnyH_ready (rs := [3]) (by kernel_rfl) (by simp) ?_
            refine (AllReadyH.cons rfl (fun K hK => ?_) AllReadyH.nil)
            · go_simp
              refine (KW _).mono ?_
              rintro e nA ⟨rfl, bnA⟩
              have cnA : Below mW.heap.size mW nA := Below.trans cM (bnA.mono (Below.size cM))
              refine hK.out _ _ (fnb _ cnA) (fun _ => ?_)
              clear hK K
              try simp only [Act.put, List.getElem_toArray, List.getElem_cons_succ, List.getElem_cons_zero, List.setIfInBounds_toArray, List.set_cons_zero, List.set_cons_succ]
              have kM2 := kM1.below bnA kM1.lt
              refine wpAnyH_ready (rs := [4]) (by kernel_rfl) (by simp) ?_
              refine (AllReadyH.cons rfl (fun K hK => ?_) AllReadyH.nil)
              · go_simp
                refine (KR2 _ (BW.trans (Below.mono cnA BW.size))).mono ?_
                rintro e nB ⟨rfl, bnB⟩
                have cnB : Below mW.heap.size mW nB := Below.trans cnA (bnB.mono (Below.size cnA))
                refine hK.out _ _ (fnb _ cnB) (fun _ => ?_)
                clear hK K
                try simp only [Act.put, List.getElem_toArray, List.getElem_cons_succ, List.getElem_cons_zero, List.setIfInBounds_toArray, List.set_cons_zero, List.set_cons_succ]
                refine wpAnyH_take (i := 5) (v := ?_) rfl (by kernel_rfl) (by kernel_rfl) (by kernel_rfl) (fun _ _ _ h => h) (Or.inl ⟨by kernel_rfl, ?_⟩) (by assumption) ?_
                rotate_left
                · intro w' hSw
                  go_simp
                  first | (with_reducible rfl) | done | assumption | skip
                simp only [Act.put, List.getElem_toArray, List.getElem_cons_succ, List.getElem_cons_zero, List.setIfInBounds_toArray, List.set_cons_zero, List.set_cons_succ]
                refine wpAnyH_take (i := 6) (v := ?_) rfl (by kernel_rfl) (by kernel_rfl) (by kernel_rfl) (fun _ _ _ h => h) (Or.inl ⟨by kernel_rfl, ?_⟩) (by assumption) ?_
                rotate_left
                · intro w' hSw
                  go_simp
                  first | (with_reducible rfl) | done | assumption | skip
                simp only [Act.put, List.getElem_toArray, List.getElem_cons_succ, List.getElem_cons_zero, List.setIfInBounds_toArray, List.set_cons_zero, List.set_cons_succ]
                refine wpAnyH_take (i := 7) (v := ?_) rfl (by kernel_rfl) (by kernel_rfl) (by kernel_rfl) (fun _ _ _ h => h) (Or.inl ⟨by kernel_rfl, ?_⟩) (by assumption) ?_
                rotate_left
                · intro w' hSw
                  go_simp
                  first | (with_reducible rfl) | done | assumption | skip
                simp only [Act.put, List.getElem_toArray, List.getElem_cons_succ, List.getElem_cons_zero, List.setIfInBounds_toArray, List.set_cons_zero, List.set_cons_succ]
                have kM := kM2.below bnB kM2.lt
                have g0 := (kM.cell 0).trans rfl
                have h0 := kM.frozen 0
                have g1 := (kM.cell 1).trans rfl
                have h1 := kM.frozen 1
                have g2 := (kM.cell 2).trans rfl
                have h2 := kM.frozen 2
                have g3 := (kM.cell 3).trans rfl
                have h3 := kM.frozen 3
                have g4 := (kM.cell 4).trans rfl
                have h4 := kM.frozen 4
                have g5 := (kM.cell 5).trans rfl
                have h5 := kM.frozen 5
                have gz := kM.lt
                have kN : Blk ((((((nB.setCell ⟨nb, 0, none⟩ (.int .i64 mk)).setCell ⟨nb, 1, none⟩ (.string ms)).setCell ⟨nb, 2, none⟩ (.string mt)).setCell ⟨nb, 3, none⟩ (.int .i64 mp)).setCell ⟨nb, 4, none⟩ (.int .u64 ml)).setCell ⟨nb, 5, none⟩ (.int .u64 mr)) nb #[.int .i64 mk, .string ms, .string mt, .int .i64 mp, .int .u64 ml, .int .u64 mr] 52 := ((((((kM.set 0 (.int .i64 mk)).set 1 (.string ms)).set 2 (.string mt)).set 3 (.int .i64 mp)).set 4 (.int .u64 ml)).set 5 (.int .u64 mr))
                have cN := (bel_stZ (p := ⟨nb, 5, none⟩) (bel_stZ (p := ⟨nb, 4, none⟩) (bel_stZ (p := ⟨nb, 3, none⟩) (bel_stZ (p := ⟨nb, 2, none⟩) (bel_stZ (p := ⟨nb, 1, none⟩) (bel_stZ (p := ⟨nb, 0, none⟩) cnB hnb (.int .i64 mk)) hnb (.string ms)) hnb (.string mt)) hnb (.int .i64 mp)) hnb (.int .u64 ml)) hnb (.int .u64 mr))
                refine wpAnyH_ready (rs := [9]) (by kernel_rfl) (by simp) ?_
                refine (AllReadyH.cons rfl (fun K hK => ?_) AllReadyH.nil)
                · go_simp
                  refine hK.out _ _ (fnb _ cN) (fun _ => ?_)
                  clear hK K
                  try simp only [Act.put, List.getElem_toArray, List.getElem_cons_succ, List.getElem_cons_zero, List.setIfInBounds_toArray, List.set_cons_zero, List.set_cons_succ]
                  refine wpAnyH_take (i := 10) (v := ?_) rfl (by kernel_rfl) (by kernel_rfl) (by kernel_rfl) (fun _ _ _ h => h) (Or.inl ⟨by kernel_rfl, ?_⟩) (by assumption) ?_
                  rotate_left
                  · intro w' hSw
                    go_simp
                    first | (with_reducible rfl) | done | assumption | skip
                  simp only [Act.put, List.getElem_toArray, List.getElem_cons_succ, List.getElem_cons_zero, List.setIfInBounds_toArray, List.set_cons_zero, List.set_cons_succ]
                  refine wpAnyH_done (by kernel_rfl) ?_ _
                  clear g0 g1 g2 g3 g4 g5 h0 h1 h2 h3 h4 h5 gz kM
                  generalize ((((((nB.setCell ⟨nb, 0, none⟩ (.int .i64 mk)).setCell ⟨nb, 1, none⟩ (.string ms)).setCell ⟨nb, 2, none⟩ (.string mt)).setCell ⟨nb, 3, none⟩ (.int .i64 mp)).setCell ⟨nb, 4, none⟩ (.int .u64 ml)).setCell ⟨nb, 5, none⟩ (.int .u64 mr)) = nW at *
                  have kA2 := kA.below cN kA.lt
                  have kB2 := kB.below cN kB.lt
                  have kC2 := kC.below cN kC.lt
                  have T4 := T.next cN
                  clear T kS kA kB kC cN BW KW KG2 KR2 Y0 Y1 Y2
                  clear t0 t1 zt u0 u1 zu y0 y1 y4 y5 y6 zs
                  have ka0 := (kA2.cell 0).trans rfl
                  have ka1 := (kA2.cell 1).trans rfl
                  have ka2 := (kA2.cell 2).trans rfl
                  have ka3 := (kA2.cell 3).trans rfl
                  have ka4 := (kA2.cell 4).trans rfl
                  have ka5 := (kA2.cell 5).trans rfl
                  have kaz := kA2.lt
                  have kb0 := (kB2.cell 0).trans rfl
                  have kb1 := (kB2.cell 1).trans rfl
                  have kb2 := (kB2.cell 2).trans rfl
                  have kb3 := (kB2.cell 3).trans rfl
                  have kb4 := (kB2.cell 4).trans rfl
                  have kb5 := (kB2.cell 5).trans rfl
                  have kbz := kB2.lt
                  have kc0 := (kC2.cell 0).trans rfl
                  have kc1 := (kC2.cell 1).trans rfl
                  have kc2 := (kC2.cell 2).trans rfl
                  have kc3 := (kC2.cell 3).trans rfl
                  have kc4 := (kC2.cell 4).trans rfl
                  have kc5 := (kC2.cell 5).trans rfl
                  have kcz := kC2.lt
                  have kd0 := (kN.cell 0).trans rfl
                  have kd1 := (kN.cell 1).trans rfl
                  have kd2 := (kN.cell 2).trans rfl
                  have kd3 := (kN.cell 3).trans rfl
                  have kd4 := (kN.cell 4).trans rfl
                  have kd5 := (kN.cell 5).trans rfl
                  have kdz := kN.lt
                  clear kA2 kB2 kC2 kN
                  go_wp2_with fail
                  exact HK.out _ _ _ _ _ _ _ _ _ _ _ _ _ _ _ _ _ _ _ _ _ _ _ _ _ _ _ _ _ _ _ _ _ _ _ _ _ _ _ _ _ _ _ _ _ _ _ _ _ _ _ _ _ _ _ _ _ _ _ _ _ _ _ _ _ _ _ _ _ _ _ _ _ _ _ _ _ _ _ _ _ _ _ _ _ _ _ _ _ _ _ _ _ _ _ _ _ _ _ _ _ _ _ _ _ _ _ _ _ _ _ _ _ _ _ _ _ _ _ _ _ _ _ _ _ _ _ _ _ _ _ _ _ _ _ _ _ _ _ _ _ _ _ _ _ _ _ _ _ _ _ _ _ _ _ _ _ _ _ ⟨_, _, _, T4⟩
  · have kM0 := (Blk.new w11 #[.int .i64 0, .string ⟨#[]⟩, .string ⟨#[]⟩, .int .i64 0, .int .u64 0, .int .u64 0] 52).drew
    have cM : Below w11.heap.size w11 (w11.alloc (.cells #[.int .i64 0, .string ⟨#[]⟩, .string ⟨#[]⟩, .int .i64 0, .int .u64 0, .int .u64 0] 52)).drew := (bel_alZ (Below.refl w11.heap.size w11) (.cells #[.int .i64 0, .string ⟨#[]⟩, .string ⟨#[]⟩, .int .i64 0, .int .u64 0, .int .u64 0] 52)).drew
    go_simp
    refine hK.out _ _ cM (fun _ => ?_)
    clear hK K
    try simp only [Act.put, List.getElem_toArray, List.getElem_cons_succ, List.getElem_cons_zero, List.setIfInBounds_toArray, List.set_cons_zero, List.set_cons_succ]
    generalize (w11.alloc (.cells #[.int .i64 0, .string ⟨#[]⟩, .string ⟨#[]⟩, .int .i64 0, .int .u64 0, .int .u64 0] 52)).drew = mM at *
    obtain ⟨mb, mbe⟩ : ∃ b, w11.heap.size = b := ⟨_, rfl⟩
    have kM1 : Blk mM mb #[.int .i64 0, .string ⟨#[]⟩, .string ⟨#[]⟩, .int .i64 0, .int .u64 0, .int .u64 0] 52 := by rw [← mbe]; exact kM0
    have hnb : w11.heap.size ≤ mb := by omega
    simp only [mbe]
    have Hme := show Hid (_ = _) from mbe
    have fmb : ∀ v, Below w11.heap.size w11 v → Below mb w11 v := fun v h => by rw [← mbe]; exact h
    clear kM0 mbe
    refine wpAnyH_ready (rs := [3]) (by kernel_rfl) (by simp) ?_
    refine (AllReadyH.cons rfl (fun K hK => ?_) AllReadyH.nil)
    · go_simp
      refine (KW _).mono ?_
      rintro e mA ⟨rfl, bmA⟩
      have cmA : Below w11.heap.size w11 mA := Below.trans cM (bmA.mono (Below.size cM))
      refine hK.out _ _ (fmb _ cmA) (fun _ => ?_)
      clear hK K
      try simp only [Act.put, List.getElem_toArray, List.getElem_cons_succ, List.getElem_cons_zero, List.setIfInBounds_toArray, List.set_cons_zero, List.set_cons_succ]
      have kM2 := kM1.below bmA kM1.lt
      refine wpAnyH_ready (rs := [4]) (by kernel_rfl) (by simp) ?_
      refine (AllReadyH.cons rfl (fun K hK => ?_) AllReadyH.nil)
      · go_simp
        refine (KG2 _ (BW.trans (Below.mono cmA BW.size))).mono ?_
        rintro e mB ⟨rfl, bmB⟩
        have cmB : Below w11.heap.size w11 mB := Below.trans cmA (bmB.mono (Below.size cmA))
        refine hK.out _ _ (fmb _ cmB) (fun _ => ?_)
        clear hK K
        try simp only [Act.put, List.getElem_toArray, List.getElem_cons_succ, List.getElem_cons_zero, List.setIfInBounds_toArray, List.set_cons_zero, List.set_cons_succ]
        refine wpAnyH_take (i := 5) (v := ?_) rfl (by kernel_rfl) (by kernel_rfl) (by kernel_rfl) (fun _ _ _ h => h) (Or.inl ⟨by kernel_rfl, ?_⟩) (by assumption) ?_
        rotate_left
        · intro w' hSw
          go_simp
          first | (with_reducible rfl) | done | assumption | skip
        simp only [Act.put, List.getElem_toArray, List.getElem_cons_succ, List.getElem_cons_zero, List.setIfInBounds_toArray, List.set_cons_zero, List.set_cons_succ]
        refine wpAnyH_take (i := 6) (v := ?_) rfl (by kernel_rfl) (by kernel_rfl) (by kernel_rfl) (fun _ _ _ h => h) (Or.inl ⟨by kernel_rfl, ?_⟩) (by assumption) ?_
        rotate_left
        · intro w' hSw
          go_simp
          first | (with_reducible rfl) | done | assumption | skip
        simp only [Act.put, List.getElem_toArray, List.getElem_cons_succ, List.getElem_cons_zero, List.setIfInBounds_toArray, List.set_cons_zero, List.set_cons_succ]
        refine wpAnyH_take (i := 7) (v := ?_) rfl (by kernel_rfl) (by kernel_rfl) (by kernel_rfl) (fun _ _ _ h => h) (Or.inl ⟨by kernel_rfl, ?_⟩) (by assumption) ?_
        rotate_left
        · intro w' hSw
          go_simp
          first | (with_reducible rfl) | done | assumption | skip
        simp only [Act.put, List.getElem_toArray, List.getElem_cons_succ, List.getElem_cons_zero, List.setIfInBounds_toArray, List.set_cons_zero, List.set_cons_succ]
        have kM := kM2.below bmB kM2.lt
        have g0 := (kM.cell 0).trans rfl
        have h0 := kM.frozen 0
        have g1 := (kM.cell 1).trans rfl
        have h1 := kM.frozen 1
        have g2 := (kM.cell 2).trans rfl
        have h2 := kM.frozen 2
        have g3 := (kM.cell 3).trans rfl
        have h3 := kM.frozen 3
        have g4 := (kM.cell 4).trans rfl
        have h4 := kM.frozen 4
        have g5 := (kM.cell 5).trans rfl
        have h5 := kM.frozen 5
        have gz := kM.lt
        have kN : Blk ((((((mB.setCell ⟨mb, 0, none⟩ (.int .i64 mk)).setCell ⟨mb, 1, none⟩ (.string ms)).setCell ⟨mb, 2, none⟩ (.string mt)).setCell ⟨mb, 3, none⟩ (.int .i64 mp)).setCell ⟨mb, 4, none⟩ (.int .u64 ml)).setCell ⟨mb, 5, none⟩ (.int .u64 mr)) mb #[.int .i64 mk, .string ms, .string mt, .int .i64 mp, .int .u64 ml, .int .u64 mr] 52 := ((((((kM.set 0 (.int .i64 mk)).set 1 (.string ms)).set 2 (.string mt)).set 3 (.int .i64 mp)).set 4 (.int .u64 ml)).set 5 (.int .u64 mr))
        have cN := (bel_stZ (p := ⟨mb, 5, none⟩) (bel_stZ (p := ⟨mb, 4, none⟩) (bel_stZ (p := ⟨mb, 3, none⟩) (bel_stZ (p := ⟨mb, 2, none⟩) (bel_stZ (p := ⟨mb, 1, none⟩) (bel_stZ (p := ⟨mb, 0, none⟩) cmB hnb (.int .i64 mk)) hnb (.string ms)) hnb (.string mt)) hnb (.int .i64 mp)) hnb (.int .u64 ml)) hnb (.int .u64 mr))
        refine wpAnyH_ready (rs := [9]) (by kernel_rfl) (by simp) ?_
        refine (AllReadyH.cons rfl (fun K hK => ?_) AllReadyH.nil)
        · go_simp
          refine hK.out _ _ (fmb _ cN) (fun _ => ?_)
          clear hK K
          try simp only [Act.put, List.getElem_toArray, List.getElem_cons_succ, List.getElem_cons_zero, List.setIfInBounds_toArray, List.set_cons_zero, List.set_cons_succ]
          refine wpAnyH_take (i := 10) (v := ?_) rfl (by kernel_rfl) (by kernel_rfl) (by kernel_rfl) (fun _ _ _ h => h) (Or.inl ⟨by kernel_rfl, ?_⟩) (by assumption) ?_
          rotate_left
          · intro w' hSw
            go_simp
            first | (with_reducible rfl) | done | assumption | skip
          simp only [Act.put, List.getElem_toArray, List.getElem_cons_succ, List.getElem_cons_zero, List.setIfInBounds_toArray, List.set_cons_zero, List.set_cons_succ]
          refine wpAnyH_done (by kernel_rfl) ?_ _
          clear g0 g1 g2 g3 g4 g5 h0 h1 h2 h3 h4 h5 gz kM
          generalize ((((((mB.setCell ⟨mb, 0, none⟩ (.int .i64 mk)).setCell ⟨mb, 1, none⟩ (.string ms)).setCell ⟨mb, 2, none⟩ (.string mt)).setCell ⟨mb, 3, none⟩ (.int .i64 mp)).setCell ⟨mb, 4, none⟩ (.int .u64 ml)).setCell ⟨mb, 5, none⟩ (.int .u64 mr)) = mW at *
          have kA2 := kA.below cN kA.lt
          have kB2 := kB.below cN kB.lt
          have T2 := T.next cN
          have kS2 := kS.below cN kS.lt
          have BW2 := BW.trans (cN.mono BW.size)
          clear T kS kA kB cN BW Y0 Y1 Y2
          clear t0 t1 zt u0 u1 zu y0 y1 y4 y5 y6 zs
          have T := T2
          have kS := kS2
          have kA := kA2
          have kB := kB2
          have kC := kN
          have BW := BW2
          clear T2 kS2 kA2 kB2 kN BW2
          have t0 := (T.t.cell 0).trans rfl
          have t1 := (T.t.cell 1).trans rfl
          have zt := T.t.lt
          have u0 := (T.u.cell 0).trans rfl
          have u1 := (T.u.cell 1).trans rfl
          have zu := T.u.lt
          have y0 := (kS.cell 0).trans rfl
          have y1 := (kS.cell 1).trans rfl
          have y4 := (kS.cell 4).trans rfl
          have y5 := (kS.cell 5).trans rfl
          have y6 := (kS.cell 6).trans rfl
          have zs := kS.lt
          go_upto_region 43 with fail
          have nd : Below mW.heap.size mW mW.drew := (Below.refl _ _).drew
          have Y0 : ∀ w', Below mW.heap.size mW w' → w'.cell? ⟨ub, 0, none⟩ = some (.int .i64 wd) := fun w' hb => ((T.u.below hb T.u.lt).cell 0).trans rfl
          have Y1 : ∀ w', Below mW.heap.size mW w' → w'.cell? ⟨ub, 1, none⟩ = some (.slice la2 (itemsO (stepO x.key x.val o)).length c2) := fun w' hb => ((T.u.below hb T.u.lt).cell 1).trans rfl
          have Y2 : ∀ w', Below mW.heap.size mW w' → w'.cell? ⟨sb, 1, none⟩ = some (.int .i64 x.a) := fun w' hb => ((kS.below hb kS.lt).cell 1).trans rfl
          refine wp_region_held (S := fun w' => Below mW.heap.size mW w') (by kernel_rfl) ?_
          refine wpAnyH_take (i := 0) (v := .agg #[.int .i64 wd, .slice la2 (itemsO (stepO x.key x.val o)).length c2]) rfl (by kernel_rfl) (by kernel_rfl) (by kernel_rfl) (fun _ _ _ h => h) (Or.inl ⟨by kernel_rfl, ?_⟩) (by assumption) ?_
          · intro w' hSw
            have z0 := Y0 _ hSw
            have z1 := Y1 _ hSw
            go_simp
            first | (with_reducible rfl) | done | assumption | skip
          simp only [Act.put, List.getElem_toArray, List.getElem_cons_succ, List.getElem_cons_zero, List.setIfInBounds_toArray, List.set_cons_zero, List.set_cons_succ]
          refine wpAnyH_take (i := 1) (v := ?_) rfl (by kernel_rfl) (by kernel_rfl) (by kernel_rfl) (fun _ _ _ h => h) (Or.inl ⟨by kernel_rfl, ?_⟩) (by assumption) ?_
          rotate_left
          · intro w' hSw
            go_simp
            first | (with_reducible rfl) | done | assumption | skip
          simp only [Act.put, List.getElem_toArray, List.getElem_cons_succ, List.getElem_cons_zero, List.setIfInBounds_toArray, List.set_cons_zero, List.set_cons_succ]
          refine wpAnyH_take (i := 2) (v := .int .i64 x.a) rfl (by kernel_rfl) (by kernel_rfl) (by kernel_rfl) (fun _ _ _ h => h) (Or.inl ⟨by kernel_rfl, ?_⟩) (by assumption) ?_
          · intro w' hSw
            have z2 := Y2 _ hSw
            go_simp
            first | (with_reducible rfl) | done | assumption | skip
          simp only [Act.put, List.getElem_toArray, List.getElem_cons_succ, List.getElem_cons_zero, List.setIfInBounds_toArray, List.set_cons_zero, List.set_cons_succ]
          refine wpAnyH_ready (rs := [3, 8]) (by kernel_rfl) (by simp) ?_
          refine (AllReadyH.cons rfl (fun K hK => ?_) (AllReadyH.cons rfl (fun K hK => ?_) AllReadyH.nil))
          · go_simp
            refine (KW _).mono ?_
            rintro e nA ⟨rfl, bnA⟩
            have cnA : Below mW.heap.size mW nA := Below.trans nd (bnA.mono (Below.size nd))
            refine hK.out _ _ cnA (fun _ => ?_)
            clear hK K
            try simp only [Act.put, List.getElem_toArray, List.getElem_cons_succ, List.getElem_cons_zero, List.setIfInBounds_toArray, List.set_cons_zero, List.set_cons_succ]
            refine wpAnyH_ready (rs := [4, 8]) (by kernel_rfl) (by simp) ?_
            refine (AllReadyH.cons rfl (fun K hK => ?_) (AllReadyH.cons rfl (fun K hK => ?_) AllReadyH.nil))
            · go_simp
              refine (KR2 _ (BW.trans (Below.mono cnA BW.size))).mono ?_
              rintro e nB ⟨rfl, bnB⟩
              have cnB : Below mW.heap.size mW nB := Below.trans cnA (bnB.mono (Below.size cnA))
              refine hK.out _ _ cnB (fun _ => ?_)
              clear hK K
              try simp only [Act.put, List.getElem_toArray, List.getElem_cons_succ, List.getElem_cons_zero, List.setIfInBounds_toArray, List.set_cons_zero, List.set_cons_succ]
              refine wpAnyH_take (i := 5) (v := ?_) rfl (by kernel_rfl) (by kernel_rfl) (by kernel_rfl) (fun _ _ _ h => h) (Or.inl ⟨by kernel_rfl, ?_⟩) (by assumption) ?_
              rotate_left
              · intro w' hSw
                go_simp
                first | (with_reducible rfl) | done | assumption | skip
              simp only [Act.put, List.getElem_toArray, List.getElem_cons_succ, List.getElem_cons_zero, List.setIfInBounds_toArray, List.set_cons_zero, List.set_cons_succ]
              refine wpAnyH_take (i := 6) (v := ?_) rfl (by kernel_rfl) (by kernel_rfl) (by kernel_rfl) (fun _ _ _ h => h) (Or.inl ⟨by kernel_rfl, ?_⟩) (by assumption) ?_
              rotate_left
              · intro w' hSw
                go_simp
                first | (with_reducible rfl) | done | assumption | skip
              simp only [Act.put, List.getElem_toArray, List.getElem_cons_succ, List.getElem_cons_zero, List.setIfInBounds_toArray, List.set_cons_zero, List.set_cons_succ]
              refine wpAnyH_take (i := 7) (v := ?_) rfl (by kernel_rfl) (by kernel_rfl) (by kernel_rfl) (fun _ _ _ h => h) (Or.inl ⟨by kernel_rfl, ?_⟩) (by assumption) ?_
              rotate_left
              · intro w' hSw
                go_simp
                first | (with_reducible rfl) | done | assumption | skip
              simp only [Act.put, List.getElem_toArray, List.getElem_cons_succ, List.getElem_cons_zero, List.setIfInBounds_toArray, List.set_cons_zero, List.set_cons_succ]
              refine wpAnyH_ready (rs := [8]) (by kernel_rfl) (by simp) ?_
              refine (AllReadyH.cons rfl (fun K hK => ?_) AllReadyH.nil)
              · go_simp
                refine hK.out _ _ (bel_alZ cnB (.cells #[.int .i64 0, .string ⟨#[]⟩, .string ⟨#[]⟩, .int .i64 0, .int .u64 0, .int .u64 0] 52)) (fun _ => ?_)
                clear hK K
                try simp only [Act.put, List.getElem_toArray, List.getElem_cons_succ, List.getElem_cons_zero, List.setIfInBounds_toArray, List.set_cons_zero, List.set_cons_succ]
                refine wpAnyH_ready (rs := [9]) (by kernel_rfl) (by simp) ?_
                refine (AllReadyH.cons rfl (fun K hK => ?_) AllReadyH.nil)
                · go_simp
                  refine hK.out _ _ (bel_alZ cnB (.cells #[.int .i64 mk, .string ms, .string mt, .int .i64 mp, .int .u64 ml, .int .u64 mr] 52)) (fun _ => ?_)
                  clear hK K
                  try simp only [Act.put, List.getElem_toArray, List.getElem_cons_succ, List.getElem_cons_zero, List.setIfInBounds_toArray, List.set_cons_zero, List.set_cons_succ]
                  refine wpAnyH_take (i := 10) (v := ?_) rfl (by kernel_rfl) (by kernel_rfl) (by kernel_rfl) (fun _ _ _ h => h) (Or.inl ⟨by kernel_rfl, ?_⟩) (by assumption) ?_
                  rotate_left
                  · intro w' hSw
                    go_simp
                    first | (with_reducible rfl) | done | assumption | skip
                  simp only [Act.put, List.getElem_toArray, List.getElem_cons_succ, List.getElem_cons_zero, List.setIfInBounds_toArray, List.set_cons_zero, List.set_cons_succ]
                  refine wpAnyH_done (by kernel_rfl) ?_ _
                  have kN := Blk.new nB #[.int .i64 mk, .string ms, .string mt, .int .i64 mp, .int .u64 ml, .int .u64 mr] 52
                  have cN := bel_alZ cnB (.cells #[.int .i64 mk, .string ms, .string mt, .int .i64 mp, .int .u64 ml, .int .u64 mr] 52)
                  generalize nB.alloc (.cells #[.int .i64 mk, .string ms, .string mt, .int .i64 mp, .int .u64 ml, .int .u64 mr] 52) = nW at *
                  generalize nB.heap.size = nb at *
                  have kA2 := kA.below cN kA.lt
                  have kB2 := kB.below cN kB.lt
                  have kC2 := kC.below cN kC.lt
                  have T4 := T.next cN
                  clear T kS kA kB kC cN BW KW KG2 KR2 Y0 Y1 Y2
                  clear t0 t1 zt u0 u1 zu y0 y1 y4 y5 y6 zs
                  have ka0 := (kA2.cell 0).trans rfl
                  have ka1 := (kA2.cell 1).trans rfl
                  have ka2 := (kA2.cell 2).trans rfl
                  have ka3 := (kA2.cell 3).trans rfl
                  have ka4 := (kA2.cell 4).trans rfl
                  have ka5 := (kA2.cell 5).trans rfl
                  have kaz := kA2.lt
                  have kb0 := (kB2.cell 0).trans rfl
                  have kb1 := (kB2.cell 1).trans rfl
                  have kb2 := (kB2.cell 2).trans rfl
                  have kb3 := (kB2.cell 3).trans rfl
                  have kb4 := (kB2.cell 4).trans rfl
                  have kb5 := (kB2.cell 5).trans rfl
                  have kbz := kB2.lt
                  have kc0 := (kC2.cell 0).trans rfl
                  have kc1 := (kC2.cell 1).trans rfl
                  have kc2 := (kC2.cell 2).trans rfl
                  have kc3 := (kC2.cell 3).trans rfl
                  have kc4 := (kC2.cell 4).trans rfl
                  have kc5 := (kC2.cell 5).trans rfl
                  have kcz := kC2.lt
                  have kd0 := (kN.cell 0).trans rfl
                  have kd1 := (kN.cell 1).trans rfl
                  have kd2 := (kN.cell 2).trans rfl
                  have kd3 := (kN.cell 3).trans rfl
                  have kd4 := (kN.cell 4).trans rfl
                  have kd5 := (kN.cell 5).trans rfl
                  have kdz := kN.lt
                  clear kA2 kB2 kC2 kN
                  go_wp2_with fail
                  exact HK.out _ _ _ _ _ _ _ _ _ _ _ _ _ _ _ _ _ _ _ _ _ _ _ _ _ _ _ _ _ _ _ _ _ _ _ _ _ _ _ _ _ _ _ _ _ _ _ _ _ _ _ _ _ _ _ _ _ _ _ _ _ _ _ _ _ _ _ _ _ _ _ _ _ _ _ _ _ _ _ _ _ _ _ _ _ _ _ _ _ _ _ _ _ _ _ _ _ _ _ _ _ _ _ _ _ _ _ _ _ _ _ _ _ _ _ _ _ _ _ _ _ _ _ _ _ _ _ _ _ _ _ _ _ _ _ _ _ _ _ _ _ _ _ _ _ _ _ _ _ _ _ _ _ _ _ _ _ _ _ ⟨_, _, _, T4⟩
            · have kM0 := Blk.new nA #[.int .i64 0, .string ⟨#[]⟩, .string ⟨#[]⟩, .int .i64 0, .int .u64 0, .int .u64 0] 52
              have hnb := cnA.size
              have cM := bel_alZ cnA (.cells #[.int .i64 0, .string ⟨#[]⟩, .string ⟨#[]⟩, .int .i64 0, .int .u64 0, .int .u64 0] 52)
              go_simp
              refine hK.out _ _ cM (fun _ => ?_)
              clear hK K
              try simp only [Act.put, List.getElem_toArray, List.getElem_cons_succ, List.getElem_cons_zero, List.setIfInBounds_toArray, List.set_cons_zero, List.set_cons_succ]
              generalize nA.alloc (.cells #[.int .i64 0, .string ⟨#[]⟩, .string ⟨#[]⟩, .int .i64 0, .int .u64 0, .int .u64 0] 52) = nM at *
              generalize nA.heap.size = nb at *
              refine wpAnyH_ready (rs := [4]) (by kernel_rfl) (by simp) ?_
              refine (AllReadyH.cons rfl (fun K hK => ?_) AllReadyH.nil)
              · go_simp
                refine (KR2 _ (BW.trans (Below.mono cM BW.size))).mono ?_
                rintro e nB ⟨rfl, bnB⟩
                have cnB : Below mW.heap.size mW nB := Below.trans cM (bnB.mono (Below.size cM))
                refine hK.out _ _ cnB (fun _ => ?_)
                clear hK K
                try simp only [Act.put, List.getElem_toArray, List.getElem_cons_succ, List.getElem_cons_zero, List.setIfInBounds_toArray, List.set_cons_zero, List.set_cons_succ]
                refine wpAnyH_take (i := 5) (v := ?_) rfl (by kernel_rfl) (by kernel_rfl) (by kernel_rfl) (fun _ _ _ h => h) (Or.inl ⟨by kernel_rfl, ?_⟩) (by assumption) ?_
                rotate_left
                · intro w' hSw
                  go_simp
                  first | (with_reducible rfl) | done | assumption | skip
                simp only [Act.put, List.getElem_toArray, List.getElem_cons_succ, List.getElem_cons_zero, List.setIfInBounds_toArray, List.set_cons_zero, List.set_cons_succ]
                refine wpAnyH_take (i := 6) (v := ?_) rfl (by kernel_rfl) (by kernel_rfl) (by kernel_rfl) (fun _ _ _ h => h) (Or.inl ⟨by kernel_rfl, ?_⟩) (by assumption) ?_
                rotate_left
                · intro w' hSw
                  go_simp
                  first | (with_reducible rfl) | done | assumption | skip
                simp only [Act.put, List.getElem_toArray, List.getElem_cons_succ, List.getElem_cons_zero, List.setIfInBounds_toArray, List.set_cons_zero, List.set_cons_succ]
                refine wpAnyH_take (i := 7) (v := ?_) rfl (by kernel_rfl) (by kernel_rfl) (by kernel_rfl) (fun _ _ _ h => h) (Or.inl ⟨by kernel_rfl, ?_⟩) (by assumption) ?_
                rotate_left
                · intro w' hSw
                  go_simp
                  first | (with_reducible rfl) | done | assumption | skip
                simp only [Act.put, List.getElem_toArray, List.getElem_cons_succ, List.getElem_cons_zero, List.setIfInBounds_toArray, List.set_cons_zero, List.set_cons_succ]
                have kM := kM0.below bnB kM0.lt
                have g0 := (kM.cell 0).trans rfl
                have h0 := kM.frozen 0
                have g1 := (kM.cell 1).trans rfl
                have h1 := kM.frozen 1
                have g2 := (kM.cell 2).trans rfl
                have h2 := kM.frozen 2
                have g3 := (kM.cell 3).trans rfl
                have h3 := kM.frozen 3
                have g4 := (kM.cell 4).trans rfl
                have h4 := kM.frozen 4
                have g5 := (kM.cell 5).trans rfl
                have h5 := kM.frozen 5
                have gz := kM.lt
                have kN : Blk ((((((nB.setCell ⟨nb, 0, none⟩ (.int .i64 mk)).setCell ⟨nb, 1, none⟩ (.string ms)).setCell ⟨nb, 2, none⟩ (.string mt)).setCell ⟨nb, 3, none⟩ (.int .i64 mp)).setCell ⟨nb, 4, none⟩ (.int .u64 ml)).setCell ⟨nb, 5, none⟩ (.int .u64 mr)) nb #[.int .i64 mk, .string ms, .string mt, .int .i64 mp, .int .u64 ml, .int .u64 mr] 52 := ((((((kM.set 0 (.int .i64 mk)).set 1 (.string ms)).set 2 (.string mt)).set 3 (.int .i64 mp)).set 4 (.int .u64 ml)).set 5 (.int .u64 mr))
                have cN := (bel_stZ (p := ⟨nb, 5, none⟩) (bel_stZ (p := ⟨nb, 4, none⟩) (bel_stZ (p := ⟨nb, 3, none⟩) (bel_stZ (p := ⟨nb, 2, none⟩) (bel_stZ (p := ⟨nb, 1, none⟩) (bel_stZ (p := ⟨nb, 0, none⟩) cnB hnb (.int .i64 mk)) hnb (.string ms)) hnb (.string mt)) hnb (.int .i64 mp)) hnb (.int .u64 ml)) hnb (.int .u64 mr))
                refine wpAnyH_ready (rs := [9]) (by kernel_rfl) (by simp) ?_
                refine (AllReadyH.cons rfl (fun K hK => ?_) AllReadyH.nil)
                · go_simp
                  refine hK.out _ _ cN (fun _ => ?_)
                  clear hK K
                  try simp only [Act.put, List.getElem_toArray, List.getElem_cons_succ, List.getElem_cons_zero, List.setIfInBounds_toArray, List.set_cons_zero, List.set_cons_succ]
                  refine wpAnyH_take (i := 10) (v := ?_) rfl (by kernel_rfl) (by kernel_rfl) (by kernel_rfl) (fun _ _ _ h => h) (Or.inl ⟨by kernel_rfl, ?_⟩) (by assumption) ?_
                  rotate_left
                  · intro w' hSw
                    go_simp
                    first | (with_reducible rfl) | done | assumption | skip
                  simp only [Act.put, List.getElem_toArray, List.getElem_cons_succ, List.getElem_cons_zero, List.setIfInBounds_toArray, List.set_cons_zero, List.set_cons_succ]
                  refine wpAnyH_done (by kernel_rfl) ?_ _
                  clear g0 g1 g2 g3 g4 g5 h0 h1 h2 h3 h4 h5 gz kM
                  generalize ((((((nB.setCell ⟨nb, 0, none⟩ (.int .i64 mk)).setCell ⟨nb, 1, none⟩ (.string ms)).setCell ⟨nb, 2, none⟩ (.string mt)).setCell ⟨nb, 3, none⟩ (.int .i64 mp)).setCell ⟨nb, 4, none⟩ (.int .u64 ml)).setCell ⟨nb, 5, none⟩ (.int .u64 mr)) = nW at *
                  have kA2 := kA.below cN kA.lt
                  have kB2 := kB.below cN kB.lt
                  have kC2 := kC.below cN kC.lt
                  have T4 := T.next cN
                  clear T kS kA kB kC cN BW KW KG2 KR2 Y0 Y1 Y2
                  clear t0 t1 zt u0 u1 zu y0 y1 y4 y5 y6 zs
                  have ka0 := (kA2.cell 0).trans rfl
                  have ka1 := (kA2.cell 1).trans rfl
                  have ka2 := (kA2.cell 2).trans rfl
                  have ka3 := (kA2.cell 3).trans rfl
                  have ka4 := (kA2.cell 4).trans rfl
                  have ka5 := (kA2.cell 5).trans rfl
                  have kaz := kA2.lt
                  have kb0 := (kB2.cell 0).trans rfl
                  have kb1 := (kB2.cell 1).trans rfl
                  have kb2 := (kB2.cell 2).trans rfl
                  have kb3 := (kB2.cell 3).trans rfl
                  have kb4 := (kB2.cell 4).trans rfl
                  have kb5 := (kB2.cell 5).trans rfl
                  have kbz := kB2.lt
                  have kc0 := (kC2.cell 0).trans rfl
                  have kc1 := (kC2.cell 1).trans rfl
                  have kc2 := (kC2.cell 2).trans rfl
                  have kc3 := (kC2.cell 3).trans rfl
                  have kc4 := (kC2.cell 4).trans rfl
                  have kc5 := (kC2.cell 5).trans rfl
                  have kcz := kC2.lt
                  have kd0 := (kN.cell 0).trans rfl
                  have kd1 := (kN.cell 1).trans rfl
                  have kd2 := (kN.cell 2).trans rfl
                  have kd3 := (kN.cell 3).trans rfl
                  have kd4 := (kN.cell 4).trans rfl
                  have kd5 := (kN.cell 5).trans rfl
                  have kdz := kN.lt
                  clear kA2 kB2 kC2 kN
                  go_wp2_with fail
                  exact HK.out _ _ _ _ _ _ _ _ _ _ _ _ _ _ _ _ _ _ _ _ _ _ _ _ _ _ _ _ _ _ _ _ _ _ _ _ _ _ _ _ _ _ _ _ _ _ _ _ _ _ _ _ _ _ _ _ _ _ _ _ _ _ _ _ _ _ _ _ _ _ _ _ _ _ _ _ _ _ _ _ _ _ _ _ _ _ _ _ _ _ _ _ _ _ _ _ _ _ _ _ _ _ _ _ _ _ _ _ _ _ _ _ _ _ _ _ _ _ _ _ _ _ _ _ _ _ _ _ _ _ _ _ _ _ _ _ _ _ _ _ _ _ _ _ _ _ _ _ _ _ _ _ _ _ _ _ _ _ _ ⟨_, _, _, T4⟩
          · have kM0 := (Blk.new mW #[.int .i64 0, .string ⟨#[]⟩, .string ⟨#[]⟩, .int .i64 0, .int .u64 0, .int .u64 0] 52).drew
            have cM : Below mW.heap.size mW (mW.alloc (.cells #[.int .i64 0, .string ⟨#[]⟩, .string ⟨#[]⟩, .int .i64 0, .int .u64 0, .int .u64 0] 52)).drew := (bel_alZ (Below.refl mW.heap.size mW) (.cells #[.int .i64 0, .string ⟨#[]⟩, .string ⟨#[]⟩, .int .i64 0, .int .u64 0, .int .u64 0] 52)).drew
            go_simp
            refine hK.out _ _ cM (fun _ => ?_)
            clear hK K
            try simp only [Act.put, List.getElem_toArray, List.getElem_cons_succ, List.getElem_cons_zero, List.setIfInBounds_toArray, List.set_cons_zero, List.set_cons_succ]
            generalize (mW.alloc (.cells #[.int .i64 0, .string ⟨#[]⟩, .string ⟨#[]⟩, .int .i64 0, .int .u64 0, .int .u64 0] 52)).drew = nM at *
            obtain ⟨nb, nbe⟩ : ∃ b, mW.heap.size = b := ⟨_, rfl⟩
            have kM1 : Blk nM nb #[.int .i64 0, .string ⟨#[]⟩, .string ⟨#[]⟩, .int .i64 0, .int .u64 0, .int .u64 0] 52 := by rw [← nbe]; exact kM0
            have hnb : mW.heap.size ≤ nb := by omega
            simp only [nbe]
            have Hne := show Hid (_ = _) from nbe
            have fnb : ∀ v, Below mW.heap.size mW v → Below nb mW v := fun v h => by rw [← nbe]; exact h
            clear kM0 nbe
            refine wpAnyH_ready (rs := [3]) (by kernel_rfl) (by simp) ?_
            refine (AllReadyH.cons rfl (fun K hK => ?_) AllReadyH.nil)
            · go_simp
              refine (KW _).mono ?_
              rintro e nA ⟨rfl, bnA⟩
              have cnA : Below mW.heap.size mW nA := Below.trans cM (bnA.mono (Below.size cM))
              refine hK.out _ _ (fnb _ cnA) (fun _ => ?_)
              clear hK K
              try simp only [Act.put, List.getElem_toArray, List.getElem_cons_succ, List.getElem_cons_zero, List.setIfInBounds_toArray, List.set_cons_zero, List.set_cons_succ]
              have kM2 := kM1.below bnA kM1.lt
              refine wpAnyH_ready (rs := [4]) (by kernel_rfl) (by simp) ?_
              refine (AllReadyH.cons rfl (fun K hK => ?_) AllReadyH.nil)
              · go_simp
                refine (KR2 _ (BW.trans (Below.mono cnA BW.size))).mono ?_
                rintro e nB ⟨rfl, bnB⟩
                have cnB : Below mW.heap.size mW nB := Below.trans cnA (bnB.mono (Below.size cnA))
                refine hK.out _ _ (fnb _ cnB) (fun _ => ?_)
                clear hK K
                try simp only [Act.put, List.getElem_toArray, List.getElem_cons_succ, List.getElem_cons_zero, List.setIfInBounds_toArray, List.set_cons_zero, List.set_cons_succ]
                refine wpAnyH_take (i := 5) (v := ?_) rfl (by kernel_rfl) (by kernel_rfl) (by kernel_rfl) (fun _ _ _ h => h) (Or.inl ⟨by kernel_rfl, ?_⟩) (by assumption) ?_
                rotate_left
                · intro w' hSw
                  go_simp
                  first | (with_reducible rfl) | done | assumption | skip
                simp only [Act.put, List.getElem_toArray, List.getElem_cons_succ, List.getElem_cons_zero, List.setIfInBounds_toArray, List.set_cons_zero, List.set_cons_succ]
                refine wpAnyH_take (i := 6) (v := ?_) rfl (by kernel_rfl) (by kernel_rfl) (by kernel_rfl) (fun _ _ _ h => h) (Or.inl ⟨by kernel_rfl, ?_⟩) (by assumption) ?_
                rotate_left
                · intro w' hSw
                  go_simp
                  first | (with_reducible rfl) | done | assumption | skip
                simp only [Act.put, List.getElem_toArray, List.getElem_cons_succ, List.getElem_cons_zero, List.setIfInBounds_toArray, List.set_cons_zero, List.set_cons_succ]
                refine wpAnyH_take (i := 7) (v := ?_) rfl (by kernel_rfl) (by kernel_rfl) (by kernel_rfl) (fun _ _ _ h => h) (Or.inl ⟨by kernel_rfl, ?_⟩) (by assumption) ?_
                rotate_left
                · intro w' hSw
                  go_simp
                  first | (with_reducible rfl) | done | assumption | skip
                simp only [Act.put, List.getElem_toArray, List.getElem_cons_succ, List.getElem_cons_zero, List.setIfInBounds_toArray, List.set_cons_zero, List.set_cons_succ]
                have kM := kM2.below bnB kM2.lt
                have g0 := (kM.cell 0).trans rfl
                have h0 := kM.frozen 0
                have g1 := (kM.cell 1).trans rfl
                have h1 := kM.frozen 1
                have g2 := (kM.cell 2).trans rfl
                have h2 := kM.frozen 2
                have g3 := (kM.cell 3).trans rfl
                have h3 := kM.frozen 3
                have g4 := (kM.cell 4).trans rfl
                have h4 := kM.frozen 4
                have g5 := (kM.cell 5).trans rfl
                have h5 := kM.frozen 5
                have gz := kM.lt
                have kN : Blk ((((((nB.setCell ⟨nb, 0, none⟩ (.int .i64 mk)).setCell ⟨nb, 1, none⟩ (.string ms)).setCell ⟨nb, 2, none⟩ (.string mt)).setCell ⟨nb, 3, none⟩ (.int .i64 mp)).setCell ⟨nb, 4, none⟩ (.int .u64 ml)).setCell ⟨nb, 5, none⟩ (.int .u64 mr)) nb #[.int .i64 mk, .string ms, .string mt, .int .i64 mp, .int .u64 ml, .int .u64 mr] 52 := ((((((kM.set 0 (.int .i64 mk)).set 1 (.string ms)).set 2 (.string mt)).set 3 (.int .i64 mp)).set 4 (.int .u64 ml)).set 5 (.int .u64 mr))
                have cN := (bel_stZ (p := ⟨nb, 5, none⟩) (bel_stZ (p := ⟨nb, 4, none⟩) (bel_stZ (p := ⟨nb, 3, none⟩) (bel_stZ (p := ⟨nb, 2, none⟩) (bel_stZ (p := ⟨nb, 1, none⟩) (bel_stZ (p := ⟨nb, 0, none⟩) cnB hnb (.int .i64 mk)) hnb (.string ms)) hnb (.string mt)) hnb (.int .i64 mp)) hnb (.int .u64 ml)) hnb (.int .u64 mr))
                refine wpAnyH_ready (rs := [9]) (by kernel_rfl) (by simp) ?_
                refine (AllReadyH.cons rfl (fun K hK => ?_) AllReadyH.nil)
                · go_simp
                  refine hK.out _ _ (fnb _ cN) (fun _ => ?_)
                  clear hK K
                  try simp only [Act.put, List.getElem_toArray, List.getElem_cons_succ, List.getElem_cons_zero, List.setIfInBounds_toArray, List.set_cons_zero, List.set_cons_succ]
                  refine wpAnyH_take (i := 10) (v := ?_) rfl (by kernel_rfl) (by kernel_rfl) (by kernel_rfl) (fun _ _ _ h => h) (Or.inl ⟨by kernel_rfl, ?_⟩) (by assumption) ?_
                  rotate_left
                  · intro w' hSw
                    go_simp
                    first | (with_reducible rfl) | done | assumption | skip
                  simp only [Act.put, List.getElem_toArray, List.getElem_cons_succ, List.getElem_cons_zero, List.setIfInBounds_toArray, List.set_cons_zero, List.set_cons_succ]
                  refine wpAnyH_done (by kernel_rfl) ?_ _
                  clear g0 g1 g2 g3 g4 g5 h0 h1 h2 h3 h4 h5 gz kM
                  generalize ((((((nB.setCell ⟨nb, 0, none⟩ (.int .i64 mk)).setCell ⟨nb, 1, none⟩ (.string ms)).setCell ⟨nb, 2, none⟩ (.string mt)).setCell ⟨nb, 3, none⟩ (.int .i64 mp)).setCell ⟨nb, 4, none⟩ (.int .u64 ml)).setCell ⟨nb, 5, none⟩ (.int .u64 mr)) = nW at *
                  have kA2 := kA.below cN kA.lt
                  have kB2 := kB.below cN kB.lt
                  have kC2 := kC.below cN kC.lt
                  have T4 := T.next cN
                  clear T kS kA kB kC cN BW KW KG2 KR2 Y0 Y1 Y2
                  clear t0 t1 zt u0 u1 zu y0 y1 y4 y5 y6 zs
                  have ka0 := (kA2.cell 0).trans rfl
                  have ka1 := (kA2.cell 1).trans rfl
                  have ka2 := (kA2.cell 2).trans rfl
                  have ka3 := (kA2.cell 3).trans rfl
                  have ka4 := (kA2.cell 4).trans rfl
                  have ka5 := (kA2.cell 5).trans rfl
                  have kaz := kA2.lt
                  have kb0 := (kB2.cell 0).trans rfl
                  have kb1 := (kB2.cell 1).trans rfl
                  have kb2 := (kB2.cell 2).trans rfl
                  have kb3 := (kB2.cell 3).trans rfl
                  have kb4 := (kB2.cell 4).trans rfl
                  have kb5 := (kB2.cell 5).trans rfl
                  have kbz := kB2.lt
                  have kc0 := (kC2.cell 0).trans rfl
                  have kc1 := (kC2.cell 1).trans rfl
                  have kc2 := (kC2.cell 2).trans rfl
                  have kc3 := (kC2.cell 3).trans rfl
                  have kc4 := (kC2.cell 4).trans rfl
                  have kc5 := (kC2.cell 5).trans rfl
                  have kcz := kC2.lt
                  have kd0 := (kN.cell 0).trans rfl
                  have kd1 := (kN.cell 1).trans rfl
                  have kd2 := (kN.cell 2).trans rfl
                  have kd3 := (kN.cell 3).trans rfl
                  have kd4 := (kN.cell 4).trans rfl
                  have kd5 := (kN.cell 5).trans rfl
                  have kdz := kN.lt
                  clear kA2 kB2 kC2 kN
                  go_wp2_with fail
                  exact HK.out _ _ _ _ _ _ _ _ _ _ _ _ _ _ _ _ _ _ _ _ _ _ _ _ _ _ _ _ _ _ _ _ _ _ _ _ _ _ _ _ _ _ _ _ _ _ _ _ _ _ _ _ _ _ _ _ _ _ _ _ _ _ _ _ _ _ _ _ _ _ _ _ _ _ _ _ _ _ _ _ _ _ _ _ _ _ _ _ _ _ _ _ _ _ _ _ _ _ _ _ _ _ _ _ _ _ _ _ _ _ _ _ _ _ _ _ _ _ _ _ _ _ _ _ _ _ _ _ _ _ _ _ _ _ _ _ _ _ _ _ _ _ _ _ _ _ _ _ _ _ _ _ _ _ _ _ _ _ _ ⟨_, _, _, T4⟩
end Go.Proofs.YtfjkgglflmakhaaDoor
