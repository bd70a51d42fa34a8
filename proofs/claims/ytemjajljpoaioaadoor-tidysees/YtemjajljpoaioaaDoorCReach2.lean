import Derived.Test.YtemjajljpoaioaaDoorCReach3
namespace Go.Proofs.YtemjajljpoaioaaDoor
open Go.RowKit
set_option linter.unusedVariables false
set_option linter.unusedSimpArgs false
set_option maxRecDepth 20000
set_option maxHeartbeats 8000000
def T2 (ps : List Pc) (xs : List Ins) (U i : Nat) (x T L : Int) (ins : Ins) (ts : List Nat) (hb xb vc : Nat) (va : Option Addr) (w : World) (Q : Exit → Act → World → Prop) (c0 c1 c2 c3 c4 c5 c7 c13 c14 c18 c19 c20 c21 c22 c23 c24 c25 c26 c27 c28 c29 c30 c31 c32 c33 c34 c35 c36 c37 c38 c39 c40 c41 c42 c43 c44 c45 c46 c47 c48 c49 c50 c51 c52 c53 c54 c55 c56 c57 c58 c59 c60 c61 c62 c63 c64 c65 c66 c67 c68 c69 c70 c71 c72 c73 c74 c75 c76 c77 c78 c79 c80 c81 c82 c83 c84 c85 c86 c87 c88 c89 c90 c91 c92 c93 c94 c95 c168 c169 : Value) : Prop :=
 ∀ (d17 d96 d97 d98 d99 d100 d101 d102 d103 d104 d105 d106 d107 d108 d109 d110 d111 d112 d113 d114 d115 d116 d117 d118 d119 d120 d121 d122 d123 d124 d125 d126 d127 d128 d129 d130 d131 d132 d133 d134 d135 d136 d137 d138 d139 d140 d141 d142 d143 d144 d145 d146 d147 d148 d149 d150 d151 d152 d153 d154 d155 d156 d157 d158 d159 d160 d161 d162 d163 d164 d165 d166 d167 : Value) (hs2 : List Int) (ok2 ag2 : Bool) (j : Nat) (wv : World), KI ps xs U i x ins ts hs2 ok2 ag2 j → ts.length ≤ j → Blk wv hb (ints hs2).toArray 3 → Below hb w wv → Q .normal ⟨#[c0, c1, c2, c3, c4, c5, .slice (some ⟨hb, 0, none⟩) xs.length xs.length, c7, .bool ok2, .bool ag2, .int .i64 i, .pointer (some ⟨xb, 0, none⟩), .int .i64 T, c13, c14, .int .i64 (x - T + L), .slice va ts.length vc, d17, c18, c19, c20, c21, c22, c23, c24, c25, c26, c27, c28, c29, c30, c31, c32, c33, c34, c35, c36, c37, c38, c39, c40, c41, c42, c43, c44, c45, c46, c47, c48, c49, c50, c51, c52, c53, c54, c55, c56, c57, c58, c59, c60, c61, c62, c63, c64, c65, c66, c67, c68, c69, c70, c71, c72, c73, c74, c75, c76, c77, c78, c79, c80, c81, c82, c83, c84, c85, c86, c87, c88, c89, c90, c91, c92, c93, c94, c95, d96, d97, d98, d99, d100, d101, d102, d103, d104, d105, d106, d107, d108, d109, d110, d111, d112, d113, d114, d115, d116, d117, d118, d119, d120, d121, d122, d123, d124, d125, d126, d127, d128, d129, d130, d131, d132, d133, d134, d135, d136, d137, d138, d139, d140, d141, d142, d143, d144, d145, d146, d147, d148, d149, d150, d151, d152, d153, d154, d155, d156, d157, d158, d159, d160, d161, d162, d163, d164, d165, d166, d167, c168, c169], []⟩ wv
set_option maxRecDepth 10000 in
set_option maxHeartbeats 6400000 in
theorem reach2 (ps : List Pc) (xs : List Ins) (U i : Nat) (x T L : Int) (o an : Nat) (b : Int) (ts : List Nat) (hb xb vc B : Nat) (va : Option Addr) (w : World) (hs : List Int) (ok again : Bool) (K : Act → World → Prop) (Q : Exit → Act → World → Prop) (c0 c1 c2 c3 c4 c5 c7 c13 c14 c17 c18 c19 c20 c21 c22 c23 c24 c25 c26 c27 c28 c29 c30 c31 c32 c33 c34 c35 c36 c37 c38 c39 c40 c41 c42 c43 c44 c45 c46 c47 c48 c49 c50 c51 c52 c53 c54 c55 c56 c57 c58 c59 c60 c61 c62 c63 c64 c65 c66 c67 c68 c69 c70 c71 c72 c73 c74 c75 c76 c77 c78 c79 c80 c81 c82 c83 c84 c85 c86 c87 c88 c89 c90 c91 c92 c93 c94 c95 c96 c97 c98 c99 c100 c101 c102 c103 c104 c105 c106 c107 c108 c109 c110 c111 c112 c113 c114 c115 c116 c117 c118 c119 c120 c121 c122 c123 c124 c125 c126 c127 c128 c129 c130 c131 c132 c133 c134 c135 c136 c137 c138 c139 c140 c141 c142 c143 c144 c145 c146 c147 c148 c149 c150 c151 c152 c153 c154 c155 c156 c157 c158 c159 c160 c161 c162 c163 c164 c165 c166 c167 c168 c169 : Value)
  (hT : takesP ps ⟨o, an, b⟩ = T) (hL : leavesP ⟨o, an, b⟩ = L) (hT0 : 0 ≤ T) (hL0 : 0 ≤ L) (hL2 : L ≤ 2) (h0 : 0 ≤ x) (hi : xs[i]? = some ⟨o, an, b⟩) (hmem : ∀ t ∈ ts, t ∈ goOn i ⟨o, an, b⟩) (h2 : ts.length ≤ 2) (hmax : xs.length ≤ 2048) (hBb : hb < B)
  (R : RI ps xs hs ok) (hx : hs[i]? = some x) (pd : again = false → ok = true → PD ps xs hs i) (me : unseenN hs + (if again = true then 1 else 0) ≤ U)
  (kH : Blk w hb (ints hs).toArray 3) (own : w.ownsRow B 3 1 (.slice va ts.length vc) ts.length (nats ts)) (q0 : w.cell? ⟨xb, 0, none⟩ = some (.int .i64 o)) (hzx : xb < w.heap.size)
  (hK : ∀ a w, Code.wp Tryd.prog (rest 25) Q a w → K a w) (hN : T2 ps xs U i x T L ⟨o, an, b⟩ ts hb xb vc va w Q c0 c1 c2 c3 c4 c5 c7 c13 c14 c18 c19 c20 c21 c22 c23 c24 c25 c26 c27 c28 c29 c30 c31 c32 c33 c34 c35 c36 c37 c38 c39 c40 c41 c42 c43 c44 c45 c46 c47 c48 c49 c50 c51 c52 c53 c54 c55 c56 c57 c58 c59 c60 c61 c62 c63 c64 c65 c66 c67 c68 c69 c70 c71 c72 c73 c74 c75 c76 c77 c78 c79 c80 c81 c82 c83 c84 c85 c86 c87 c88 c89 c90 c91 c92 c93 c94 c95 c168 c169) :
  Code.wp Tryd.prog (reg 25) (Exit.then K Q) ⟨#[c0, c1, c2, c3, c4, c5, .slice (some ⟨hb, 0, none⟩) xs.length xs.length, c7, .bool ok, .bool again, .int .i64 i, .pointer (some ⟨xb, 0, none⟩), .int .i64 T, c13, c14, .int .i64 (x - T + L), .slice va ts.length vc, c17, c18, c19, c20, c21, c22, c23, c24, c25, c26, c27, c28, c29, c30, c31, c32, c33, c34, c35, c36, c37, c38, c39, c40, c41, c42, c43, c44, c45, c46, c47, c48, c49, c50, c51, c52, c53, c54, c55, c56, c57, c58, c59, c60, c61, c62, c63, c64, c65, c66, c67, c68, c69, c70, c71, c72, c73, c74, c75, c76, c77, c78, c79, c80, c81, c82, c83, c84, c85, c86, c87, c88, c89, c90, c91, c92, c93, c94, c95, c96, c97, c98, c99, c100, c101, c102, c103, c104, c105, c106, c107, c108, c109, c110, c111, c112, c113, c114, c115, c116, c117, c118, c119, c120, c121, c122, c123, c124, c125, c126, c127, c128, c129, c130, c131, c132, c133, c134, c135, c136, c137, c138, c139, c140, c141, c142, c143, c144, c145, c146, c147, c148, c149, c150, c151, c152, c153, c154, c155, c156, c157, c158, c159, c160, c161, c162, c163, c164, c165, c166, c167, c168, c169], []⟩ w := by
 have HT := show Hid (_ = _) from hT
 have HL := show Hid (_ = _) from hL
 have HI := show Hid (_ = _) from hi
 have HM := show Hid (∀ t ∈ ts, _) from hmem
 have KS : Hid (KI ps xs U i x ⟨o, an, b⟩ ts hs (ok && decide (T ≤ x) && decide (x ≤ 64) && (decide ((o : Int) ≠ 17) || decide (x = 1))) again 0) := by
  have := KI.start (ts := ts) (U := U) R hx h0 hi pd me
  rw [hT] at this
  exact this
 have HNN : Hid (T2 ps xs U i x T L ⟨o, an, b⟩ ts hb xb vc va w Q c0 c1 c2 c3 c4 c5 c7 c13 c14 c18 c19 c20 c21 c22 c23 c24 c25 c26 c27 c28 c29 c30 c31 c32 c33 c34 c35 c36 c37 c38 c39 c40 c41 c42 c43 c44 c45 c46 c47 c48 c49 c50 c51 c52 c53 c54 c55 c56 c57 c58 c59 c60 c61 c62 c63 c64 c65 c66 c67 c68 c69 c70 c71 c72 c73 c74 c75 c76 c77 c78 c79 c80 c81 c82 c83 c84 c85 c86 c87 c88 c89 c90 c91 c92 c93 c94 c95 c168 c169) := hN
 have hil : i < xs.length := (List.getElem?_eq_some_iff.1 hi).1
 have hii : (i : Int) < (xs.length : Int) := by omega
 have r := kH.cell i
 rw [ints_get, hx] at r
 simp only [Option.map_some] at r
 have hzh := kH.lt
 clear hT hL hi hmem hN R hx pd me
 cases ok
 ·have K1 : Hid (KI ps xs U i x ⟨o, an, b⟩ ts hs false again 0) := by
   have := KS.out
   simp only [Bool.false_and] at this
   exact this
  clear KS
  conv => arg 2; whnf
  conv => arg 4; dsimp only
  go_wp2_with fail
  conv => arg 2; whnf
  conv => arg 4; dsimp only
  go_upto_region 26 with fail
  rename_i K0 hK0
  refine reach3 ps xs U i x T L ⟨o, an, b⟩ ts hb vc B va w hs false again K0 Q _ _ _ _ _ _ _ _ _ _ _ _ _ _ _ _ _ _ _ _ _ _ _ _ _ _ _ _ _ _ _ _ _ _ _ _ _ _ _ _ _ _ _ _ _ _ _ _ _ _ _ _ _ _ _ _ _ _ _ _ _ _ _ _ _ _ _ _ _ _ _ _ _ _ _ _ _ _ _ _ _ _ _ _ _ _ _ _ _ _ _ _ _ _ _ _ _ _ _ _ _ _ _ _ _ _ _ _ _ _ _ _ _ _ _ _ _ _ _ _ _ _ _ _ _ _ _ _ _ _ _ _ _ _ _ _ _ _ _ _ _ _ _ _ _ _ _ _ _ _ _ _ _ _ _ _ _ _ _ _ _ _ _ _ _ HT.out HL.out hT0 hL0 hL2 h0 HI.out HM.out h2 hmax hBb K1.out kH own hK0 ?_
  unfold T3
  intro d17 d124 d125 d126 d127 d128 d129 d130 d131 d132 d133 d134 d135 d136 d137 d138 d139 d140 d141 d142 d143 d144 d145 d146 d147 d148 d149 d150 d151 d152 d153 d154 d155 d156 d157 d158 d159 d160 d161 d162 d163 d164 d165 d166 d167 hs2 ok2 ag2 j wv k1 k2 k3 k4
  exact HNN.out d17 _ _ _ _ _ _ _ _ _ _ _ _ _ _ _ _ _ _ _ _ _ _ _ _ _ _ _ _ d124 d125 d126 d127 d128 d129 d130 d131 d132 d133 d134 d135 d136 d137 d138 d139 d140 d141 d142 d143 d144 d145 d146 d147 d148 d149 d150 d151 d152 d153 d154 d155 d156 d157 d158 d159 d160 d161 d162 d163 d164 d165 d166 d167 hs2 ok2 ag2 j wv k1 k2 k3 k4
 by_cases h1 : T ≤ x
 rotate_left
 ·have d1 := decide_eq_false h1
  have K1 : Hid (KI ps xs U i x ⟨o, an, b⟩ ts hs false again 0) := by
   have := KS.out
   simp only [d1, Bool.and_false, Bool.false_and] at this
   exact this
  clear KS
  conv => arg 2; whnf
  conv => arg 4; dsimp only
  go_wp2_with fail
  conv => arg 2; whnf
  conv => arg 4; dsimp only
  go_upto_region 26 with fail
  rename_i K0 hK0
  refine reach3 ps xs U i x T L ⟨o, an, b⟩ ts hb vc B va w hs false again K0 Q _ _ _ _ _ _ _ _ _ _ _ _ _ _ _ _ _ _ _ _ _ _ _ _ _ _ _ _ _ _ _ _ _ _ _ _ _ _ _ _ _ _ _ _ _ _ _ _ _ _ _ _ _ _ _ _ _ _ _ _ _ _ _ _ _ _ _ _ _ _ _ _ _ _ _ _ _ _ _ _ _ _ _ _ _ _ _ _ _ _ _ _ _ _ _ _ _ _ _ _ _ _ _ _ _ _ _ _ _ _ _ _ _ _ _ _ _ _ _ _ _ _ _ _ _ _ _ _ _ _ _ _ _ _ _ _ _ _ _ _ _ _ _ _ _ _ _ _ _ _ _ _ _ _ _ _ _ _ _ _ _ _ _ _ _ HT.out HL.out hT0 hL0 hL2 h0 HI.out HM.out h2 hmax hBb K1.out kH own hK0 ?_
  unfold T3
  intro d17 d124 d125 d126 d127 d128 d129 d130 d131 d132 d133 d134 d135 d136 d137 d138 d139 d140 d141 d142 d143 d144 d145 d146 d147 d148 d149 d150 d151 d152 d153 d154 d155 d156 d157 d158 d159 d160 d161 d162 d163 d164 d165 d166 d167 hs2 ok2 ag2 j wv k1 k2 k3 k4
  exact HNN.out d17 _ _ _ _ _ _ _ _ _ _ _ _ _ _ _ _ _ _ _ _ _ _ _ _ _ _ _ _ d124 d125 d126 d127 d128 d129 d130 d131 d132 d133 d134 d135 d136 d137 d138 d139 d140 d141 d142 d143 d144 d145 d146 d147 d148 d149 d150 d151 d152 d153 d154 d155 d156 d157 d158 d159 d160 d161 d162 d163 d164 d165 d166 d167 hs2 ok2 ag2 j wv k1 k2 k3 k4
 have d1 := decide_eq_true h1
 by_cases h64 : x ≤ 64
 rotate_left
 ·have d2 := decide_eq_false h64
  have K1 : Hid (KI ps xs U i x ⟨o, an, b⟩ ts hs false again 0) := by
   have := KS.out
   simp only [d2, Bool.and_false, Bool.false_and] at this
   exact this
  clear KS
  conv => arg 2; whnf
  conv => arg 4; dsimp only
  go_wp2_with fail
  conv => arg 2; whnf
  conv => arg 4; dsimp only
  go_upto_region 26 with fail
  rename_i K0 hK0
  refine reach3 ps xs U i x T L ⟨o, an, b⟩ ts hb vc B va w hs false again K0 Q _ _ _ _ _ _ _ _ _ _ _ _ _ _ _ _ _ _ _ _ _ _ _ _ _ _ _ _ _ _ _ _ _ _ _ _ _ _ _ _ _ _ _ _ _ _ _ _ _ _ _ _ _ _ _ _ _ _ _ _ _ _ _ _ _ _ _ _ _ _ _ _ _ _ _ _ _ _ _ _ _ _ _ _ _ _ _ _ _ _ _ _ _ _ _ _ _ _ _ _ _ _ _ _ _ _ _ _ _ _ _ _ _ _ _ _ _ _ _ _ _ _ _ _ _ _ _ _ _ _ _ _ _ _ _ _ _ _ _ _ _ _ _ _ _ _ _ _ _ _ _ _ _ _ _ _ _ _ _ _ _ _ _ _ _ HT.out HL.out hT0 hL0 hL2 h0 HI.out HM.out h2 hmax hBb K1.out kH own hK0 ?_
  unfold T3
  intro d17 d124 d125 d126 d127 d128 d129 d130 d131 d132 d133 d134 d135 d136 d137 d138 d139 d140 d141 d142 d143 d144 d145 d146 d147 d148 d149 d150 d151 d152 d153 d154 d155 d156 d157 d158 d159 d160 d161 d162 d163 d164 d165 d166 d167 hs2 ok2 ag2 j wv k1 k2 k3 k4
  exact HNN.out d17 _ _ _ _ _ _ _ _ _ _ _ _ _ _ _ _ _ _ _ _ _ _ _ _ _ _ _ _ d124 d125 d126 d127 d128 d129 d130 d131 d132 d133 d134 d135 d136 d137 d138 d139 d140 d141 d142 d143 d144 d145 d146 d147 d148 d149 d150 d151 d152 d153 d154 d155 d156 d157 d158 d159 d160 d161 d162 d163 d164 d165 d166 d167 hs2 ok2 ag2 j wv k1 k2 k3 k4
 have d2 := decide_eq_true h64
 by_cases e17 : o = 17
 rotate_left
 ·have d3 : decide ((o : Int) ≠ 17) = true := by simp; omega
  have d4 : ((o : Int) == 17) = false := by simp; omega
  have d5 : ((o : Int) != 17) = true := by simp; omega
  have K1 : Hid (KI ps xs U i x ⟨o, an, b⟩ ts hs true again 0) := by
   have := KS.out
   simp only [d1, d2, d3, Bool.true_and, Bool.true_or] at this
   exact this
  clear KS
  conv => arg 2; whnf
  conv => arg 4; dsimp only
  go_wp2_with fail
  conv => arg 2; whnf
  conv => arg 4; dsimp only
  go_upto_region 26 with fail
  rename_i K0 hK0
  refine reach3 ps xs U i x T L ⟨o, an, b⟩ ts hb vc B va w hs true again K0 Q _ _ _ _ _ _ _ _ _ _ _ _ _ _ _ _ _ _ _ _ _ _ _ _ _ _ _ _ _ _ _ _ _ _ _ _ _ _ _ _ _ _ _ _ _ _ _ _ _ _ _ _ _ _ _ _ _ _ _ _ _ _ _ _ _ _ _ _ _ _ _ _ _ _ _ _ _ _ _ _ _ _ _ _ _ _ _ _ _ _ _ _ _ _ _ _ _ _ _ _ _ _ _ _ _ _ _ _ _ _ _ _ _ _ _ _ _ _ _ _ _ _ _ _ _ _ _ _ _ _ _ _ _ _ _ _ _ _ _ _ _ _ _ _ _ _ _ _ _ _ _ _ _ _ _ _ _ _ _ _ _ _ _ _ _ HT.out HL.out hT0 hL0 hL2 h0 HI.out HM.out h2 hmax hBb K1.out kH own hK0 ?_
  unfold T3
  intro d17 d124 d125 d126 d127 d128 d129 d130 d131 d132 d133 d134 d135 d136 d137 d138 d139 d140 d141 d142 d143 d144 d145 d146 d147 d148 d149 d150 d151 d152 d153 d154 d155 d156 d157 d158 d159 d160 d161 d162 d163 d164 d165 d166 d167 hs2 ok2 ag2 j wv k1 k2 k3 k4
  exact HNN.out d17 _ _ _ _ _ _ _ _ _ _ _ _ _ _ _ _ _ _ _ _ _ _ _ _ _ _ _ _ d124 d125 d126 d127 d128 d129 d130 d131 d132 d133 d134 d135 d136 d137 d138 d139 d140 d141 d142 d143 d144 d145 d146 d147 d148 d149 d150 d151 d152 d153 d154 d155 d156 d157 d158 d159 d160 d161 d162 d163 d164 d165 d166 d167 hs2 ok2 ag2 j wv k1 k2 k3 k4
 subst e17
 by_cases h1x : x = 1
 ·subst h1x
  have K1 : Hid (KI ps xs U i 1 ⟨(17 : Nat), an, b⟩ ts hs true again 0) := by
   have := KS.out
   simp only [d1, d2, decide_true, Bool.true_and, Bool.or_true] at this
   exact this
  clear KS
  conv => arg 2; whnf
  conv => arg 4; dsimp only
  go_wp2_with fail
  conv => arg 2; whnf
  conv => arg 4; dsimp only
  go_upto_region 26 with fail
  rename_i K0 hK0
  refine reach3 ps xs U i 1 T L ⟨(17 : Nat), an, b⟩ ts hb vc B va w hs true again K0 Q _ _ _ _ _ _ _ _ _ _ _ _ _ _ _ _ _ _ _ _ _ _ _ _ _ _ _ _ _ _ _ _ _ _ _ _ _ _ _ _ _ _ _ _ _ _ _ _ _ _ _ _ _ _ _ _ _ _ _ _ _ _ _ _ _ _ _ _ _ _ _ _ _ _ _ _ _ _ _ _ _ _ _ _ _ _ _ _ _ _ _ _ _ _ _ _ _ _ _ _ _ _ _ _ _ _ _ _ _ _ _ _ _ _ _ _ _ _ _ _ _ _ _ _ _ _ _ _ _ _ _ _ _ _ _ _ _ _ _ _ _ _ _ _ _ _ _ _ _ _ _ _ _ _ _ _ _ _ _ _ _ _ _ _ _ HT.out HL.out hT0 hL0 hL2 h0 HI.out HM.out h2 hmax hBb K1.out kH own hK0 ?_
  unfold T3
  intro d17 d124 d125 d126 d127 d128 d129 d130 d131 d132 d133 d134 d135 d136 d137 d138 d139 d140 d141 d142 d143 d144 d145 d146 d147 d148 d149 d150 d151 d152 d153 d154 d155 d156 d157 d158 d159 d160 d161 d162 d163 d164 d165 d166 d167 hs2 ok2 ag2 j wv k1 k2 k3 k4
  exact HNN.out d17 _ _ _ _ _ _ _ _ _ _ _ _ _ _ _ _ _ _ _ _ _ _ _ _ _ _ _ _ d124 d125 d126 d127 d128 d129 d130 d131 d132 d133 d134 d135 d136 d137 d138 d139 d140 d141 d142 d143 d144 d145 d146 d147 d148 d149 d150 d151 d152 d153 d154 d155 d156 d157 d158 d159 d160 d161 d162 d163 d164 d165 d166 d167 hs2 ok2 ag2 j wv k1 k2 k3 k4
 ·have d3 : decide (x = 1) = false := by simp [h1x]
  have d4 : (x == 1) = false := by simp [h1x]
  have K1 : Hid (KI ps xs U i x ⟨(17 : Nat), an, b⟩ ts hs false again 0) := by
   have := KS.out
   simp only [d1, d2, d3, Bool.true_and, Bool.or_false, show decide (((17 : Nat) : Int) ≠ 17) = false from rfl] at this
   exact this
  clear KS
  conv => arg 2; whnf
  conv => arg 4; dsimp only
  go_wp2_with fail
  conv => arg 2; whnf
  conv => arg 4; dsimp only
  go_upto_region 26 with fail
  rename_i K0 hK0
  refine reach3 ps xs U i x T L ⟨(17 : Nat), an, b⟩ ts hb vc B va w hs false again K0 Q _ _ _ _ _ _ _ _ _ _ _ _ _ _ _ _ _ _ _ _ _ _ _ _ _ _ _ _ _ _ _ _ _ _ _ _ _ _ _ _ _ _ _ _ _ _ _ _ _ _ _ _ _ _ _ _ _ _ _ _ _ _ _ _ _ _ _ _ _ _ _ _ _ _ _ _ _ _ _ _ _ _ _ _ _ _ _ _ _ _ _ _ _ _ _ _ _ _ _ _ _ _ _ _ _ _ _ _ _ _ _ _ _ _ _ _ _ _ _ _ _ _ _ _ _ _ _ _ _ _ _ _ _ _ _ _ _ _ _ _ _ _ _ _ _ _ _ _ _ _ _ _ _ _ _ _ _ _ _ _ _ _ _ _ _ HT.out HL.out hT0 hL0 hL2 h0 HI.out HM.out h2 hmax hBb K1.out kH own hK0 ?_
  unfold T3
  intro d17 d124 d125 d126 d127 d128 d129 d130 d131 d132 d133 d134 d135 d136 d137 d138 d139 d140 d141 d142 d143 d144 d145 d146 d147 d148 d149 d150 d151 d152 d153 d154 d155 d156 d157 d158 d159 d160 d161 d162 d163 d164 d165 d166 d167 hs2 ok2 ag2 j wv k1 k2 k3 k4
  exact HNN.out d17 _ _ _ _ _ _ _ _ _ _ _ _ _ _ _ _ _ _ _ _ _ _ _ _ _ _ _ _ d124 d125 d126 d127 d128 d129 d130 d131 d132 d133 d134 d135 d136 d137 d138 d139 d140 d141 d142 d143 d144 d145 d146 d147 d148 d149 d150 d151 d152 d153 d154 d155 d156 d157 d158 d159 d160 d161 d162 d163 d164 d165 d166 d167 hs2 ok2 ag2 j wv k1 k2 k3 k4
end Go.Proofs.YtemjajljpoaioaaDoor
