/- FetchExact: one step, from At on. -/
import Derived.Test.YtmhllihedejehaaGreatGPair
import Derived.Test.YtmhllihedejehaaGreatGStep
import Derived.Deep.CutBlock
namespace Go.Proofs.YtmhllihedejehaaGreat
open Go.RowKit Go.Maps
set_option linter.unusedVariables false
set_option linter.unusedSimpArgs false

def findSeqG (n : Nat) : Code → Option Code
  | .seq a b => match a with
    | .region m ops d => if m = n then some (.seq (.region m ops d) b) else findSeqG n b
    | a => match findSeqG n a with
      | some c => some c
      | none => findSeqG n b
  | .block _ c => findSeqG n c
  | .scope c => findSeqG n c
  | .loop c => findSeqG n c
  | .cond _ a b => match findSeqG n a with
    | some c => some c
    | none => findSeqG n b
  | _ => none
noncomputable def seq23 : Code := ((Tryz.f3.body.bind (findSeqG 23)).getD .skip)
theorem Only.blkG {b : Nat} {w w' : World} {k : Nat} {cs cs' : Array Value} {t T : TypeId} (O : Only b w w') (h : Blk w k cs t) (kg : Blk w b cs' T) (ht : t ≠ T) : Blk w' k cs t := (O.same k h.lt fun e => by
  subst e
  have := h.symm.trans kg
  simp at this
  exact ht this.2).trans h

set_option maxRecDepth 20000 in
set_option maxHeartbeats 12800000 in
theorem fe7b (wN w : World) (bu fb mb gb xb : Nat) (wd : Int) (o0 : Option Tr) (la : Option Addr) (cap i : Nat) (hi : i < 512) (L : List (Key × Int)) (o : Option Tr) (bar sb : List Int) (H : Pr wN bu fb mb gb wd o0 la cap i L o bar sb w)
    (fr sa st nk npos nl nr : Int) (nkey nval sway way : Key) (hX : (⟨fr, sa, st, ⟨nk, nkey, nval, npos, nl, nr⟩, sway⟩ : Fs).In) (hway : way.length ≤ 100000) (kx : Blk w xb #[.int .i64 fr, .int .i64 sa, .int .i64 st, .int .i64 nk, .string (str nkey), .string (str nval), .int .i64 npos, .int .u64 nl, .int .u64 nr, .string (str sway)] 30) (K : Act → World → Prop) (c1 c2 c3 c4 c5 c6 c7 c8 c14 c15 c17 c18 c19 c20 c21 c22 c23 c24 c25 c26 c27 c28 c29 c30 c31 c32 c33 c34 c35 c36 c37 c38 c39 c40 c41 c42 c43 c44 c45 c46 c47 c48 c49 c50 c51 c52 c53 c54 c55 c56 c57 c58 c59 c60 c61 c62 c63 c64 c65 c66 c67 c68 c69 c70 c71 c72 c73 c74 c75 c76 c77 c78 c79 c80 c81 c82 c83 c84 c85 c86 c87 c88 c89 c90 c91 c92 c93 c94 c95 c96 c97 c98 c99 c100 c101 c102 c103 c104 c105 c106 c107 c108 c109 c110 c111 c112 c113 c114 c115 c116 c117 c118 c119 c120 c121 c122 c123 c124 c125 c126 c127 c128 c129 c130 c131 c132 c133 c134 c135 c136 c137 c138 c139 c140 c141 c142 c143 c144 c145 c146 c147 c148 c149 c150 c151 c152 c153 c154 c155 c156 c157 c158 c159 c160 c161 c162 c163 c164 c165 c166 c167 c168 c169 c170 c171 c172 c173 c174 c175 c176 c177 c178 c179 c180 c181 c182 c183 c184 c185 c186 c187 c188 c189 c190 c191 c192 c193 c194 c195 c196 c197 c198 c199 c200 c201 c202 c203 c204 c205 c206 c207 c208 c209 c210 c211 c212 c213 c214 c215 c216 c217 c218 c219 c220 c221 c222 c223 : Value)
    (hQ : ∀ (u6 u17 u18 u19 u20 u143 u144 u145 u146 u147 u148 u149 u150 u151 u152 u153 u154 u155 u156 u157 u158 u159 u160 u161 u162 u163 u164 u165 u166 u167 u168 u169 u170 u171 u172 u173 u174 u175 u176 u177 u178 u179 u180 u181 u182 u183 u184 u185 u186 u187 u188 u189 u190 u191 u192 : Value) (w' : World), (∃ L' o' bar' sb', Pr wN bu fb mb gb wd o0 la cap (i + 1) L' o' bar' sb' w') → K ⟨#[.int .i64 wd, c1, c2, c3, c4, c5, u6, c7, c8, .pointer (some ⟨bu, 0, none⟩), .pointer (some ⟨fb, 0, none⟩), .pointer (some ⟨gb, 0, none⟩), .int .i64 (i : Int), .pointer (some ⟨xb, 0, none⟩), c14, c15, .string (str way), u17, u18, u19, u20, c21, c22, c23, c24, c25, c26, c27, c28, c29, c30, c31, c32, c33, c34, c35, c36, c37, c38, c39, c40, c41, c42, c43, c44, c45, c46, c47, c48, c49, c50, c51, c52, c53, c54, c55, c56, c57, c58, c59, c60, c61, c62, c63, c64, c65, c66, c67, c68, c69, c70, c71, c72, c73, c74, c75, c76, c77, c78, c79, c80, c81, c82, c83, c84, c85, c86, c87, c88, c89, c90, c91, c92, c93, c94, c95, c96, c97, c98, c99, c100, c101, c102, c103, c104, c105, c106, c107, c108, c109, c110, c111, c112, c113, c114, c115, c116, c117, c118, c119, c120, c121, c122, c123, c124, c125, c126, c127, c128, c129, c130, c131, c132, c133, c134, c135, c136, c137, c138, c139, c140, c141, c142, u143, u144, u145, u146, u147, u148, u149, u150, u151, u152, u153, u154, u155, u156, u157, u158, u159, u160, u161, u162, u163, u164, u165, u166, u167, u168, u169, u170, u171, u172, u173, u174, u175, u176, u177, u178, u179, u180, u181, u182, u183, u184, u185, u186, u187, u188, u189, u190, u191, u192, c193, c194, c195, c196, c197, c198, c199, c200, c201, c202, c203, c204, c205, c206, c207, c208, c209, c210, c211, c212, c213, c214, c215, c216, c217, c218, c219, c220, c221, c222, c223], []⟩ w') :
    Code.wp Tryz.prog seq23 (Exit.then K (fun _ _ _ => False)) ⟨#[.int .i64 wd, c1, c2, c3, c4, c5, c6, c7, c8, .pointer (some ⟨bu, 0, none⟩), .pointer (some ⟨fb, 0, none⟩), .pointer (some ⟨gb, 0, none⟩), .int .i64 (i : Int), .pointer (some ⟨xb, 0, none⟩), c14, c15, .string (str way), c17, c18, c19, c20, c21, c22, c23, c24, c25, c26, c27, c28, c29, c30, c31, c32, c33, c34, c35, c36, c37, c38, c39, c40, c41, c42, c43, c44, c45, c46, c47, c48, c49, c50, c51, c52, c53, c54, c55, c56, c57, c58, c59, c60, c61, c62, c63, c64, c65, c66, c67, c68, c69, c70, c71, c72, c73, c74, c75, c76, c77, c78, c79, c80, c81, c82, c83, c84, c85, c86, c87, c88, c89, c90, c91, c92, c93, c94, c95, c96, c97, c98, c99, c100, c101, c102, c103, c104, c105, c106, c107, c108, c109, c110, c111, c112, c113, c114, c115, c116, c117, c118, c119, c120, c121, c122, c123, c124, c125, c126, c127, c128, c129, c130, c131, c132, c133, c134, c135, c136, c137, c138, c139, c140, c141, c142, c143, c144, c145, c146, c147, c148, c149, c150, c151, c152, c153, c154, c155, c156, c157, c158, c159, c160, c161, c162, c163, c164, c165, c166, c167, c168, c169, c170, c171, c172, c173, c174, c175, c176, c177, c178, c179, c180, c181, c182, c183, c184, c185, c186, c187, c188, c189, c190, c191, c192, c193, c194, c195, c196, c197, c198, c199, c200, c201, c202, c203, c204, c205, c206, c207, c208, c209, c210, c211, c212, c213, c214, c215, c216, c217, c218, c219, c220, c221, c222, c223], []⟩ w := by
  have HQ : Hid (∀ (u6 u17 u18 u19 u20 u143 u144 u145 u146 u147 u148 u149 u150 u151 u152 u153 u154 u155 u156 u157 u158 u159 u160 u161 u162 u163 u164 u165 u166 u167 u168 u169 u170 u171 u172 u173 u174 u175 u176 u177 u178 u179 u180 u181 u182 u183 u184 u185 u186 u187 u188 u189 u190 u191 u192 : Value) (w' : World), (∃ L' o' bar' sb', Pr wN bu fb mb gb wd o0 la cap (i + 1) L' o' bar' sb' w') → K ⟨#[.int .i64 wd, c1, c2, c3, c4, c5, u6, c7, c8, .pointer (some ⟨bu, 0, none⟩), .pointer (some ⟨fb, 0, none⟩), .pointer (some ⟨gb, 0, none⟩), .int .i64 (i : Int), .pointer (some ⟨xb, 0, none⟩), c14, c15, .string (str way), u17, u18, u19, u20, c21, c22, c23, c24, c25, c26, c27, c28, c29, c30, c31, c32, c33, c34, c35, c36, c37, c38, c39, c40, c41, c42, c43, c44, c45, c46, c47, c48, c49, c50, c51, c52, c53, c54, c55, c56, c57, c58, c59, c60, c61, c62, c63, c64, c65, c66, c67, c68, c69, c70, c71, c72, c73, c74, c75, c76, c77, c78, c79, c80, c81, c82, c83, c84, c85, c86, c87, c88, c89, c90, c91, c92, c93, c94, c95, c96, c97, c98, c99, c100, c101, c102, c103, c104, c105, c106, c107, c108, c109, c110, c111, c112, c113, c114, c115, c116, c117, c118, c119, c120, c121, c122, c123, c124, c125, c126, c127, c128, c129, c130, c131, c132, c133, c134, c135, c136, c137, c138, c139, c140, c141, c142, u143, u144, u145, u146, u147, u148, u149, u150, u151, u152, u153, u154, u155, u156, u157, u158, u159, u160, u161, u162, u163, u164, u165, u166, u167, u168, u169, u170, u171, u172, u173, u174, u175, u176, u177, u178, u179, u180, u181, u182, u183, u184, u185, u186, u187, u188, u189, u190, u191, u192, c193, c194, c195, c196, c197, c198, c199, c200, c201, c202, c203, c204, c205, c206, c207, c208, c209, c210, c211, c212, c213, c214, c215, c216, c217, c218, c219, c220, c221, c222, c223], []⟩ w') := hQ
  clear hQ
  conv => arg 2; whnf
  conv => arg 4; dsimp only
  obtain ⟨⟨zk, zkey, zval, zpos, zl, zr⟩, c0, hy0, KA⟩ := H.at_ way hway
  have KA := KA w H.bel
  simp only [Nd.v] at KA
  have ku := H.ku.below H.bel H.ku.lt
  have u0 := (ku.cell 0).trans rfl
  have u1 := (ku.cell 1).trans rfl
  have zu := ku.lt
  have HP : Hid (Pr wN bu fb mb gb wd o0 la cap i L o bar sb w) := H
  have HX : Hid ((⟨fr, sa, st, ⟨nk, nkey, nval, npos, nl, nr⟩, sway⟩ : Fs).In) := hX
  have HY0 : Hid ((⟨zk, zkey, zval, zpos, zl, zr⟩ : Nd).Ok) := hy0
  clear H ku hX hy0
  go_wp2_with fail
  refine KA.mono ?_
  rintro e w4 ⟨rfl, b4⟩
  clear KA u0 u1 zu
  go_upto_region 24 with fail
  have kn := Blk.new w4 #[.int .i64 zk, .string (str zkey), .string (str zval), .int .i64 zpos, .int .u64 zl, .int .u64 zr] 28
  have bA : Below w.heap.size w (w4.alloc (.cells #[.int .i64 zk, .string (str zkey), .string (str zval), .int .i64 zpos, .int .u64 zl, .int .u64 zr] 28)) := bel_al b4 _
  have kx4 := kx.below bA kx.lt
  have hnge : w.heap.size ≤ w4.heap.size := b4.size
  have hxn : xb < w4.heap.size := Nat.lt_of_lt_of_le kx.lt b4.size
  clear b4 kx
  generalize w4.alloc (.cells #[.int .i64 zk, .string (str zkey), .string (str zval), .int .i64 zpos, .int .u64 zl, .int .u64 zr] 28) = w5 at *
  generalize w4.heap.size = nb at *
  have KS := swapped_any ⟨zk, zkey, zval, zpos, zl, zr⟩ ⟨nk, nkey, nval, npos, nl, nr⟩ fr sa st sway w5 HY0.out HX.out.hn HX.out.ht
  simp only [Nd.v] at KS
  have n0 := (kn.cell 0).trans rfl
  have n1 := (kn.cell 1).trans rfl
  have n2 := (kn.cell 2).trans rfl
  have n3 := (kn.cell 3).trans rfl
  have n4 := (kn.cell 4).trans rfl
  have n5 := (kn.cell 5).trans rfl
  have zn := kn.lt
  have x0 := (kx4.cell 0).trans rfl
  have x1 := (kx4.cell 1).trans rfl
  have x2 := (kx4.cell 2).trans rfl
  have x3 := (kx4.cell 3).trans rfl
  have x4 := (kx4.cell 4).trans rfl
  have x5 := (kx4.cell 5).trans rfl
  have x6 := (kx4.cell 6).trans rfl
  have x7 := (kx4.cell 7).trans rfl
  have x8 := (kx4.cell 8).trans rfl
  have x9 := (kx4.cell 9).trans rfl
  have zx := kx4.lt
  go_wp2_with fail
  refine KS.mono ?_
  rintro e w6 ⟨⟨yk, ykey, yval, ypos, yl, yr⟩, rfl, hy, b6⟩
  simp only
  clear KS n0 n1 n2 n3 n4 n5 zn x0 x1 x2 x3 x4 x5 x6 x7 x8 x9 zx
  have kn6 := kn.below b6 kn.lt
  have kx6 := kx4.below b6 kx4.lt
  have B6 : Below w.heap.size w w6 := bel_inG bA b6
  have HY : Hid ((⟨yk, ykey, yval, ypos, yl, yr⟩ : Nd).Ok) := hy
  clear kn kx4 b6 hy bA
  have n0 := (kn6.cell 0).trans rfl
  have n1 := (kn6.cell 1).trans rfl
  have n2 := (kn6.cell 2).trans rfl
  have n3 := (kn6.cell 3).trans rfl
  have n4 := (kn6.cell 4).trans rfl
  have n5 := (kn6.cell 5).trans rfl
  have f0 := kn6.frozen 0
  have f1 := kn6.frozen 1
  have f2 := kn6.frozen 2
  have f3 := kn6.frozen 3
  have f4 := kn6.frozen 4
  have f5 := kn6.frozen 5
  have zn := kn6.lt
  go_upto_region 25 with fail
  have kn7 := six_blk kn6 (.int .i64 yk) (.string (str ykey)) (.string (str yval)) (.int .i64 ypos) (.int .u64 yl) (.int .u64 yr)
  have B7 := six_bel B6 hnge (.int .i64 yk) (.string (str ykey)) (.string (str yval)) (.int .i64 ypos) (.int .u64 yl) (.int .u64 yr)
  have kx7 : Blk ((((((w6.setCell ⟨nb, 0, none⟩ (.int .i64 yk)).setCell ⟨nb, 1, none⟩ (.string (str ykey))).setCell ⟨nb, 2, none⟩ (.string (str yval))).setCell ⟨nb, 3, none⟩ (.int .i64 ypos)).setCell ⟨nb, 4, none⟩ (.int .u64 yl)).setCell ⟨nb, 5, none⟩ (.int .u64 yr)) xb #[.int .i64 fr, .int .i64 sa, .int .i64 st, .int .i64 nk, .string (str nkey), .string (str nval), .int .i64 npos, .int .u64 nl, .int .u64 nr, .string (str sway)] 30 :=
    (((((kx6.setOther _ (by show xb ≠ nb; omega) _).setOther _ (by show xb ≠ nb; omega) _).setOther _ (by show xb ≠ nb; omega) _).setOther _ (by show xb ≠ nb; omega) _).setOther _ (by show xb ≠ nb; omega) _).setOther _ (by show xb ≠ nb; omega) _
  generalize (((((w6.setCell ⟨nb, 0, none⟩ (.int .i64 yk)).setCell ⟨nb, 1, none⟩ (.string (str ykey))).setCell ⟨nb, 2, none⟩ (.string (str yval))).setCell ⟨nb, 3, none⟩ (.int .i64 ypos)).setCell ⟨nb, 4, none⟩ (.int .u64 yl)).setCell ⟨nb, 5, none⟩ (.int .u64 yr) = w9 at *
  have B9 : Below w.heap.size w w9.drew := B7.drew
  have HP9 : Hid (Pr wN bu fb mb gb wd o0 la cap i L o bar sb w9.drew) := HP.out.next B9
  have KG := HP9.out.give (by omega) fr HX.out.hf way hway ⟨yk, ykey, yval, ypos, yl, yr⟩ HY.out
  simp only [Nd.v] at KG
  have hS6 : Blk w9.drew xb #[.int .i64 fr, .int .i64 sa, .int .i64 st, .int .i64 nk, .string (str nkey), .string (str nval), .int .i64 npos, .int .u64 nl, .int .u64 nr, .string (str sway)] 30 ∧ Blk w9.drew nb #[.int .i64 yk, .string (str ykey), .string (str yval), .int .i64 ypos, .int .u64 yl, .int .u64 yr] 28 ∧ Below wN.heap.size wN w9.drew := ⟨kx7.drew, kn7.drew, HP9.out.bel⟩
  have X0 : ∀ w', (Blk w' xb #[.int .i64 fr, .int .i64 sa, .int .i64 st, .int .i64 nk, .string (str nkey), .string (str nval), .int .i64 npos, .int .u64 nl, .int .u64 nr, .string (str sway)] 30 ∧ Blk w' nb #[.int .i64 yk, .string (str ykey), .string (str yval), .int .i64 ypos, .int .u64 yl, .int .u64 yr] 28 ∧ Below wN.heap.size wN w') → w'.cell? ⟨xb, 0, none⟩ = some (.int .i64 fr) := fun w' h => (h.1.cell 0).trans rfl
  have N0 : ∀ w', (Blk w' xb #[.int .i64 fr, .int .i64 sa, .int .i64 st, .int .i64 nk, .string (str nkey), .string (str nval), .int .i64 npos, .int .u64 nl, .int .u64 nr, .string (str sway)] 30 ∧ Blk w' nb #[.int .i64 yk, .string (str ykey), .string (str yval), .int .i64 ypos, .int .u64 yl, .int .u64 yr] 28 ∧ Below wN.heap.size wN w') → w'.cell? ⟨nb, 0, none⟩ = some (.int .i64 yk) := fun w' h => (h.2.1.cell 0).trans rfl
  have N1 : ∀ w', (Blk w' xb #[.int .i64 fr, .int .i64 sa, .int .i64 st, .int .i64 nk, .string (str nkey), .string (str nval), .int .i64 npos, .int .u64 nl, .int .u64 nr, .string (str sway)] 30 ∧ Blk w' nb #[.int .i64 yk, .string (str ykey), .string (str yval), .int .i64 ypos, .int .u64 yl, .int .u64 yr] 28 ∧ Below wN.heap.size wN w') → w'.cell? ⟨nb, 1, none⟩ = some (.string (str ykey)) := fun w' h => (h.2.1.cell 1).trans rfl
  have N2 : ∀ w', (Blk w' xb #[.int .i64 fr, .int .i64 sa, .int .i64 st, .int .i64 nk, .string (str nkey), .string (str nval), .int .i64 npos, .int .u64 nl, .int .u64 nr, .string (str sway)] 30 ∧ Blk w' nb #[.int .i64 yk, .string (str ykey), .string (str yval), .int .i64 ypos, .int .u64 yl, .int .u64 yr] 28 ∧ Below wN.heap.size wN w') → w'.cell? ⟨nb, 2, none⟩ = some (.string (str yval)) := fun w' h => (h.2.1.cell 2).trans rfl
  have N3 : ∀ w', (Blk w' xb #[.int .i64 fr, .int .i64 sa, .int .i64 st, .int .i64 nk, .string (str nkey), .string (str nval), .int .i64 npos, .int .u64 nl, .int .u64 nr, .string (str sway)] 30 ∧ Blk w' nb #[.int .i64 yk, .string (str ykey), .string (str yval), .int .i64 ypos, .int .u64 yl, .int .u64 yr] 28 ∧ Below wN.heap.size wN w') → w'.cell? ⟨nb, 3, none⟩ = some (.int .i64 ypos) := fun w' h => (h.2.1.cell 3).trans rfl
  have N4 : ∀ w', (Blk w' xb #[.int .i64 fr, .int .i64 sa, .int .i64 st, .int .i64 nk, .string (str nkey), .string (str nval), .int .i64 npos, .int .u64 nl, .int .u64 nr, .string (str sway)] 30 ∧ Blk w' nb #[.int .i64 yk, .string (str ykey), .string (str yval), .int .i64 ypos, .int .u64 yl, .int .u64 yr] 28 ∧ Below wN.heap.size wN w') → w'.cell? ⟨nb, 4, none⟩ = some (.int .u64 yl) := fun w' h => (h.2.1.cell 4).trans rfl
  have N5 : ∀ w', (Blk w' xb #[.int .i64 fr, .int .i64 sa, .int .i64 st, .int .i64 nk, .string (str nkey), .string (str nval), .int .i64 npos, .int .u64 nl, .int .u64 nr, .string (str sway)] 30 ∧ Blk w' nb #[.int .i64 yk, .string (str ykey), .string (str yval), .int .i64 ypos, .int .u64 yl, .int .u64 yr] 28 ∧ Below wN.heap.size wN w') → w'.cell? ⟨nb, 5, none⟩ = some (.int .u64 yr) := fun w' h => (h.2.1.cell 5).trans rfl
  clear kn7 kx7 B7 B6 kn6 kx6 HP9 B9 HP n0 n1 n2 n3 n4 n5 f0 f1 f2 f3 f4 f5 zn
  refine wp_region_held (S := fun w' => Blk w' xb #[.int .i64 fr, .int .i64 sa, .int .i64 st, .int .i64 nk, .string (str nkey), .string (str nval), .int .i64 npos, .int .u64 nl, .int .u64 nr, .string (str sway)] 30 ∧ Blk w' nb #[.int .i64 yk, .string (str ykey), .string (str yval), .int .i64 ypos, .int .u64 yl, .int .u64 yr] 28 ∧ Below wN.heap.size wN w') (by kernel_rfl) ?_
  refine wpAnyH_take (i := 0) (v := ?_) rfl (by kernel_rfl) (by kernel_rfl) (by kernel_rfl) (fun _ _ _ h => h) (Or.inl ⟨by kernel_rfl, ?_⟩) (by assumption) ?_
  rotate_left
  · intro w' hSw
    have y_X0 := X0 _ hSw
    have y_N0 := N0 _ hSw
    have y_N1 := N1 _ hSw
    have y_N2 := N2 _ hSw
    have y_N3 := N3 _ hSw
    have y_N4 := N4 _ hSw
    have y_N5 := N5 _ hSw
    go_simp
    try (with_reducible rfl)
  simp only [Act.put, List.getElem_toArray, List.getElem_cons_succ, List.getElem_cons_zero, List.setIfInBounds_toArray, List.set_cons_zero, List.set_cons_succ]
  refine wpAnyH_take (i := 1) (v := ?_) rfl (by kernel_rfl) (by kernel_rfl) (by kernel_rfl) (fun _ _ _ h => h) (Or.inl ⟨by kernel_rfl, ?_⟩) (by assumption) ?_
  rotate_left
  · intro w' hSw
    have y_X0 := X0 _ hSw
    have y_N0 := N0 _ hSw
    have y_N1 := N1 _ hSw
    have y_N2 := N2 _ hSw
    have y_N3 := N3 _ hSw
    have y_N4 := N4 _ hSw
    have y_N5 := N5 _ hSw
    go_simp
    try (with_reducible rfl)
  simp only [Act.put, List.getElem_toArray, List.getElem_cons_succ, List.getElem_cons_zero, List.setIfInBounds_toArray, List.set_cons_zero, List.set_cons_succ]
  refine wpAnyH_take (i := 2) (v := ?_) rfl (by kernel_rfl) (by kernel_rfl) (by kernel_rfl) (fun _ _ _ h => h) (Or.inl ⟨by kernel_rfl, ?_⟩) (by assumption) ?_
  rotate_left
  · intro w' hSw
    have y_X0 := X0 _ hSw
    have y_N0 := N0 _ hSw
    have y_N1 := N1 _ hSw
    have y_N2 := N2 _ hSw
    have y_N3 := N3 _ hSw
    have y_N4 := N4 _ hSw
    have y_N5 := N5 _ hSw
    go_simp
    try (with_reducible rfl)
  simp only [Act.put, List.getElem_toArray, List.getElem_cons_succ, List.getElem_cons_zero, List.setIfInBounds_toArray, List.set_cons_zero, List.set_cons_succ]
  refine wpAnyH_take (i := 3) (v := ?_) rfl (by kernel_rfl) (by kernel_rfl) (by kernel_rfl) (fun _ _ _ h => h) (Or.inl ⟨by kernel_rfl, ?_⟩) (by assumption) ?_
  rotate_left
  · intro w' hSw
    have y_X0 := X0 _ hSw
    have y_N0 := N0 _ hSw
    have y_N1 := N1 _ hSw
    have y_N2 := N2 _ hSw
    have y_N3 := N3 _ hSw
    have y_N4 := N4 _ hSw
    have y_N5 := N5 _ hSw
    go_simp
    try (with_reducible rfl)
  simp only [Act.put, List.getElem_toArray, List.getElem_cons_succ, List.getElem_cons_zero, List.setIfInBounds_toArray, List.set_cons_zero, List.set_cons_succ]
  refine wpAnyH_take (i := 4) (v := ?_) rfl (by kernel_rfl) (by kernel_rfl) (by kernel_rfl) (fun _ _ _ h => h) (Or.inl ⟨by kernel_rfl, ?_⟩) (by assumption) ?_
  rotate_left
  · intro w' hSw
    have y_X0 := X0 _ hSw
    have y_N0 := N0 _ hSw
    have y_N1 := N1 _ hSw
    have y_N2 := N2 _ hSw
    have y_N3 := N3 _ hSw
    have y_N4 := N4 _ hSw
    have y_N5 := N5 _ hSw
    go_simp
    try (with_reducible rfl)
  simp only [Act.put, List.getElem_toArray, List.getElem_cons_succ, List.getElem_cons_zero, List.setIfInBounds_toArray, List.set_cons_zero, List.set_cons_succ]
  refine wpAnyH_take (i := 6) (v := ?_) rfl (by kernel_rfl) (by kernel_rfl) (by kernel_rfl) (fun _ _ _ h => h) (Or.inl ⟨by kernel_rfl, ?_⟩) (by assumption) ?_
  rotate_left
  · intro w' hSw
    have y_X0 := X0 _ hSw
    have y_N0 := N0 _ hSw
    have y_N1 := N1 _ hSw
    have y_N2 := N2 _ hSw
    have y_N3 := N3 _ hSw
    have y_N4 := N4 _ hSw
    have y_N5 := N5 _ hSw
    go_simp
    try (with_reducible rfl)
  simp only [Act.put, List.getElem_toArray, List.getElem_cons_succ, List.getElem_cons_zero, List.setIfInBounds_toArray, List.set_cons_zero, List.set_cons_succ]
  refine wpAnyH_take (i := 7) (v := ?_) rfl (by kernel_rfl) (by kernel_rfl) (by kernel_rfl) (fun _ _ _ h => h) (Or.inl ⟨by kernel_rfl, ?_⟩) (by assumption) ?_
  rotate_left
  · intro w' hSw
    have y_X0 := X0 _ hSw
    have y_N0 := N0 _ hSw
    have y_N1 := N1 _ hSw
    have y_N2 := N2 _ hSw
    have y_N3 := N3 _ hSw
    have y_N4 := N4 _ hSw
    have y_N5 := N5 _ hSw
    go_simp
    try (with_reducible rfl)
  simp only [Act.put, List.getElem_toArray, List.getElem_cons_succ, List.getElem_cons_zero, List.setIfInBounds_toArray, List.set_cons_zero, List.set_cons_succ]
  refine wpAnyH_take (i := 8) (v := ?_) rfl (by kernel_rfl) (by kernel_rfl) (by kernel_rfl) (fun _ _ _ h => h) (Or.inl ⟨by kernel_rfl, ?_⟩) (by assumption) ?_
  rotate_left
  · intro w' hSw
    have y_X0 := X0 _ hSw
    have y_N0 := N0 _ hSw
    have y_N1 := N1 _ hSw
    have y_N2 := N2 _ hSw
    have y_N3 := N3 _ hSw
    have y_N4 := N4 _ hSw
    have y_N5 := N5 _ hSw
    go_simp
    try (with_reducible rfl)
  simp only [Act.put, List.getElem_toArray, List.getElem_cons_succ, List.getElem_cons_zero, List.setIfInBounds_toArray, List.set_cons_zero, List.set_cons_succ]
  refine wpAnyH_take (i := 9) (v := ?_) rfl (by kernel_rfl) (by kernel_rfl) (by kernel_rfl) (fun _ _ _ h => h) (Or.inl ⟨by kernel_rfl, ?_⟩) (by assumption) ?_
  rotate_left
  · intro w' hSw
    have y_X0 := X0 _ hSw
    have y_N0 := N0 _ hSw
    have y_N1 := N1 _ hSw
    have y_N2 := N2 _ hSw
    have y_N3 := N3 _ hSw
    have y_N4 := N4 _ hSw
    have y_N5 := N5 _ hSw
    go_simp
    try (with_reducible rfl)
  simp only [Act.put, List.getElem_toArray, List.getElem_cons_succ, List.getElem_cons_zero, List.setIfInBounds_toArray, List.set_cons_zero, List.set_cons_succ]
  refine wpAnyH_take (i := 10) (v := ?_) rfl (by kernel_rfl) (by kernel_rfl) (by kernel_rfl) (fun _ _ _ h => h) (Or.inl ⟨by kernel_rfl, ?_⟩) (by assumption) ?_
  rotate_left
  · intro w' hSw
    have y_X0 := X0 _ hSw
    have y_N0 := N0 _ hSw
    have y_N1 := N1 _ hSw
    have y_N2 := N2 _ hSw
    have y_N3 := N3 _ hSw
    have y_N4 := N4 _ hSw
    have y_N5 := N5 _ hSw
    go_simp
    try (with_reducible rfl)
  simp only [Act.put, List.getElem_toArray, List.getElem_cons_succ, List.getElem_cons_zero, List.setIfInBounds_toArray, List.set_cons_zero, List.set_cons_succ]
  refine wpAnyH_ready (rs := [5]) (by kernel_rfl) (by simp) ?_
  refine AllReadyH.cons rfl (fun K hK => ?_) AllReadyH.nil
  go_simp
  refine KG.mono ?_
  rintro e w7 ⟨code, rfl, kt7, bN7, KR7⟩
  have hS7 : Blk w7 xb #[.int .i64 fr, .int .i64 sa, .int .i64 st, .int .i64 nk, .string (str nkey), .string (str nval), .int .i64 npos, .int .u64 nl, .int .u64 nr, .string (str sway)] 30 ∧ Blk w7 nb #[.int .i64 yk, .string (str ykey), .string (str yval), .int .i64 ypos, .int .u64 yl, .int .u64 yr] 28 ∧ Below wN.heap.size wN w7 := ⟨kt7.same _ _ _ hS6.1 (by decide) (by decide), kt7.same _ _ _ hS6.2.1 (by decide) (by decide), bN7⟩
  refine hK.out _ _ hS7 (fun _ => ?_)
  clear hK K KG
  try simp only [Act.put, List.getElem_toArray, List.getElem_cons_succ, List.getElem_cons_zero, List.setIfInBounds_toArray, List.set_cons_zero, List.set_cons_succ]
  refine wpAnyH_ready (rs := [11]) (by kernel_rfl) (by simp) ?_
  refine AllReadyH.cons rfl (fun K hK => ?_) AllReadyH.nil
  go_simp
  refine (KR7 _ (Below.refl _ _)).mono ?_
  rintro e w8 ⟨rfl, O8, ⟨cs8, kg8⟩, L', o', bar', sb', HP8⟩
  have hS8 : Blk w8 xb #[.int .i64 fr, .int .i64 sa, .int .i64 st, .int .i64 nk, .string (str nkey), .string (str nval), .int .i64 npos, .int .u64 nl, .int .u64 nr, .string (str sway)] 30 ∧ Blk w8 nb #[.int .i64 yk, .string (str ykey), .string (str yval), .int .i64 ypos, .int .u64 yl, .int .u64 yr] 28 ∧ Below wN.heap.size wN w8 := ⟨O8.blkG hS7.1 kg8 (by decide), O8.blkG hS7.2.1 kg8 (by decide), HP8.bel⟩
  refine hK.out _ _ hS8 (fun _ => ?_)
  clear hK K KR7
  try simp only [Act.put, List.getElem_toArray, List.getElem_cons_succ, List.getElem_cons_zero, List.setIfInBounds_toArray, List.set_cons_zero, List.set_cons_succ]
  refine wpAnyH_take (i := 12) (v := .bool false) rfl (by kernel_rfl) (by kernel_rfl) (by kernel_rfl) (fun _ _ _ h => h) (Or.inl ⟨by kernel_rfl, ?_⟩) (by assumption) ?_
  · intro w' hSw
    have y_X0 := X0 _ hSw
    have y_N0 := N0 _ hSw
    have y_N1 := N1 _ hSw
    have y_N2 := N2 _ hSw
    have y_N3 := N3 _ hSw
    have y_N4 := N4 _ hSw
    have y_N5 := N5 _ hSw
    go_simp
    try (with_reducible rfl)
  simp only [Act.put, List.getElem_toArray, List.getElem_cons_succ, List.getElem_cons_zero, List.setIfInBounds_toArray, List.set_cons_zero, List.set_cons_succ]
  refine wpAnyH_done (by kernel_rfl) ?_ _
  clear X0 N0 N1 N2 N3 N4 N5 hS6 hS7 hS8 kt7 O8 kg8
  have HP8 : Hid (Pr wN bu fb mb gb wd o0 la cap (i + 1) L' o' bar' sb' w8) := HP8
  clear HX HY HY0
  have KB := HP8.out.barred (by omega)
  go_wp2_with fail
  refine KB.mono ?_
  rintro e w10 ⟨vc, rfl, hrc, b10⟩
  have HP10 : Hid (Pr wN bu fb mb gb wd o0 la cap (i + 1) L' o' bar' sb' w10) := HP8.out.next b10
  clear KB HP8 b10
  obtain ⟨ca, cc, rfl, hcc⟩ := row_at hrc
  obtain ⟨base, vL, vB, li, ci, RF, hi9, hc9⟩ := HP10.out.rs
  obtain ⟨da, dc, rfl, hdd⟩ := row_at RF.wb
  have c5 := (RF.k.cell 5).trans rfl
  have zf := RF.k.lt
  have hsl : sb'.length ≤ 1000 := by
    have h1 := HP10.out.bl
    have h2 := HP10.out.pm.length_eq
    omega
  have kg := RF.k
  clear hrc hi9 hc9 RF
  go_wp2_with fail
  go_loopw [20] (fun kv wv => ∃ j : Nat, j ≤ sb'.length ∧ kv = .int .i64 j ∧ Below w10.heap.size w10 wv) (fun kv _ => sb'.length - (intOf kv).toNat)
  case atStart => exact ⟨0, Nat.zero_le _, rfl, Below.refl _ _⟩
  case round =>
    obtain ⟨j, hj, rfl, hb⟩ := hrel
    by_cases hlt : j < sb'.length
    · have hlt' : (j : Int) < (sb'.length : Int) := by omega
      obtain ⟨g1, e1, z1, a1⟩ := hcc (by omega)
      obtain ⟨g2, e2, z2, a2⟩ := hdd (by omega)
      subst e1 e2
      have q1 := (hb.cell (p := ⟨g1, j, none⟩) z1).trans (a1 j _ (flatI_get sb' j hlt))
      have q2 := (hb.cell (p := ⟨g2, j, none⟩) z2).trans (a2 j _ (flatI_get sb' j hlt))
      have y5 := (hb.cell (p := ⟨gb, 5, none⟩) zf).trans c5
      have zf2 := Nat.lt_of_lt_of_le zf hb.size
      have z12 := Nat.lt_of_lt_of_le z1 hb.size
      have z22 := Nat.lt_of_lt_of_le z2 hb.size
      generalize sb'[j] = y at *
      clear a1 a2 hcc hdd HQ HP10 c5 zf z1 z2
      go_upto_region 33 with fail
      go_quiet (fail)
      go_wp2
      exact ⟨⟨j + 1, by omega, by go_num, below_drewN hb _⟩, by simp [intOf]; omega⟩
    · have hge : ¬ (j : Int) < (sb'.length : Int) := by omega
      have HF : Hid (∃ L' o' bar' sb', Pr wN bu fb mb gb wd o0 la cap (i + 1) L' o' bar' sb' wr) := ⟨L', o', bar', sb', HP10.out.next hb⟩
      clear hcc hdd HP10
      go_wp2
      exact HQ.out _ _ _ _ _ _ _ _ _ _ _ _ _ _ _ _ _ _ _ _ _ _ _ _ _ _ _ _ _ _ _ _ _ _ _ _ _ _ _ _ _ _ _ _ _ _ _ _ _ _ _ _ _ _ _ wr HF.out
end Go.Proofs.YtmhllihedejehaaGreat
