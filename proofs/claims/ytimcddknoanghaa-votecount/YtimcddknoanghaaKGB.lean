/- VoteCount: what is closed. -/
import Derived.Test.YtimcddknoanghaaKLawE
import Derived.Deep.CutBlock
import Derived.BigQuiet
import Derived.Test.YtimcddknoanghaaKNew

namespace Go.Proofs.Ytimcddknoanghaa
open Go.RowKit
set_option linter.unusedVariables false
set_option linter.unusedSimpArgs false

set_option maxRecDepth 20000 in
set_option maxHeartbeats 12800000 in
theorem vcD (x : List (Int × Int)) (ht : Int) (L : List Vt) (la : Option Addr) (lc n : Nat) (hn : n ≤ 512) (cb rb : Nat) (aa : Option Addr) (ac : Nat) (ask : List Int) (hask : ask.length ≤ 64) (hai : ∀ y ∈ ask, -9223372036854775808 ≤ y ∧ y ≤ 9223372036854775807) (w wv : World) (H : Both w wv cb rb x ht L la lc n) (hI : IntsAt w aa ask) (c0 c1 c2 c4 c5 c6 c7 c8 c9 c12 c13 c14 c15 c16 c17 c18 c19 c20 c21 c22 c23 c24 c25 c26 c27 c28 c29 c30 c31 c32 c33 c34 c35 c36 c37 c38 c39 c40 c41 c42 c43 c44 c45 c46 c47 c48 c49 c50 c51 c52 c53 c54 c55 c56 c57 c58 c59 c60 c61 c62 c63 c64 c65 c66 c67 c68 c69 c70 c71 c72 c73 c74 c75 c76 c77 c78 c79 c80 c81 c82 c83 c84 c85 c86 c87 c88 c89 c90 c91 c92 c93 c94 c95 c96 c97 c98 c99 c100 c101 c102 c103 c104 c105 c106 c107 c108 c109 c110 c111 c112 c113 c114 c115 c116 c117 c118 c119 c120 c121 c122 c123 c124 c125 c126 c127 c128 c129 c130 c131 c132 c133 c134 c135 c136 c137 c138 c139 c140 c141 c142 c143 c144 c145 c146 c147 c148 c149 c150 c151 c152 c153 c154 c155 c156 c157 c158 c159 c160 c161 c162 c163 c164 c165 c166 c167 c168 c169 c170 c171 c172 c173 c174 c175 c176 c177 c178 c179 c180 c181 c182 c183 c184 c185 c186 c187 c188 c189 c190 c191 c192 c193 c194 c195 c196 c197 c198 c199 c200 c201 c202 c203 c204 c205 c206 c207 c208 : Value) :
    Code.wp Try.prog (dropSeq 9 (Try.f3.body.getD .skip)) (bodyPost Try.prog Try.f3 (fun e w' => e = .returned (.bool true) ∧ Below w.heap.size w w')) ⟨#[c0, c1, c2, .slice aa ask.length ac, c4, c5, c6, c7, c8, c9, .pointer (some ⟨cb, 0, none⟩), .pointer (some ⟨rb, 0, none⟩), c12, c13, c14, c15, c16, c17, c18, c19, c20, c21, c22, c23, c24, c25, c26, c27, c28, c29, c30, c31, c32, c33, c34, c35, c36, c37, c38, c39, c40, c41, c42, c43, c44, c45, c46, c47, c48, c49, c50, c51, c52, c53, c54, c55, c56, c57, c58, c59, c60, c61, c62, c63, c64, c65, c66, c67, c68, c69, c70, c71, c72, c73, c74, c75, c76, c77, c78, c79, c80, c81, c82, c83, c84, c85, c86, c87, c88, c89, c90, c91, c92, c93, c94, c95, c96, c97, c98, c99, c100, c101, c102, c103, c104, c105, c106, c107, c108, c109, c110, c111, c112, c113, c114, c115, c116, c117, c118, c119, c120, c121, c122, c123, c124, c125, c126, c127, c128, c129, c130, c131, c132, c133, c134, c135, c136, c137, c138, c139, c140, c141, c142, c143, c144, c145, c146, c147, c148, c149, c150, c151, c152, c153, c154, c155, c156, c157, c158, c159, c160, c161, c162, c163, c164, c165, c166, c167, c168, c169, c170, c171, c172, c173, c174, c175, c176, c177, c178, c179, c180, c181, c182, c183, c184, c185, c186, c187, c188, c189, c190, c191, c192, c193, c194, c195, c196, c197, c198, c199, c200, c201, c202, c203, c204, c205, c206, c207, c208], []⟩ wv := by
  conv => arg 2; whnf
  conv => arg 4; dsimp only
  obtain ⟨h, r, s, has, bl, fr, ok, hl, F1, F2⟩ := H.closed hn
  have bv : Below wv.heap.size wv wv := Below.refl _ _
  go_wp2_with fail
  refine (F1 wv bv).mono ?_
  rintro e w1 ⟨⟨fa, fc, rfl, ia, hfa⟩, b1⟩
  have bA : Below w1.heap.size w1 (w1.alloc (.cells #[.int .i64 h, .int .i64 r, .int .i64 s, .bool has, .int .u64 bl, .slice fa fr.length fc] 42)) := (Below.refl _ _).alloc (Nat.le_refl _) _
  have kA := Blk.new w1 #[.int .i64 h, .int .i64 r, .int .i64 s, .bool has, .int .u64 bl, .slice fa fr.length fc] 42
  have B2 := b1.trans (bA.mono b1.size)
  have i2 := ia.below bA
  have z1 := b1.size
  have q1 : w1.heap.size < (w1.alloc (.cells #[.int .i64 h, .int .i64 r, .int .i64 s, .bool has, .int .u64 bl, .slice fa fr.length fc] 42)).heap.size := kA.lt
  clear bA b1 ia hfa
  go_upto_region 22 with fail
  generalize w1.alloc (.cells #[.int .i64 h, .int .i64 r, .int .i64 s, .bool has, .int .u64 bl, .slice fa fr.length fc] 42) = w2 at *
  generalize w1.heap.size = ab at *
  go_wp2_with fail
  refine (F2 w2 B2).mono ?_
  rintro e w3 ⟨⟨ga, gc, rfl, ja, hga⟩, b3⟩
  have bA : Below w3.heap.size w3 (w3.alloc (.cells #[.int .i64 h, .int .i64 r, .int .i64 s, .bool has, .int .u64 bl, .slice ga fr.length gc] 42)) := (Below.refl _ _).alloc (Nat.le_refl _) _
  have kB := Blk.new w3 #[.int .i64 h, .int .i64 r, .int .i64 s, .bool has, .int .u64 bl, .slice ga fr.length gc] 42
  have kA4 := (kA.below b3 kA.lt).alloc (.cells #[.int .i64 h, .int .i64 r, .int .i64 s, .bool has, .int .u64 bl, .slice ga fr.length gc] 42)
  have B3 := B2.trans (b3.mono B2.size)
  have B4 := B3.trans (bA.mono B3.size)
  have i4 := (i2.below b3).below bA
  have j4 := ja.below bA
  have z3 := b3.size
  clear bA b3 ja hga B2 B3 i2 kA
  go_upto_region 23 with fail
  generalize w3.alloc (.cells #[.int .i64 h, .int .i64 r, .int .i64 s, .bool has, .int .u64 bl, .slice ga fr.length gc] 42) = w4 at *
  generalize w3.heap.size = bb at *
  have ya0 := (kA4.cell 0).trans rfl
  have ya1 := (kA4.cell 1).trans rfl
  have ya2 := (kA4.cell 2).trans rfl
  have ya3 := (kA4.cell 3).trans rfl
  have ya4 := (kA4.cell 4).trans rfl
  have ya5 := (kA4.cell 5).trans rfl
  have yb0 := (kB.cell 0).trans rfl
  have yb1 := (kB.cell 1).trans rfl
  have yb2 := (kB.cell 2).trans rfl
  have yb3 := (kB.cell 3).trans rfl
  have yb4 := (kB.cell 4).trans rfl
  have yb5 := (kB.cell 5).trans rfl
  have zA := kA4.lt
  have zB := kB.lt
  have hd : (ok != ok) = false := by simp
  go_wp2_with fail
  refine (sameCert_any h r s has bl fa ga fc gc fr w4 (by omega) i4 j4).mono ?_
  rintro e w5 ⟨rfl, b5⟩
  have kA5 := kA4.below b5 kA4.lt
  have kB5 := kB.below b5 kB.lt
  have B5 := B4.trans (b5.mono B4.size)
  have E5 : LoopE wv ab bb w5 := ⟨B5, ⟨_, _, _, _, _, _, kA5⟩, ⟨_, _, _, _, _, _, kB5⟩, by omega, by omega, by omega⟩
  clear ya0 ya1 ya2 ya3 ya4 ya5 yb0 yb1 yb2 yb3 yb4 yb5 zA zB kA4 kB kA5 kB5 i4 j4 B4 B5 b5 F1 F2
  go_upto_if 126 with fail
  go_cut [] (fun wx => w5 = wx)
  case first =>
    go_wp2_with fail
    go_meet
    case rel => rfl
  case rest =>
    subst hcut
    refine ‹∀ a w, Code.wp Try.prog _ _ a w → _› _ _ ?_
    exact vcE x ht L la lc n hn cb rb ab bb aa ac ask hask hai w wv w5 H hI E5 _ _ _ _ _ _ _ _ _ _ _ _ _ _ _ _ _ _ _ _ _ _ _ _ _ _ _ _ _ _ _ _ _ _ _ _ _ _ _ _ _ _ _ _ _ _ _ _ _ _ _ _ _ _ _ _ _ _ _ _ _ _ _ _ _ _ _ _ _ _ _ _ _ _ _ _ _ _ _ _ _ _ _ _ _ _ _ _ _ _ _ _ _ _ _ _ _ _ _ _ _ _ _ _ _ _ _ _ _ _ _ _ _ _ _ _ _ _ _ _ _ _ _ _ _ _ _ _ _ _ _ _ _ _ _ _ _ _ _ _ _ _ _ _ _ _ _ _ _ _ _ _ _ _ _ _ _ _ _ _ _ _ _ _ _ _ _ _ _ _ _ _ _ _ _ _ _ _ _ _ _ _ _ _ _ _ _ _ _ _ _ _ _ _ _ _ _ _ _ _ _ _ _ _

end Go.Proofs.Ytimcddknoanghaa

namespace Go.Proofs.Ytimcddknoanghaa
open Go.RowKit
set_option linter.unusedVariables false
set_option linter.unusedSimpArgs false

set_option maxRecDepth 20000 in
set_option maxHeartbeats 12800000 in
theorem vcC (x : List (Int × Int)) (ht : Int) (L : List Vt) (la : Option Addr) (lc n : Nat) (hn : n ≤ 512) (cb rb : Nat) (aa : Option Addr) (ac : Nat) (ask : List Int) (hask : ask.length ≤ 64) (hai : ∀ y ∈ ask, -9223372036854775808 ≤ y ∧ y ≤ 9223372036854775807) (w wv : World) (H : Both w wv cb rb x ht L la lc n) (hI : IntsAt w aa ask) (c0 c1 c2 c4 c5 c6 c7 c8 c9 c12 c13 c14 c15 c16 c17 c18 c19 c20 c21 c22 c23 c24 c25 c26 c27 c28 c29 c30 c31 c32 c33 c34 c35 c36 c37 c38 c39 c40 c41 c42 c43 c44 c45 c46 c47 c48 c49 c50 c51 c52 c53 c54 c55 c56 c57 c58 c59 c60 c61 c62 c63 c64 c65 c66 c67 c68 c69 c70 c71 c72 c73 c74 c75 c76 c77 c78 c79 c80 c81 c82 c83 c84 c85 c86 c87 c88 c89 c90 c91 c92 c93 c94 c95 c96 c97 c98 c99 c100 c101 c102 c103 c104 c105 c106 c107 c108 c109 c110 c111 c112 c113 c114 c115 c116 c117 c118 c119 c120 c121 c122 c123 c124 c125 c126 c127 c128 c129 c130 c131 c132 c133 c134 c135 c136 c137 c138 c139 c140 c141 c142 c143 c144 c145 c146 c147 c148 c149 c150 c151 c152 c153 c154 c155 c156 c157 c158 c159 c160 c161 c162 c163 c164 c165 c166 c167 c168 c169 c170 c171 c172 c173 c174 c175 c176 c177 c178 c179 c180 c181 c182 c183 c184 c185 c186 c187 c188 c189 c190 c191 c192 c193 c194 c195 c196 c197 c198 c199 c200 c201 c202 c203 c204 c205 c206 c207 c208 : Value) :
    Code.wp Try.prog (dropSeq 6 (Try.f3.body.getD .skip)) (bodyPost Try.prog Try.f3 (fun e w' => e = .returned (.bool true) ∧ Below w.heap.size w w')) ⟨#[c0, c1, c2, .slice aa ask.length ac, c4, c5, c6, c7, c8, c9, .pointer (some ⟨cb, 0, none⟩), .pointer (some ⟨rb, 0, none⟩), c12, c13, c14, c15, c16, c17, c18, c19, c20, c21, c22, c23, c24, c25, c26, c27, c28, c29, c30, c31, c32, c33, c34, c35, c36, c37, c38, c39, c40, c41, c42, c43, c44, c45, c46, c47, c48, c49, c50, c51, c52, c53, c54, c55, c56, c57, c58, c59, c60, c61, c62, c63, c64, c65, c66, c67, c68, c69, c70, c71, c72, c73, c74, c75, c76, c77, c78, c79, c80, c81, c82, c83, c84, c85, c86, c87, c88, c89, c90, c91, c92, c93, c94, c95, c96, c97, c98, c99, c100, c101, c102, c103, c104, c105, c106, c107, c108, c109, c110, c111, c112, c113, c114, c115, c116, c117, c118, c119, c120, c121, c122, c123, c124, c125, c126, c127, c128, c129, c130, c131, c132, c133, c134, c135, c136, c137, c138, c139, c140, c141, c142, c143, c144, c145, c146, c147, c148, c149, c150, c151, c152, c153, c154, c155, c156, c157, c158, c159, c160, c161, c162, c163, c164, c165, c166, c167, c168, c169, c170, c171, c172, c173, c174, c175, c176, c177, c178, c179, c180, c181, c182, c183, c184, c185, c186, c187, c188, c189, c190, c191, c192, c193, c194, c195, c196, c197, c198, c199, c200, c201, c202, c203, c204, c205, c206, c207, c208], []⟩ wv := by
  conv => arg 2; whnf
  conv => arg 4; dsimp only
  go_wp2_with fail
  refine (H.votes hn).mono ?_
  rintro e w1 ⟨⟨ma, mc, rfl, hM⟩, b1⟩
  have G := H.next b1
  clear H b1
  have hL5 := G.few
  obtain ⟨zc, zr, hr2, hV⟩ := G.cells
  have hlen : ((L.length : Int) != (L.length : Int)) = false := by simp
  go_upto_block 2 with fail
  go_cut [] (fun wx => Below w1.heap.size w1 wx)
  case rest =>
    have G2 := G.next hcut
    clear G hM hV hr2 zc zr
    generalize wc = wx at *
    refine ‹∀ a w, Code.wp Try.prog _ _ a w → _› _ _ ?_
    exact vcD x ht L la lc n hn cb rb aa ac ask hask hai w wx G2 hI _ _ _ _ _ _ _ _ _ _ _ _ _ _ _ _ _ _ _ _ _ _ _ _ _ _ _ _ _ _ _ _ _ _ _ _ _ _ _ _ _ _ _ _ _ _ _ _ _ _ _ _ _ _ _ _ _ _ _ _ _ _ _ _ _ _ _ _ _ _ _ _ _ _ _ _ _ _ _ _ _ _ _ _ _ _ _ _ _ _ _ _ _ _ _ _ _ _ _ _ _ _ _ _ _ _ _ _ _ _ _ _ _ _ _ _ _ _ _ _ _ _ _ _ _ _ _ _ _ _ _ _ _ _ _ _ _ _ _ _ _ _ _ _ _ _ _ _ _ _ _ _ _ _ _ _ _ _ _ _ _ _ _ _ _ _ _ _ _ _ _ _ _ _ _ _ _ _ _ _ _ _ _ _ _ _ _ _ _ _ _ _ _ _ _ _ _ _ _ _ _ _ _ _ _ _
  case first =>
    have HG := show Hid (Both _ _ _ _ _ _ _ _ _ _) from G
    clear G
    go_wp2_with fail
    go_loopw [18] (fun iv w2 => ∃ i : Nat, i ≤ L.length ∧ iv = .int .i64 i ∧ Below w1.heap.size w1 w2) (fun iv _ => L.length - (intOf iv).toNat)
    case atStart => exact ⟨0, Nat.zero_le _, rfl, Below.refl _ _⟩
    case round =>
      obtain ⟨i, hi, rfl, hb⟩ := hrel
      by_cases hlt : i < L.length
      · have hlt' : (i : Int) < (L.length : Int) := by omega
        have c2 : wr.cell? ⟨rb, 2, none⟩ = some (.slice la L.length lc) := by rw [hb.cell (p := ⟨rb, 2, none⟩) zr]; exact hr2
        have zr2 : rb < wr.heap.size := Nat.lt_of_lt_of_le zr hb.size
        obtain ⟨b6, o6, e6, g6, m0, m1, m2, m3, m4, m5⟩ := (hM.below hb).one hlt
        obtain ⟨b7, o7, e7, g7, n0, n1, n2, n3, n4, n5⟩ := (hV.below hb).one hlt
        subst e6 e7
        generalize L[i] = y at *
        have HH := show Hid (_ ∧ _ ∧ _) from ⟨hM, hV, hr2⟩
        clear hM hV hr2
        go_upto_region 19 with fail
        go_quiet (fail)
        go_wp2
        exact ⟨⟨i + 1, by omega, by go_num, below_drewN hb _⟩, by simp [intOf]; omega⟩
      · have hge : ¬ (i : Int) < (L.length : Int) := by omega
        go_wp2_with fail
        go_meet
        case rel => exact hb

end Go.Proofs.Ytimcddknoanghaa

namespace Go.Proofs.Ytimcddknoanghaa
open Go.RowKit
set_option linter.unusedVariables false
set_option linter.unusedSimpArgs false

set_option maxRecDepth 20000 in
set_option maxHeartbeats 12800000 in
theorem vcB (la : Option Addr) (ca : Nat) (l : List (Int × Int)) (ht : Int) (va : Option Addr) (vc : Nat) (vs : List Vt) (aa : Option Addr) (ac : Nat) (ask : List Int) (hl : l.length ≤ 4096) (hw : ∀ x ∈ l, (-9223372036854775808 ≤ x.1 ∧ x.1 ≤ 9223372036854775807) ∧ -9223372036854775808 ≤ x.2 ∧ x.2 ≤ 9223372036854775807) (hvs : vs.length ≤ 512) (hvi : ∀ v ∈ vs, InV v) (hask : ask.length ≤ 64) (hai : ∀ y ∈ ask, -9223372036854775808 ≤ y ∧ y ≤ 9223372036854775807) (w : World) (hS : SeatsAt w la l) (hV : VotesAt w va vs) (hI : IntsAt w aa ask) (c4 c5 c6 c7 c8 c9 c10 c11 c12 c13 c14 c15 c16 c17 c18 c19 c20 c21 c22 c23 c24 c25 c26 c27 c28 c29 c30 c31 c32 c33 c34 c35 c36 c37 c38 c39 c40 c41 c42 c43 c44 c45 c46 c47 c48 c49 c50 c51 c52 c53 c54 c55 c56 c57 c58 c59 c60 c61 c62 c63 c64 c65 c66 c67 c68 c69 c70 c71 c72 c73 c74 c75 c76 c77 c78 c79 c80 c81 c82 c83 c84 c85 c86 c87 c88 c89 c90 c91 c92 c93 c94 c95 c96 c97 c98 c99 c100 c101 c102 c103 c104 c105 c106 c107 c108 c109 c110 c111 c112 c113 c114 c115 c116 c117 c118 c119 c120 c121 c122 c123 c124 c125 c126 c127 c128 c129 c130 c131 c132 c133 c134 c135 c136 c137 c138 c139 c140 c141 c142 c143 c144 c145 c146 c147 c148 c149 c150 c151 c152 c153 c154 c155 c156 c157 c158 c159 c160 c161 c162 c163 c164 c165 c166 c167 c168 c169 c170 c171 c172 c173 c174 c175 c176 c177 c178 c179 c180 c181 c182 c183 c184 c185 c186 c187 c188 c189 c190 c191 c192 c193 c194 c195 c196 c197 c198 c199 c200 c201 c202 c203 c204 c205 c206 c207 c208 : Value) :
    Code.wp Try.prog (dropSeq 2 (Try.f3.body.getD .skip)) (bodyPost Try.prog Try.f3 (fun e w' => e = .returned (.bool true) ∧ Below w.heap.size w w')) ⟨#[.slice la l.length ca, .int .i64 ht, .slice va vs.length vc, .slice aa ask.length ac, c4, c5, c6, c7, c8, c9, c10, c11, c12, c13, c14, c15, c16, c17, c18, c19, c20, c21, c22, c23, c24, c25, c26, c27, c28, c29, c30, c31, c32, c33, c34, c35, c36, c37, c38, c39, c40, c41, c42, c43, c44, c45, c46, c47, c48, c49, c50, c51, c52, c53, c54, c55, c56, c57, c58, c59, c60, c61, c62, c63, c64, c65, c66, c67, c68, c69, c70, c71, c72, c73, c74, c75, c76, c77, c78, c79, c80, c81, c82, c83, c84, c85, c86, c87, c88, c89, c90, c91, c92, c93, c94, c95, c96, c97, c98, c99, c100, c101, c102, c103, c104, c105, c106, c107, c108, c109, c110, c111, c112, c113, c114, c115, c116, c117, c118, c119, c120, c121, c122, c123, c124, c125, c126, c127, c128, c129, c130, c131, c132, c133, c134, c135, c136, c137, c138, c139, c140, c141, c142, c143, c144, c145, c146, c147, c148, c149, c150, c151, c152, c153, c154, c155, c156, c157, c158, c159, c160, c161, c162, c163, c164, c165, c166, c167, c168, c169, c170, c171, c172, c173, c174, c175, c176, c177, c178, c179, c180, c181, c182, c183, c184, c185, c186, c187, c188, c189, c190, c191, c192, c193, c194, c195, c196, c197, c198, c199, c200, c201, c202, c203, c204, c205, c206, c207, c208], []⟩ w := by
  conv => arg 2; whnf
  conv => arg 4; dsimp only
  go_wp2_with fail
  refine (seated_any la ca l w (by unfold maxLen; omega) hw hS).mono ?_
  rintro e w1 ⟨⟨sv, x, rfl, hgd, hox⟩, b1⟩
  obtain ⟨xa, xc, rfl, hsx, hfx⟩ := SL.of_owns hox
  have hx0 : x ≠ [] := fun e => by have := hgd.pos; rw [e] at this; simp at this
  have hx7 := hgd.few
  clear hox hfx hS hw
  have HX0 := show Hid (x ≠ []) from hx0
  clear hx0
  go_wp2_with fail
  refine (new_any xa xc x ht w1 HX0.out (by omega) hsx).mono ?_
  rintro e w2 ⟨cb, mb, sa, sc, rfl, Pq, b2, hcb, hmb, hcm, hsa⟩
  have H0 := Both.new b1 hgd hsx Pq b2 hcb hmb hcm hsa
  clear Pq b1 b2 hcb hmb hcm hsa hsx hgd HX0 hx7
  go_upto_block 0 with fail
  generalize w2.alloc (.cells #[.slice xa x.length xc, .int .i64 ht, .slice none 0 0] 30) = w3 at *
  generalize w2.heap.size = rb at *
  go_cut [] (fun wx => ∃ L la lc n, n ≤ 512 ∧ Both w wx cb rb x ht L la lc n)
  case rest =>
    clear H0
    obtain ⟨L, la2, lc2, n, hn, G⟩ := hcut
    generalize wc = wx at *
    refine ‹∀ a w, Code.wp Try.prog _ _ a w → _› _ _ ?_
    exact vcC x ht L la2 lc2 n hn cb rb aa ac ask hask hai w wx G hI _ _ _ _ _ _ _ _ _ _ _ _ _ _ _ _ _ _ _ _ _ _ _ _ _ _ _ _ _ _ _ _ _ _ _ _ _ _ _ _ _ _ _ _ _ _ _ _ _ _ _ _ _ _ _ _ _ _ _ _ _ _ _ _ _ _ _ _ _ _ _ _ _ _ _ _ _ _ _ _ _ _ _ _ _ _ _ _ _ _ _ _ _ _ _ _ _ _ _ _ _ _ _ _ _ _ _ _ _ _ _ _ _ _ _ _ _ _ _ _ _ _ _ _ _ _ _ _ _ _ _ _ _ _ _ _ _ _ _ _ _ _ _ _ _ _ _ _ _ _ _ _ _ _ _ _ _ _ _ _ _ _ _ _ _ _ _ _ _ _ _ _ _ _ _ _ _ _ _ _ _ _ _ _ _ _ _ _ _ _ _ _ _ _ _ _ _ _ _ _ _ _ _ _ _ _
  case first =>
    go_wp2_with fail
    go_loopw [12] (fun iv w2 => ∃ (i : Nat) (L : List Vt) (la : Option Addr) (lc : Nat), i ≤ vs.length ∧ iv = .int .i64 i ∧ Both w w2 cb rb x ht L la lc i) (fun iv _ => vs.length - (intOf iv).toNat)
    case atStart => exact ⟨0, [], none, 0, Nat.zero_le _, rfl, H0⟩
    case round =>
      obtain ⟨i, L, la2, lc2, hi, rfl, G⟩ := hrel
      clear H0
      by_cases hlt : i < vs.length
      · have hlt' : (i : Int) < (vs.length : Int) := by omega
        obtain ⟨vb, vo, e, hvb, d0, d1, d2, d3, d4, d5⟩ := hV.one hlt
        subst e
        have hv := hvi _ (List.getElem_mem hlt)
        generalize vs[i] = v at *
        have hvz : vb < wr.heap.size := Nat.lt_of_lt_of_le hvb G.bel.size
        have q0 : wr.cell? ⟨vb, vo + i * 6, none⟩ = some (.int .i64 v.h) := by rw [(G.bel).cell (p := ⟨vb, vo + i * 6, none⟩) hvb]; exact d0
        have q1 : wr.cell? ⟨vb, vo + i * 6 + 1, none⟩ = some (.int .i64 v.r) := by rw [(G.bel).cell (p := ⟨vb, vo + i * 6 + 1, none⟩) hvb]; exact d1
        have q2 : wr.cell? ⟨vb, vo + i * 6 + 2, none⟩ = some (.int .i64 v.s) := by rw [(G.bel).cell (p := ⟨vb, vo + i * 6 + 2, none⟩) hvb]; exact d2
        have q3 : wr.cell? ⟨vb, vo + i * 6 + 3, none⟩ = some (.bool v.has) := by rw [(G.bel).cell (p := ⟨vb, vo + i * 6 + 3, none⟩) hvb]; exact d3
        have q4 : wr.cell? ⟨vb, vo + i * 6 + 4, none⟩ = some (.int .u64 v.bl) := by rw [(G.bel).cell (p := ⟨vb, vo + i * 6 + 4, none⟩) hvb]; exact d4
        have q5 : wr.cell? ⟨vb, vo + i * 6 + 5, none⟩ = some (.int .i64 v.f) := by rw [(G.bel).cell (p := ⟨vb, vo + i * 6 + 5, none⟩) hvb]; exact d5
        have HD := show Hid (_ ∧ _ ∧ _ ∧ _ ∧ _ ∧ _) from ⟨d0, d1, d2, d3, d4, d5⟩
        have HV := show Hid (_) from hV
        clear d0 d1 d2 d3 d4 d5 hV
        have hzc := G.cells.1
        have hzr := G.cells.2.1
        go_wp2_with fail
        refine (G.add1 (by omega) v hv).mono ?_
        rintro e w1' ⟨⟨gh, gr, gs, ghas, gbl, gf⟩, ⟨kh, kr, ks, khas, kbl, kf⟩, p, rfl, M⟩
        dsimp only [gv]
        have bA : Below w1'.heap.size w1' (w1'.alloc (.cells #[.int .i64 gh, .int .i64 gr, .int .i64 gs, .bool ghas, .int .u64 gbl, .int .i64 gf, .int .i64 kh, .int .i64 kr, .int .i64 ks, .bool khas, .int .u64 kbl, .int .i64 kf] 36)) := (Below.refl _ _).alloc (Nat.le_refl _) _
        have kA := Blk.new w1' #[.int .i64 gh, .int .i64 gr, .int .i64 gs, .bool ghas, .int .u64 gbl, .int .i64 gf, .int .i64 kh, .int .i64 kr, .int .i64 ks, .bool khas, .int .u64 kbl, .int .i64 kf] 36
        have M2 := M.next bA
        have hrl := M.rlt
        have hne : w1'.heap.size ≠ rb := by omega
        clear M bA q0 q1 q2 q3 q4 q5 hvz G hzc hzr hrl
        go_upto_region 10 with fail
        generalize w1'.alloc (.cells #[.int .i64 gh, .int .i64 gr, .int .i64 gs, .bool ghas, .int .u64 gbl, .int .i64 gf, .int .i64 kh, .int .i64 kr, .int .i64 ks, .bool khas, .int .u64 kbl, .int .i64 kf] 36) = w4 at *
        generalize w1'.heap.size = ab at *
        obtain ⟨d0, d1, d2, d3, d4, d5⟩ := HD.out
        have hvz : vb < w4.heap.size := Nat.lt_of_lt_of_le hvb M2.bel.size
        have q0 : w4.cell? ⟨vb, vo + i * 6, none⟩ = some (.int .i64 v.h) := by rw [(M2.bel).cell (p := ⟨vb, vo + i * 6, none⟩) hvb]; exact d0
        have q1 : w4.cell? ⟨vb, vo + i * 6 + 1, none⟩ = some (.int .i64 v.r) := by rw [(M2.bel).cell (p := ⟨vb, vo + i * 6 + 1, none⟩) hvb]; exact d1
        have q2 : w4.cell? ⟨vb, vo + i * 6 + 2, none⟩ = some (.int .i64 v.s) := by rw [(M2.bel).cell (p := ⟨vb, vo + i * 6 + 2, none⟩) hvb]; exact d2
        have q3 : w4.cell? ⟨vb, vo + i * 6 + 3, none⟩ = some (.bool v.has) := by rw [(M2.bel).cell (p := ⟨vb, vo + i * 6 + 3, none⟩) hvb]; exact d3
        have q4 : w4.cell? ⟨vb, vo + i * 6 + 4, none⟩ = some (.int .u64 v.bl) := by rw [(M2.bel).cell (p := ⟨vb, vo + i * 6 + 4, none⟩) hvb]; exact d4
        have q5 : w4.cell? ⟨vb, vo + i * 6 + 5, none⟩ = some (.int .i64 v.f) := by rw [(M2.bel).cell (p := ⟨vb, vo + i * 6 + 5, none⟩) hvb]; exact d5
        clear d0 d1 d2 d3 d4 d5
        go_wp2_with fail
        refine (M2.add2 (by omega) hv).mono ?_
        rintro e w5 ⟨rfl, b5, L', la', lc', G'⟩
        dsimp only [gv]
        have bA : Below w5.heap.size w5 (w5.alloc (.cells #[.int .i64 gh, .int .i64 gr, .int .i64 gs, .bool ghas, .int .u64 gbl, .int .i64 gf, .int .i64 kh, .int .i64 kr, .int .i64 ks, .bool khas, .int .u64 kbl, .int .i64 kf] 36)) := (Below.refl _ _).alloc (Nat.le_refl _) _
        have kB := Blk.new w5 #[.int .i64 gh, .int .i64 gr, .int .i64 gs, .bool ghas, .int .u64 gbl, .int .i64 gf, .int .i64 kh, .int .i64 kr, .int .i64 ks, .bool khas, .int .u64 kbl, .int .i64 kf] 36
        have kA5 := (b5.blk kA hne).alloc (.cells #[.int .i64 gh, .int .i64 gr, .int .i64 gs, .bool ghas, .int .u64 gbl, .int .i64 gf, .int .i64 kh, .int .i64 kr, .int .i64 ks, .bool khas, .int .u64 kbl, .int .i64 kf] 36)
        have G2 := G'.next bA
        clear G' bA b5 M2 kA q0 q1 q2 q3 q4 q5 hvz
        go_upto_region 11 with fail
        generalize w5.alloc (.cells #[.int .i64 gh, .int .i64 gr, .int .i64 gs, .bool ghas, .int .u64 gbl, .int .i64 gf, .int .i64 kh, .int .i64 kr, .int .i64 ks, .bool khas, .int .u64 kbl, .int .i64 kf] 36) = w6 at *
        generalize w5.heap.size = bb at *
        have ya0 := (kA5.cell 0).trans rfl
        have ya1 := (kA5.cell 1).trans rfl
        have ya2 := (kA5.cell 2).trans rfl
        have ya3 := (kA5.cell 3).trans rfl
        have ya4 := (kA5.cell 4).trans rfl
        have ya5 := (kA5.cell 5).trans rfl
        have ya6 := (kA5.cell 6).trans rfl
        have ya7 := (kA5.cell 7).trans rfl
        have ya8 := (kA5.cell 8).trans rfl
        have ya9 := (kA5.cell 9).trans rfl
        have ya10 := (kA5.cell 10).trans rfl
        have ya11 := (kA5.cell 11).trans rfl
        have yb0 := (kB.cell 0).trans rfl
        have yb1 := (kB.cell 1).trans rfl
        have yb2 := (kB.cell 2).trans rfl
        have yb3 := (kB.cell 3).trans rfl
        have yb4 := (kB.cell 4).trans rfl
        have yb5 := (kB.cell 5).trans rfl
        have yb6 := (kB.cell 6).trans rfl
        have yb7 := (kB.cell 7).trans rfl
        have yb8 := (kB.cell 8).trans rfl
        have yb9 := (kB.cell 9).trans rfl
        have yb10 := (kB.cell 10).trans rfl
        have yb11 := (kB.cell 11).trans rfl
        have zA := kA5.lt
        have zB := kB.lt
        clear kA5 kB
        go_wp2
        exact ⟨⟨i + 1, L', la', lc', by omega, by go_num, G2⟩, by simp [intOf]; omega⟩
      · have hge : ¬ (i : Int) < (vs.length : Int) := by omega
        go_wp2_with fail
        go_meet
        case rel => exact ⟨L, la2, lc2, i, by omega, G⟩

end Go.Proofs.Ytimcddknoanghaa

namespace Go.Proofs.Ytimcddknoanghaa
open Go.RowKit
set_option linter.unusedVariables false
set_option linter.unusedSimpArgs false

set_option maxRecDepth 20000 in
set_option maxHeartbeats 12800000 in
theorem count_any (la : Option Addr) (ca : Nat) (l : List (Int × Int)) (ht : Int) (va : Option Addr) (vc : Nat) (vs : List Vt) (aa : Option Addr) (ac : Nat) (ask : List Int) (hl : l.length ≤ maxLen) (hw : ∀ x ∈ l, (-9223372036854775808 ≤ x.1 ∧ x.1 ≤ 9223372036854775807) ∧ -9223372036854775808 ≤ x.2 ∧ x.2 ≤ 9223372036854775807) (hvs : vs.length ≤ maxLen) (hvi : ∀ v ∈ vs, InV v) (hask : ask.length ≤ maxLen) (hai : ∀ y ∈ ask, -9223372036854775808 ≤ y ∧ y ≤ 9223372036854775807) (w : World) (hS : SeatsAt w la l) (hV : VotesAt w va vs) (hI : IntsAt w aa ask) :
    Calls Try.prog 3 #[.slice la l.length ca, .int .i64 ht, .slice va vs.length vc, .slice aa ask.length ac] w fun e w' => e = .returned (.bool true) ∧ Below w.heap.size w w' := by
  unfold maxLen at hl hvs hask
  by_cases hg1 : 4096 < l.length
  · have g1 : (4096 : Int) < (l.length : Int) := by omega
    go_enter Try.func3, Try.ntmps3
    go_wp2
    go_ret
    exact ⟨rfl, Below.refl _ _⟩
  have g1 : ¬ (4096 : Int) < (l.length : Int) := by omega
  by_cases hg2 : 512 < vs.length
  · have g2 : (512 : Int) < (vs.length : Int) := by omega
    go_enter Try.func3, Try.ntmps3
    go_wp2
    go_ret
    exact ⟨rfl, Below.refl _ _⟩
  have g2 : ¬ (512 : Int) < (vs.length : Int) := by omega
  by_cases hg3 : 64 < ask.length
  · have g3 : (64 : Int) < (ask.length : Int) := by omega
    go_enter Try.func3, Try.ntmps3
    go_wp2
    go_ret
    exact ⟨rfl, Below.refl _ _⟩
  have g3 : ¬ (64 : Int) < (ask.length : Int) := by omega
  go_enter Try.func3, Try.ntmps3
  go_upto_if 38 with fail
  go_cut [] (fun wx => w = wx)
  case first =>
    go_wp2_with fail
    go_meet
    case rel => rfl
  case rest =>
    subst hcut
    refine ‹∀ a w, Code.wp Try.prog _ _ a w → _› _ _ ?_
    exact vcB la ca l ht va vc vs aa ac ask (by omega) hw (by omega) hvi (by omega) hai w hS hV hI _ _ _ _ _ _ _ _ _ _ _ _ _ _ _ _ _ _ _ _ _ _ _ _ _ _ _ _ _ _ _ _ _ _ _ _ _ _ _ _ _ _ _ _ _ _ _ _ _ _ _ _ _ _ _ _ _ _ _ _ _ _ _ _ _ _ _ _ _ _ _ _ _ _ _ _ _ _ _ _ _ _ _ _ _ _ _ _ _ _ _ _ _ _ _ _ _ _ _ _ _ _ _ _ _ _ _ _ _ _ _ _ _ _ _ _ _ _ _ _ _ _ _ _ _ _ _ _ _ _ _ _ _ _ _ _ _ _ _ _ _ _ _ _ _ _ _ _ _ _ _ _ _ _ _ _ _ _ _ _ _ _ _ _ _ _ _ _ _ _ _ _ _ _ _ _ _ _ _ _ _ _ _ _ _ _ _ _ _ _ _ _ _ _ _ _ _ _ _ _ _ _ _ _ _

end Go.Proofs.Ytimcddknoanghaa
