/- The answer's writing of transactions: what stands behind their fields (2). -/
import Derived.Test.YtgppnghnjdkfdaaGreatXRef4c
import Derived.Deep.RegionHeld3
import Derived.Deep.CutRange
import Derived.Deep.DeepCutAuto
namespace Go.Proofs.YtgppnghnjdkfdaaGreat
open Go.RowKit
set_option linter.unusedVariables false
set_option linter.unusedSimpArgs false

noncomputable def rtxCodeB : Code := dropSeq 18 (Tryz.f72.body.getD .skip)

set_option maxRecDepth 10000 in
set_option maxHeartbeats 12800000 in
theorem rtx_tB (base b xb : Nat) (x : Tx) (l : List Atom) (odd : Bool) (P : World → Prop) (w : World) (c1 c2 c4 c5 c6 c8 c9 c10 c11 c12 c13 c14 c15 c16 c17 c18 c19 c20 c21 c22 c23 c24 c25 c26 c27 c28 c29 c30 c31 c32 c33 c34 c35 c36 c37 c38 c39 c40 c41 c42 c43 c44 c45 c46 c47 c48 c49 c50 c51 c52 c53 c54 c55 c56 c57 c58 c59 c60 c61 c62 c63 c64 c65 c66 c67 c68 c69 c70 c71 c72 c73 c74 c75 c76 c77 c78 c79 c80 c81 c82 c83 c84 c85 c86 c87 c88 c89 c90 c91 c92 c93 c94 c95 c96 c97 c98 c99 c100 c101 c102 c103 c104 c105 c106 c107 c108 c109 c110 c111 c112 c113 c114 c115 c116 c117 c118 c119 c120 c121 c122 c123 c124 c125 c126 c127 c128 c129 c130 c131 c132 c133 c134 c135 c136 c137 c138 c139 c140 c141 c142 c143 c144 c145 c146 c147 c148 c149 c150 c151 c152 c153 c154 c155 c156 c157 c158 c159 c160 c161 c162 c163 c164 c165 c166 c167 c168 c169 c170 c171 c172 c173 c174 c175 c176 c177 c178 c179 c180 c181 c182 c183 c184 c185 c186 c187 c188 c189 c190 c191 c192 c193 c194 c195 : Value) (hb : base ≤ b) (hB0 : base ≤ w.heap.size) (hXb : xb ≠ b) (X0 : Blk w xb #[.int .i64 x.k, .int .i64 x.f, .int .i64 x.n, .int .i64 x.p, .int .i64 x.li, .int .i64 x.to, .int .i64 x.am, .string ⟨x.te.toArray⟩, .slice x.ar.la x.ar.xs.length x.ar.lc, .slice x.si.la x.si.xs.length x.si.lc, .slice x.pr.la x.pr.xs.length x.pr.lc] 52) (R0 : RefL w b l odd)
    (hm8 : x.ar.lc ≤ 9223372036854775807) (hm9 : x.si.lc ≤ 9223372036854775807) (hm10 : x.pr.lc ≤ 9223372036854775807) (hc8 : x.ar.xs.length ≤ x.ar.lc) (hc9 : x.si.xs.length ≤ x.si.lc) (hc10 : x.pr.xs.length ≤ x.pr.lc)
    (hP : ∀ w', RefL w' b l (odd || x.tailB) → Kp base b w w' → P w') :
    Code.wp Tryz.prog rtxCodeB (bodyPost Tryz.prog Tryz.f72 (fun e w' => e = .returned (.tuple #[]) ∧ P w')) ⟨#[.pointer (some ⟨b, 0, none⟩), c1, c2, .pointer (some ⟨xb, 0, none⟩), c4, c5, c6, .bool (isTo x.k), c8, c9, c10, c11, c12, c13, c14, c15, c16, c17, c18, c19, c20, c21, c22, c23, c24, c25, c26, c27, c28, c29, c30, c31, c32, c33, c34, c35, c36, c37, c38, c39, c40, c41, c42, c43, c44, c45, c46, c47, c48, c49, c50, c51, c52, c53, c54, c55, c56, c57, c58, c59, c60, c61, c62, c63, c64, c65, c66, c67, c68, c69, c70, c71, c72, c73, c74, c75, c76, c77, c78, c79, c80, c81, c82, c83, c84, c85, c86, c87, c88, c89, c90, c91, c92, c93, c94, c95, c96, c97, c98, c99, c100, c101, c102, c103, c104, c105, c106, c107, c108, c109, c110, c111, c112, c113, c114, c115, c116, c117, c118, c119, c120, c121, c122, c123, c124, c125, c126, c127, c128, c129, c130, c131, c132, c133, c134, c135, c136, c137, c138, c139, c140, c141, c142, c143, c144, c145, c146, c147, c148, c149, c150, c151, c152, c153, c154, c155, c156, c157, c158, c159, c160, c161, c162, c163, c164, c165, c166, c167, c168, c169, c170, c171, c172, c173, c174, c175, c176, c177, c178, c179, c180, c181, c182, c183, c184, c185, c186, c187, c188, c189, c190, c191, c192, c193, c194, c195], []⟩ w := by
  have K0 := Kp.refl base b w
  have HP := show Hid (_) from hP
  clear hP
  conv => arg 2; whnf
  conv => arg 4; dsimp only
  obtain ⟨A, HA⟩ : ∃ z, Hid (z = isTo x.k) := ⟨_, rfl⟩
  rw [← HA.out]
  have q0 := X0.cell 0
  simp only [List.getElem?_toArray, List.getElem?_cons_zero] at q0
  go_upto_region 27 with fail
  go_cut [8] (fun c wx => c = .bool (A || (decide (x.k = 2) || decide (x.k = 4) || decide (x.k = 5))) ∧ RefL wx b l odd ∧ Kp base b w wx)
  case first =>
    cases A
    · go_wp2_with fail
      refine (rin3 x.k _).mono ?_
      rintro e w' ⟨rfl, rfl⟩
      go_wp2_with fail
      go_meet
      case rel => exact ⟨by simp, R0.below ((Below.refl _ _).alloc (Nat.le_refl _) _), Kp.of_below ((Below.refl _ _).alloc (Nat.le_refl _) _) (Nat.le_trans hB0 K0.size)⟩
    · go_wp2_with fail
      go_meet
      case rel => exact ⟨by simp, R0, Kp.refl _ _ _⟩
  case rest =>
    obtain ⟨rfl, R1, k⟩ := hcut
    have X1 := X0.kp k hXb
    have K1 := K0.trans k
    clear q0 k X0 R0
    obtain ⟨M, HM⟩ : ∃ z, Hid (z = (A || (decide (x.k = 2) || decide (x.k = 4) || decide (x.k = 5)))) := ⟨_, rfl⟩
    rw [← HM.out]
    have HM2 : Hid (M = isAm x.k) := by show _ = _; rw [HM.out, HA.out]; rfl
    clear HM
    have q6 := X1.cell 6
    simp only [List.getElem?_toArray, List.getElem?_cons_succ, List.getElem?_cons_zero] at q6
    go_upto_region 28 with fail
    go_cut [] (fun wx => RefL wx b l (odd || (!M && decide (x.am ≠ 0))) ∧ Kp base b wc wx)
    case first =>
      by_cases cA : M = true
      · subst cA
        have cA := True.intro
        have HcA := show Hid (_) from cA
        clear cA
        go_wp2_with fail
        refine (roddL base b _ _ _ _ hb R1).mono ?_
        rintro e w' ⟨rfl, R', k'⟩
        go_wp2_with fail
        go_meet
        case rel => exact ⟨R'.as rfl (by simp), k'⟩
      · rw [Bool.not_eq_true] at cA
        subst cA
        have cA := True.intro
        have HcA := show Hid (_) from cA
        clear cA
        go_wp2_with fail
        refine (roddL base b _ _ _ _ hb R1).mono ?_
        rintro e w' ⟨rfl, R', k'⟩
        go_wp2_with fail
        go_meet
        case rel => exact ⟨R'.as rfl (by simp [bne, BEq.beq]), k'⟩
    case rest =>
      obtain ⟨R2, k⟩ := hcut
      obtain ⟨o1, Ho1⟩ : ∃ o', Hid (o' = (odd || (!M && decide (x.am ≠ 0)))) := ⟨_, rfl⟩
      rw [← Ho1.out] at R2
      have X2 := X1.kp k hXb
      have K2 := K1.trans k
      clear q6 k X1 R1
      refine ‹∀ (a : Act) (w : World), Code.wp Tryz.prog rtxCodeC (bodyPost Tryz.prog Tryz.f72 (fun e w' => e = .returned (.tuple #[]) ∧ P w')) a w → _› _ _ ?_
      exact rtx_tC base b xb x l o1 P _ _ _ _ _ _ _ _ _ _ _ _ _ _ _ _ _ _ _ _ _ _ _ _ _ _ _ _ _ _ _ _ _ _ _ _ _ _ _ _ _ _ _ _ _ _ _ _ _ _ _ _ _ _ _ _ _ _ _ _ _ _ _ _ _ _ _ _ _ _ _ _ _ _ _ _ _ _ _ _ _ _ _ _ _ _ _ _ _ _ _ _ _ _ _ _ _ _ _ _ _ _ _ _ _ _ _ _ _ _ _ _ _ _ _ _ _ _ _ _ _ _ _ _ _ _ _ _ _ _ _ _ _ _ _ _ _ _ _ _ _ _ _ _ _ _ _ _ _ _ _ _ _ _ _ _ _ _ _ _ _ _ _ _ _ _ _ _ _ _ _ _ _ _ _ _ _ _ _ _ _ _ _ _ _ _ _ _ _ _ _ _ _ _ _ hb (Nat.le_trans hB0 K2.size) hXb X2 R2 hm8 hm9 hm10 hc8 hc9 hc10 (fun w' h k => HP.out w' (h.as rfl (by rw [Ho1.out]; simp only [Tx.tailB, Bool.or_assoc, HM2.out])) (K2.trans k))

end Go.Proofs.YtgppnghnjdkfdaaGreat
