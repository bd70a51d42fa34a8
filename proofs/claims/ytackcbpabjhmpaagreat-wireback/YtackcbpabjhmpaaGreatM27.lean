import Derived.Test.YtackcbpabjhmpaaGreatXRef3
namespace Go.Proofs.YtackcbpabjhmpaaGreat
open Go.RowKit
set_option linter.unusedVariables false
set_option linter.unusedSimpArgs false
theorem any_drop (xs : List Int) (k : Int) (i : Nat) (h : i < xs.length) : (xs.drop i).any (fun n => decide (n = k)) = (decide (xs[i]'h = k) || (xs.drop (i + 1)).any (fun n => decide (n = k))) := by
 rw [List.drop_eq_getElem_cons h]; rfl
set_option maxHeartbeats 800000 in
theorem rin_any (k : Int) (xs : List Int) (lb cap : Nat) (w : World) (hl : xs.length ≤ 100) (hb : lb < w.heap.size) (hc : ∀ i n, xs[i]? = some n → w.cell? ⟨lb, i, none⟩ = some (.int .i64 n)) :
  Calls Tryz.prog 170 #[.int .i64 k, .slice (some ⟨lb, 0, none⟩) xs.length cap] w fun e w' => e = .returned (.bool (xs.any fun n => decide (n = k))) ∧ w = w' := by
 go_enter Tryz.func170, Tryz.ntmps170
 go_wp2
 go_loopw [5] (fun iv wv => ∃ (i : Nat), i ≤ xs.length ∧ iv = .int .i64 i ∧ Hid (xs.any (fun n => decide (n = k)) = (xs.drop i).any (fun n => decide (n = k))) ∧ w = wv) (fun iv _ => xs.length - (intOf iv).toNat)
 case atStart => exact ⟨0, Nat.zero_le _, rfl, rfl, rfl⟩
 case round =>
  obtain ⟨i, hi, rfl, HR, rfl⟩ := hrel
  by_cases hlt : i < xs.length
  ·have hlt' : (i : Int) < (xs.length : Int) := by omega
   have e1 := hc i (xs[i]'hlt) (List.getElem?_eq_getElem hlt)
   have HS : Hid (_ = _) := any_drop xs k i hlt
   clear hc
   obtain ⟨y, Hy⟩ : ∃ y : Int, Hid (y = xs[i]'hlt) := ⟨xs[i]'hlt, rfl⟩
   rw [← Hy.out] at e1 HS
   by_cases hy : y = k
   ·have hyb : (y == k) = true := by simpa using hy
    have hyd : decide (y = k) = true := by simpa using hy
    have Hf : Hid (xs.any (fun n => decide (n = k)) = true) := by
     show _ = _
     rw [HR.out, HS.out]; simp [hy]
    clear HR HS
    subst hy
    clear hyb hyd
    go_wp2
    go_ret
    exact ⟨by rw [Hf.out]; rfl, rfl⟩
   ·have hyb : (y == k) = false := by simpa using hy
    have hyd : decide (y = k) = false := by simpa using hy
    have Hf : Hid (xs.any (fun n => decide (n = k)) = (xs.drop (i + 1)).any (fun n => decide (n = k))) := by
     show _ = _
     rw [HR.out, HS.out]; simp [hy]
    clear HR HS
    go_wp2
    exact ⟨⟨i + 1, by omega, by go_num, Hf, by trivial⟩, by simp [intOf]; omega⟩
  ·have Hf : Hid (xs.any (fun n => decide (n = k)) = false) := by
    show _ = _
    rw [HR.out, List.drop_of_length_le (by omega)]; rfl
   have hge : ¬ (i : Int) < (xs.length : Int) := by omega
   clear HR
   go_wp2
   go_ret
   exact ⟨by rw [Hf.out]; rfl, rfl⟩
theorem rin4 (k : Int) (w : World) : Calls Tryz.prog 170 #[.int .i64 k, .slice (some ⟨w.heap.size, 0, none⟩) 4 4] (w.alloc (.cells #[.int .i64 1, .int .i64 3, .int .i64 7, .int .i64 8] 3)) fun e w' => e = .returned (.bool (isTo k)) ∧ w.alloc (.cells #[.int .i64 1, .int .i64 3, .int .i64 7, .int .i64 8] 3) = w' := by
 have kN := Blk.new w #[.int .i64 1, .int .i64 3, .int .i64 7, .int .i64 8] 3
 refine (rin_any k [1, 3, 7, 8] w.heap.size 4 _ (by simp) kN.lt (fun i n h => ?_)).mono ?_
 ·rw [kN.cell]
  match i, h with
  | 0, h => simpa using h
  | 1, h => simpa using h
  | 2, h => simpa using h
  | 3, h => simpa using h
 ·rintro e w' ⟨rfl, rfl⟩
  exact ⟨by simp [isTo, eq_comm, Bool.or_assoc], rfl⟩
theorem rin3 (k : Int) (w : World) : Calls Tryz.prog 170 #[.int .i64 k, .slice (some ⟨w.heap.size, 0, none⟩) 3 3] (w.alloc (.cells #[.int .i64 2, .int .i64 4, .int .i64 5] 3)) fun e w' => e = .returned (.bool (decide (k = 2) || decide (k = 4) || decide (k = 5))) ∧ w.alloc (.cells #[.int .i64 2, .int .i64 4, .int .i64 5] 3) = w' := by
 have kN := Blk.new w #[.int .i64 2, .int .i64 4, .int .i64 5] 3
 refine (rin_any k [2, 4, 5] w.heap.size 3 _ (by simp) kN.lt (fun i n h => ?_)).mono ?_
 ·rw [kN.cell]
  match i, h with
  | 0, h => simpa using h
  | 1, h => simpa using h
  | 2, h => simpa using h
 ·rintro e w' ⟨rfl, rfl⟩
  exact ⟨by simp [eq_comm, Bool.or_assoc], rfl⟩
def Tx.tailD (x : Tx) : Bool := (decide (x.k = 9) != decide (x.si.xs.length = 1)) || (decide (x.k = 10) != decide (x.pr.xs.length = 1))
def Tx.tailC (x : Tx) : Bool := (decide (x.k ≠ 2) && decide (x.k ≠ 3) && decide (x.te ≠ [])) || (decide (x.k ≠ 3) && decide (0 < x.ar.xs.length)) || x.tailD
def Tx.tailB (x : Tx) : Bool := (!isAm x.k && decide (x.am ≠ 0)) || x.tailC
def Tx.tailA (x : Tx) : Bool := ((isTo x.k && decide (x.to < 1)) || (!isTo x.k && decide (x.to ≠ 0))) || x.tailB
def dropSeq : Nat → Code → Code
 | 0, c => c
 | n + 1, .seq _ b => dropSeq n b
 | _ + 1, c => c
noncomputable def rtxCodeD : Code := dropSeq 22 (Tryz.f83.body.getD .skip)
set_option maxRecDepth 10000 in
set_option maxHeartbeats 12800000 in
theorem rtx_tD (base b xb : Nat) (x : Tx) (l : List Atom) (odd : Bool) (P : World → Prop) (w : World) (c1 c2 c4 c5 c6 c7 c8 c9 c10 c11 c12 c13 c14 c15 c16 c17 c18 c19 c20 c21 c22 c23 c24 c25 c26 c27 c28 c29 c30 c31 c32 c33 c34 c35 c36 c37 c38 c39 c40 c41 c42 c43 c44 c45 c46 c47 c48 c49 c50 c51 c52 c53 c54 c55 c56 c57 c58 c59 c60 c61 c62 c63 c64 c65 c66 c67 c68 c69 c70 c71 c72 c73 c74 c75 c76 c77 c78 c79 c80 c81 c82 c83 c84 c85 c86 c87 c88 c89 c90 c91 c92 c93 c94 c95 c96 c97 c98 c99 c100 c101 c102 c103 c104 c105 c106 c107 c108 c109 c110 c111 c112 c113 c114 c115 c116 c117 c118 c119 c120 c121 c122 c123 c124 c125 c126 c127 c128 c129 c130 c131 c132 c133 c134 c135 c136 c137 c138 c139 c140 c141 c142 c143 c144 c145 c146 c147 c148 c149 c150 c151 c152 c153 c154 c155 c156 c157 c158 c159 c160 c161 c162 c163 c164 c165 c166 c167 c168 c169 c170 c171 c172 c173 c174 c175 c176 c177 c178 c179 c180 c181 c182 c183 c184 c185 c186 c187 c188 c189 c190 c191 c192 c193 c194 c195 : Value) (hb : base ≤ b) (hB0 : base ≤ w.heap.size) (hXb : xb ≠ b) (X0 : Blk w xb #[.int .i64 x.k, .int .i64 x.f, .int .i64 x.n, .int .i64 x.p, .int .i64 x.li, .int .i64 x.to, .int .i64 x.am, .string ⟨x.te.toArray⟩, .slice x.ar.la x.ar.xs.length x.ar.lc, .slice x.si.la x.si.xs.length x.si.lc, .slice x.pr.la x.pr.xs.length x.pr.lc] 64) (R0 : RefL w b l odd)
  (hm8 : x.ar.lc ≤ 9223372036854775807) (hm9 : x.si.lc ≤ 9223372036854775807) (hm10 : x.pr.lc ≤ 9223372036854775807) (hc8 : x.ar.xs.length ≤ x.ar.lc) (hc9 : x.si.xs.length ≤ x.si.lc) (hc10 : x.pr.xs.length ≤ x.pr.lc)
  (hP : ∀ w', RefL w' b l (odd || x.tailD) → Kp base b w w' → P w') :
  Code.wp Tryz.prog rtxCodeD (bodyPost Tryz.prog Tryz.f83 (fun e w' => e = .returned (.tuple #[]) ∧ P w')) ⟨#[.pointer (some ⟨b, 0, none⟩), c1, c2, .pointer (some ⟨xb, 0, none⟩), c4, c5, c6, c7, c8, c9, c10, c11, c12, c13, c14, c15, c16, c17, c18, c19, c20, c21, c22, c23, c24, c25, c26, c27, c28, c29, c30, c31, c32, c33, c34, c35, c36, c37, c38, c39, c40, c41, c42, c43, c44, c45, c46, c47, c48, c49, c50, c51, c52, c53, c54, c55, c56, c57, c58, c59, c60, c61, c62, c63, c64, c65, c66, c67, c68, c69, c70, c71, c72, c73, c74, c75, c76, c77, c78, c79, c80, c81, c82, c83, c84, c85, c86, c87, c88, c89, c90, c91, c92, c93, c94, c95, c96, c97, c98, c99, c100, c101, c102, c103, c104, c105, c106, c107, c108, c109, c110, c111, c112, c113, c114, c115, c116, c117, c118, c119, c120, c121, c122, c123, c124, c125, c126, c127, c128, c129, c130, c131, c132, c133, c134, c135, c136, c137, c138, c139, c140, c141, c142, c143, c144, c145, c146, c147, c148, c149, c150, c151, c152, c153, c154, c155, c156, c157, c158, c159, c160, c161, c162, c163, c164, c165, c166, c167, c168, c169, c170, c171, c172, c173, c174, c175, c176, c177, c178, c179, c180, c181, c182, c183, c184, c185, c186, c187, c188, c189, c190, c191, c192, c193, c194, c195], []⟩ w := by
 have K0 := Kp.refl base b w
 have HP := show Hid (_) from hP
 clear hP
 conv => arg 2; whnf
 conv => arg 4; dsimp only
 have q0 := X0.cell 0
 have q9 := X0.cell 9
 simp only [List.getElem?_toArray, List.getElem?_cons_succ, List.getElem?_cons_zero] at q0 q9
 go_upto_region 31 with fail
 go_cut [] (fun wx => RefL wx b l (odd || (decide (x.k = 9) != decide (x.si.xs.length = 1))) ∧ Kp base b w wx)
 case first =>
  go_wp2_with fail
  refine (roddL base b _ _ _ _ hb R0).mono ?_
  rintro e w' ⟨rfl, R', k'⟩
  go_wp2_with fail
  go_meet
  case rel => exact ⟨R'.as rfl (by congr 1; rw [show ((x.si.xs.length : Int) == 1) = decide (x.si.xs.length = 1) by rw [Bool.eq_iff_iff]; simp; omega, show (x.k == 9) = decide (x.k = 9) from rfl]; rfl), k'⟩
 case rest =>
  obtain ⟨R1, k⟩ := hcut
  obtain ⟨o1, Ho1⟩ : ∃ o', Hid (o' = (odd || (decide (x.k = 9) != decide (x.si.xs.length = 1)))) := ⟨_, rfl⟩
  rw [← Ho1.out] at R1
  have X1 := X0.kp k hXb
  have K1 := K0.trans k
  clear q0 q9 k X0 R0
  have q0 := X1.cell 0
  have q10 := X1.cell 10
  simp only [List.getElem?_toArray, List.getElem?_cons_succ, List.getElem?_cons_zero] at q0 q10
  go_upto_region 32 with fail
  have Hfin : Hid (∀ w', RefL w' b l (o1 || (decide (x.k = 10) != decide (x.pr.xs.length = 1))) → Kp base b wc w' → P w') := by
   intro w' h k
   refine HP.out w' (h.as rfl ?_) (K1.trans k)
   rw [Ho1.out]
   simp only [Tx.tailD, Bool.or_assoc]
  go_wp2_with fail
  refine (roddL base b _ _ _ _ hb R1).mono ?_
  rintro e w' ⟨rfl, R', k'⟩
  go_wp2
  go_end0
  exact ⟨rfl, Hfin.out _ (R'.as rfl (by congr 1; rw [show ((x.pr.xs.length : Int) == 1) = decide (x.pr.xs.length = 1) by rw [Bool.eq_iff_iff]; simp; omega, show (x.k == 10) = decide (x.k = 10) from rfl]; rfl)) k'⟩
noncomputable def rtxCodeC : Code := dropSeq 20 (Tryz.f83.body.getD .skip)
set_option maxRecDepth 10000 in
set_option maxHeartbeats 12800000 in
theorem rtx_tC (base b xb : Nat) (x : Tx) (l : List Atom) (odd : Bool) (P : World → Prop) (w : World) (c1 c2 c4 c5 c6 c7 c8 c9 c10 c11 c12 c13 c14 c15 c16 c17 c18 c19 c20 c21 c22 c23 c24 c25 c26 c27 c28 c29 c30 c31 c32 c33 c34 c35 c36 c37 c38 c39 c40 c41 c42 c43 c44 c45 c46 c47 c48 c49 c50 c51 c52 c53 c54 c55 c56 c57 c58 c59 c60 c61 c62 c63 c64 c65 c66 c67 c68 c69 c70 c71 c72 c73 c74 c75 c76 c77 c78 c79 c80 c81 c82 c83 c84 c85 c86 c87 c88 c89 c90 c91 c92 c93 c94 c95 c96 c97 c98 c99 c100 c101 c102 c103 c104 c105 c106 c107 c108 c109 c110 c111 c112 c113 c114 c115 c116 c117 c118 c119 c120 c121 c122 c123 c124 c125 c126 c127 c128 c129 c130 c131 c132 c133 c134 c135 c136 c137 c138 c139 c140 c141 c142 c143 c144 c145 c146 c147 c148 c149 c150 c151 c152 c153 c154 c155 c156 c157 c158 c159 c160 c161 c162 c163 c164 c165 c166 c167 c168 c169 c170 c171 c172 c173 c174 c175 c176 c177 c178 c179 c180 c181 c182 c183 c184 c185 c186 c187 c188 c189 c190 c191 c192 c193 c194 c195 : Value) (hb : base ≤ b) (hB0 : base ≤ w.heap.size) (hXb : xb ≠ b) (X0 : Blk w xb #[.int .i64 x.k, .int .i64 x.f, .int .i64 x.n, .int .i64 x.p, .int .i64 x.li, .int .i64 x.to, .int .i64 x.am, .string ⟨x.te.toArray⟩, .slice x.ar.la x.ar.xs.length x.ar.lc, .slice x.si.la x.si.xs.length x.si.lc, .slice x.pr.la x.pr.xs.length x.pr.lc] 64) (R0 : RefL w b l odd)
  (hm8 : x.ar.lc ≤ 9223372036854775807) (hm9 : x.si.lc ≤ 9223372036854775807) (hm10 : x.pr.lc ≤ 9223372036854775807) (hc8 : x.ar.xs.length ≤ x.ar.lc) (hc9 : x.si.xs.length ≤ x.si.lc) (hc10 : x.pr.xs.length ≤ x.pr.lc)
  (hP : ∀ w', RefL w' b l (odd || x.tailC) → Kp base b w w' → P w') :
  Code.wp Tryz.prog rtxCodeC (bodyPost Tryz.prog Tryz.f83 (fun e w' => e = .returned (.tuple #[]) ∧ P w')) ⟨#[.pointer (some ⟨b, 0, none⟩), c1, c2, .pointer (some ⟨xb, 0, none⟩), c4, c5, c6, c7, c8, c9, c10, c11, c12, c13, c14, c15, c16, c17, c18, c19, c20, c21, c22, c23, c24, c25, c26, c27, c28, c29, c30, c31, c32, c33, c34, c35, c36, c37, c38, c39, c40, c41, c42, c43, c44, c45, c46, c47, c48, c49, c50, c51, c52, c53, c54, c55, c56, c57, c58, c59, c60, c61, c62, c63, c64, c65, c66, c67, c68, c69, c70, c71, c72, c73, c74, c75, c76, c77, c78, c79, c80, c81, c82, c83, c84, c85, c86, c87, c88, c89, c90, c91, c92, c93, c94, c95, c96, c97, c98, c99, c100, c101, c102, c103, c104, c105, c106, c107, c108, c109, c110, c111, c112, c113, c114, c115, c116, c117, c118, c119, c120, c121, c122, c123, c124, c125, c126, c127, c128, c129, c130, c131, c132, c133, c134, c135, c136, c137, c138, c139, c140, c141, c142, c143, c144, c145, c146, c147, c148, c149, c150, c151, c152, c153, c154, c155, c156, c157, c158, c159, c160, c161, c162, c163, c164, c165, c166, c167, c168, c169, c170, c171, c172, c173, c174, c175, c176, c177, c178, c179, c180, c181, c182, c183, c184, c185, c186, c187, c188, c189, c190, c191, c192, c193, c194, c195], []⟩ w := by
 have K0 := Kp.refl base b w
 have HP := show Hid (_) from hP
 clear hP
 conv => arg 2; whnf
 conv => arg 4; dsimp only
 have q0 := X0.cell 0
 have q7 := X0.cell 7
 simp only [List.getElem?_toArray, List.getElem?_cons_succ, List.getElem?_cons_zero] at q0 q7
 go_upto_region 29 with fail
 go_cut [] (fun wx => RefL wx b l (odd || (decide (x.k ≠ 2) && decide (x.k ≠ 3) && decide (x.te ≠ []))) ∧ Kp base b w wx)
 case first =>
  by_cases c2 : x.k = 2
  ·have c2b : (x.k != 2) = false := by simpa using c2
   have Hc2 := show Hid (_) from c2
   clear c2
   go_wp2_with fail
   refine (roddL base b _ _ _ _ hb R0).mono ?_
   rintro e w' ⟨rfl, R', k'⟩
   go_wp2_with fail
   go_meet
   case rel => exact ⟨R'.as rfl (by have h : x.k = 2 := Hc2.out; simp [h]), k'⟩
  ·have c2b : (x.k != 2) = true := by simpa using c2
   have Hc2 := show Hid (_) from c2
   clear c2
   by_cases c3 : x.k = 3
   ·have c3b : (x.k != 3) = false := by simpa using c3
    have Hc3 := show Hid (_) from c3
    clear c3
    go_wp2_with fail
    refine (roddL base b _ _ _ _ hb R0).mono ?_
    rintro e w' ⟨rfl, R', k'⟩
    go_wp2_with fail
    go_meet
    case rel => exact ⟨R'.as rfl (by have h : x.k = 3 := Hc3.out; simp [h]), k'⟩
   ·have c3b : (x.k != 3) = true := by simpa using c3
    have Hc3 := show Hid (_) from c3
    clear c3
    go_wp2_with fail
    refine (roddL base b _ _ _ _ hb R0).mono ?_
    rintro e w' ⟨rfl, R', k'⟩
    go_wp2_with fail
    go_meet
    case rel => exact ⟨R'.as rfl (by have h2 : ¬ x.k = 2 := Hc2.out; have h3 : ¬ x.k = 3 := Hc3.out; cases hv : x.te <;> simp [h2, h3, hv]), k'⟩
 case rest =>
  obtain ⟨R1, k⟩ := hcut
  obtain ⟨o1, Ho1⟩ : ∃ o', Hid (o' = (odd || (decide (x.k ≠ 2) && decide (x.k ≠ 3) && decide (x.te ≠ [])))) := ⟨_, rfl⟩
  rw [← Ho1.out] at R1
  have X1 := X0.kp k hXb
  have K1 := K0.trans k
  clear q0 q7 k X0 R0
  have q0 := X1.cell 0
  have q8 := X1.cell 8
  simp only [List.getElem?_toArray, List.getElem?_cons_succ, List.getElem?_cons_zero] at q0 q8
  go_upto_region 30 with fail
  go_cut [] (fun wx => RefL wx b l (o1 || (decide (x.k ≠ 3) && decide (0 < x.ar.xs.length))) ∧ Kp base b wc wx)
  case first =>
   by_cases c3 : x.k = 3
   ·have c3b : (x.k != 3) = false := by simpa using c3
    have Hc3 := show Hid (_) from c3
    clear c3
    go_wp2_with fail
    refine (roddL base b _ _ _ _ hb R1).mono ?_
    rintro e w' ⟨rfl, R', k'⟩
    go_wp2_with fail
    go_meet
    case rel => exact ⟨R'.as rfl (by have h : x.k = 3 := Hc3.out; simp [h]), k'⟩
   ·have c3b : (x.k != 3) = true := by simpa using c3
    have Hc3 := show Hid (_) from c3
    clear c3
    go_wp2_with fail
    refine (roddL base b _ _ _ _ hb R1).mono ?_
    rintro e w' ⟨rfl, R', k'⟩
    go_wp2_with fail
    go_meet
    case rel => exact ⟨R'.as rfl (by have h3 : ¬ x.k = 3 := Hc3.out; simp [h3]), k'⟩
  case rest =>
   obtain ⟨R2, k⟩ := hcut
   obtain ⟨o2, Ho2⟩ : ∃ o', Hid (o' = (o1 || (decide (x.k ≠ 3) && decide (0 < x.ar.xs.length)))) := ⟨_, rfl⟩
   rw [← Ho2.out] at R2
   have X2 := X1.kp k hXb
   have K2 := K1.trans k
   clear q0 q8 k X1 R1
   refine ‹∀ (a : Act) (w : World), Code.wp Tryz.prog rtxCodeD (bodyPost Tryz.prog Tryz.f83 (fun e w' => e = .returned (.tuple #[]) ∧ P w')) a w → _› _ _ ?_
   exact rtx_tD base b xb x l o2 P _ _ _ _ _ _ _ _ _ _ _ _ _ _ _ _ _ _ _ _ _ _ _ _ _ _ _ _ _ _ _ _ _ _ _ _ _ _ _ _ _ _ _ _ _ _ _ _ _ _ _ _ _ _ _ _ _ _ _ _ _ _ _ _ _ _ _ _ _ _ _ _ _ _ _ _ _ _ _ _ _ _ _ _ _ _ _ _ _ _ _ _ _ _ _ _ _ _ _ _ _ _ _ _ _ _ _ _ _ _ _ _ _ _ _ _ _ _ _ _ _ _ _ _ _ _ _ _ _ _ _ _ _ _ _ _ _ _ _ _ _ _ _ _ _ _ _ _ _ _ _ _ _ _ _ _ _ _ _ _ _ _ _ _ _ _ _ _ _ _ _ _ _ _ _ _ _ _ _ _ _ _ _ _ _ _ _ _ _ _ _ _ _ _ _ hb (Nat.le_trans hB0 K2.size) hXb X2 R2 hm8 hm9 hm10 hc8 hc9 hc10 (fun w' h k => HP.out w' (h.as rfl (by rw [Ho2.out, Ho1.out]; simp only [Tx.tailC, Bool.or_assoc])) (K2.trans k))
noncomputable def rtxCodeB : Code := dropSeq 18 (Tryz.f83.body.getD .skip)
set_option maxRecDepth 10000 in
set_option maxHeartbeats 12800000 in
theorem rtx_tB (base b xb : Nat) (x : Tx) (l : List Atom) (odd : Bool) (P : World → Prop) (w : World) (c1 c2 c4 c5 c6 c8 c9 c10 c11 c12 c13 c14 c15 c16 c17 c18 c19 c20 c21 c22 c23 c24 c25 c26 c27 c28 c29 c30 c31 c32 c33 c34 c35 c36 c37 c38 c39 c40 c41 c42 c43 c44 c45 c46 c47 c48 c49 c50 c51 c52 c53 c54 c55 c56 c57 c58 c59 c60 c61 c62 c63 c64 c65 c66 c67 c68 c69 c70 c71 c72 c73 c74 c75 c76 c77 c78 c79 c80 c81 c82 c83 c84 c85 c86 c87 c88 c89 c90 c91 c92 c93 c94 c95 c96 c97 c98 c99 c100 c101 c102 c103 c104 c105 c106 c107 c108 c109 c110 c111 c112 c113 c114 c115 c116 c117 c118 c119 c120 c121 c122 c123 c124 c125 c126 c127 c128 c129 c130 c131 c132 c133 c134 c135 c136 c137 c138 c139 c140 c141 c142 c143 c144 c145 c146 c147 c148 c149 c150 c151 c152 c153 c154 c155 c156 c157 c158 c159 c160 c161 c162 c163 c164 c165 c166 c167 c168 c169 c170 c171 c172 c173 c174 c175 c176 c177 c178 c179 c180 c181 c182 c183 c184 c185 c186 c187 c188 c189 c190 c191 c192 c193 c194 c195 : Value) (hb : base ≤ b) (hB0 : base ≤ w.heap.size) (hXb : xb ≠ b) (X0 : Blk w xb #[.int .i64 x.k, .int .i64 x.f, .int .i64 x.n, .int .i64 x.p, .int .i64 x.li, .int .i64 x.to, .int .i64 x.am, .string ⟨x.te.toArray⟩, .slice x.ar.la x.ar.xs.length x.ar.lc, .slice x.si.la x.si.xs.length x.si.lc, .slice x.pr.la x.pr.xs.length x.pr.lc] 64) (R0 : RefL w b l odd)
  (hm8 : x.ar.lc ≤ 9223372036854775807) (hm9 : x.si.lc ≤ 9223372036854775807) (hm10 : x.pr.lc ≤ 9223372036854775807) (hc8 : x.ar.xs.length ≤ x.ar.lc) (hc9 : x.si.xs.length ≤ x.si.lc) (hc10 : x.pr.xs.length ≤ x.pr.lc)
  (hP : ∀ w', RefL w' b l (odd || x.tailB) → Kp base b w w' → P w') :
  Code.wp Tryz.prog rtxCodeB (bodyPost Tryz.prog Tryz.f83 (fun e w' => e = .returned (.tuple #[]) ∧ P w')) ⟨#[.pointer (some ⟨b, 0, none⟩), c1, c2, .pointer (some ⟨xb, 0, none⟩), c4, c5, c6, .bool (isTo x.k), c8, c9, c10, c11, c12, c13, c14, c15, c16, c17, c18, c19, c20, c21, c22, c23, c24, c25, c26, c27, c28, c29, c30, c31, c32, c33, c34, c35, c36, c37, c38, c39, c40, c41, c42, c43, c44, c45, c46, c47, c48, c49, c50, c51, c52, c53, c54, c55, c56, c57, c58, c59, c60, c61, c62, c63, c64, c65, c66, c67, c68, c69, c70, c71, c72, c73, c74, c75, c76, c77, c78, c79, c80, c81, c82, c83, c84, c85, c86, c87, c88, c89, c90, c91, c92, c93, c94, c95, c96, c97, c98, c99, c100, c101, c102, c103, c104, c105, c106, c107, c108, c109, c110, c111, c112, c113, c114, c115, c116, c117, c118, c119, c120, c121, c122, c123, c124, c125, c126, c127, c128, c129, c130, c131, c132, c133, c134, c135, c136, c137, c138, c139, c140, c141, c142, c143, c144, c145, c146, c147, c148, c149, c150, c151, c152, c153, c154, c155, c156, c157, c158, c159, c160, c161, c162, c163, c164, c165, c166, c167, c168, c169, c170, c171, c172, c173, c174, c175, c176, c177, c178, c179, c180, c181, c182, c183, c184, c185, c186, c187, c188, c189, c190, c191, c192, c193, c194, c195], []⟩ w := by
 have K0 := Kp.refl base b w
 have HP := show Hid (_) from hP
 clear hP
 conv => arg 2; whnf
 conv => arg 4; dsimp only
 obtain ⟨A, HA⟩ : ∃ z, Hid (z = isTo x.k) := ⟨_, rfl⟩
 rw [← HA.out]
 have q0 := X0.cell 0
 simp only [List.getElem?_toArray, List.getElem?_cons_zero] at q0
 go_upto_region 27 with fail
 go_cut [8] (fun c wx => c = .bool (A || (decide (x.k = 2) || decide (x.k = 4) || decide (x.k = 5))) ∧ RefL wx b l odd ∧ Kp base b w wx)
 case first =>
  cases A
  ·go_wp2_with fail
   refine (rin3 x.k _).mono ?_
   rintro e w' ⟨rfl, rfl⟩
   go_wp2_with fail
   go_meet
   case rel => exact ⟨by simp, R0.below ((Below.refl _ _).alloc (Nat.le_refl _) _), Kp.of_below ((Below.refl _ _).alloc (Nat.le_refl _) _) (Nat.le_trans hB0 K0.size)⟩
  ·go_wp2_with fail
   go_meet
   case rel => exact ⟨by simp, R0, Kp.refl _ _ _⟩
 case rest =>
  obtain ⟨rfl, R1, k⟩ := hcut
  have X1 := X0.kp k hXb
  have K1 := K0.trans k
  clear q0 k X0 R0
  obtain ⟨M, HM⟩ : ∃ z, Hid (z = (A || (decide (x.k = 2) || decide (x.k = 4) || decide (x.k = 5)))) := ⟨_, rfl⟩
  rw [← HM.out]
  have HM2 : Hid (M = isAm x.k) := by show _ = _; rw [HM.out, HA.out]; rfl
  clear HM
  have q6 := X1.cell 6
  simp only [List.getElem?_toArray, List.getElem?_cons_succ, List.getElem?_cons_zero] at q6
  go_upto_region 28 with fail
  go_cut [] (fun wx => RefL wx b l (odd || (!M && decide (x.am ≠ 0))) ∧ Kp base b wc wx)
  case first =>
   by_cases cA : M = true
   ·subst cA
    have cA := True.intro
    have HcA := show Hid (_) from cA
    clear cA
    go_wp2_with fail
    refine (roddL base b _ _ _ _ hb R1).mono ?_
    rintro e w' ⟨rfl, R', k'⟩
    go_wp2_with fail
    go_meet
    case rel => exact ⟨R'.as rfl (by simp), k'⟩
   ·rw [Bool.not_eq_true] at cA
    subst cA
    have cA := True.intro
    have HcA := show Hid (_) from cA
    clear cA
    go_wp2_with fail
    refine (roddL base b _ _ _ _ hb R1).mono ?_
    rintro e w' ⟨rfl, R', k'⟩
    go_wp2_with fail
    go_meet
    case rel => exact ⟨R'.as rfl (by simp [bne, BEq.beq]), k'⟩
  case rest =>
   obtain ⟨R2, k⟩ := hcut
   obtain ⟨o1, Ho1⟩ : ∃ o', Hid (o' = (odd || (!M && decide (x.am ≠ 0)))) := ⟨_, rfl⟩
   rw [← Ho1.out] at R2
   have X2 := X1.kp k hXb
   have K2 := K1.trans k
   clear q6 k X1 R1
   refine ‹∀ (a : Act) (w : World), Code.wp Tryz.prog rtxCodeC (bodyPost Tryz.prog Tryz.f83 (fun e w' => e = .returned (.tuple #[]) ∧ P w')) a w → _› _ _ ?_
   exact rtx_tC base b xb x l o1 P _ _ _ _ _ _ _ _ _ _ _ _ _ _ _ _ _ _ _ _ _ _ _ _ _ _ _ _ _ _ _ _ _ _ _ _ _ _ _ _ _ _ _ _ _ _ _ _ _ _ _ _ _ _ _ _ _ _ _ _ _ _ _ _ _ _ _ _ _ _ _ _ _ _ _ _ _ _ _ _ _ _ _ _ _ _ _ _ _ _ _ _ _ _ _ _ _ _ _ _ _ _ _ _ _ _ _ _ _ _ _ _ _ _ _ _ _ _ _ _ _ _ _ _ _ _ _ _ _ _ _ _ _ _ _ _ _ _ _ _ _ _ _ _ _ _ _ _ _ _ _ _ _ _ _ _ _ _ _ _ _ _ _ _ _ _ _ _ _ _ _ _ _ _ _ _ _ _ _ _ _ _ _ _ _ _ _ _ _ _ _ _ _ _ _ hb (Nat.le_trans hB0 K2.size) hXb X2 R2 hm8 hm9 hm10 hc8 hc9 hc10 (fun w' h k => HP.out w' (h.as rfl (by rw [Ho1.out]; simp only [Tx.tailB, Bool.or_assoc, HM2.out])) (K2.trans k))
noncomputable def rtxCodeA : Code := dropSeq 16 (Tryz.f83.body.getD .skip)
set_option maxRecDepth 10000 in
set_option maxHeartbeats 12800000 in
theorem rtx_tA (base b xb : Nat) (x : Tx) (l : List Atom) (odd : Bool) (P : World → Prop) (w : World) (c1 c2 c4 c5 c6 c7 c8 c9 c10 c11 c12 c13 c14 c15 c16 c17 c18 c19 c20 c21 c22 c23 c24 c25 c26 c27 c28 c29 c30 c31 c32 c33 c34 c35 c36 c37 c38 c39 c40 c41 c42 c43 c44 c45 c46 c47 c48 c49 c50 c51 c52 c53 c54 c55 c56 c57 c58 c59 c60 c61 c62 c63 c64 c65 c66 c67 c68 c69 c70 c71 c72 c73 c74 c75 c76 c77 c78 c79 c80 c81 c82 c83 c84 c85 c86 c87 c88 c89 c90 c91 c92 c93 c94 c95 c96 c97 c98 c99 c100 c101 c102 c103 c104 c105 c106 c107 c108 c109 c110 c111 c112 c113 c114 c115 c116 c117 c118 c119 c120 c121 c122 c123 c124 c125 c126 c127 c128 c129 c130 c131 c132 c133 c134 c135 c136 c137 c138 c139 c140 c141 c142 c143 c144 c145 c146 c147 c148 c149 c150 c151 c152 c153 c154 c155 c156 c157 c158 c159 c160 c161 c162 c163 c164 c165 c166 c167 c168 c169 c170 c171 c172 c173 c174 c175 c176 c177 c178 c179 c180 c181 c182 c183 c184 c185 c186 c187 c188 c189 c190 c191 c192 c193 c194 c195 : Value) (hb : base ≤ b) (hB0 : base ≤ w.heap.size) (hXb : xb ≠ b) (X0 : Blk w xb #[.int .i64 x.k, .int .i64 x.f, .int .i64 x.n, .int .i64 x.p, .int .i64 x.li, .int .i64 x.to, .int .i64 x.am, .string ⟨x.te.toArray⟩, .slice x.ar.la x.ar.xs.length x.ar.lc, .slice x.si.la x.si.xs.length x.si.lc, .slice x.pr.la x.pr.xs.length x.pr.lc] 64) (R0 : RefL w b l odd)
  (hm8 : x.ar.lc ≤ 9223372036854775807) (hm9 : x.si.lc ≤ 9223372036854775807) (hm10 : x.pr.lc ≤ 9223372036854775807) (hc8 : x.ar.xs.length ≤ x.ar.lc) (hc9 : x.si.xs.length ≤ x.si.lc) (hc10 : x.pr.xs.length ≤ x.pr.lc)
  (hP : ∀ w', RefL w' b l (odd || x.tailA) → Kp base b w w' → P w') :
  Code.wp Tryz.prog rtxCodeA (bodyPost Tryz.prog Tryz.f83 (fun e w' => e = .returned (.tuple #[]) ∧ P w')) ⟨#[.pointer (some ⟨b, 0, none⟩), c1, c2, .pointer (some ⟨xb, 0, none⟩), c4, c5, c6, c7, c8, c9, c10, c11, c12, c13, c14, c15, c16, c17, c18, c19, c20, c21, c22, c23, c24, c25, c26, c27, c28, c29, c30, c31, c32, c33, c34, c35, c36, c37, c38, c39, c40, c41, c42, c43, c44, c45, c46, c47, c48, c49, c50, c51, c52, c53, c54, c55, c56, c57, c58, c59, c60, c61, c62, c63, c64, c65, c66, c67, c68, c69, c70, c71, c72, c73, c74, c75, c76, c77, c78, c79, c80, c81, c82, c83, c84, c85, c86, c87, c88, c89, c90, c91, c92, c93, c94, c95, c96, c97, c98, c99, c100, c101, c102, c103, c104, c105, c106, c107, c108, c109, c110, c111, c112, c113, c114, c115, c116, c117, c118, c119, c120, c121, c122, c123, c124, c125, c126, c127, c128, c129, c130, c131, c132, c133, c134, c135, c136, c137, c138, c139, c140, c141, c142, c143, c144, c145, c146, c147, c148, c149, c150, c151, c152, c153, c154, c155, c156, c157, c158, c159, c160, c161, c162, c163, c164, c165, c166, c167, c168, c169, c170, c171, c172, c173, c174, c175, c176, c177, c178, c179, c180, c181, c182, c183, c184, c185, c186, c187, c188, c189, c190, c191, c192, c193, c194, c195], []⟩ w := by
 have K0 := Kp.refl base b w
 have HP := show Hid (_) from hP
 clear hP
 conv => arg 2; whnf
 conv => arg 4; dsimp only
 have q0 := X0.cell 0
 simp only [List.getElem?_toArray, List.getElem?_cons_zero] at q0
 go_wp2_with fail
 refine (rin4 x.k _).mono ?_
 rintro e w1 ⟨rfl, hw⟩
 have k : Kp base b w w1 := by rw [← hw]; exact Kp.of_below ((Below.refl _ _).alloc (Nat.le_refl _) _) (Nat.le_trans hB0 K0.size)
 have R1 := R0.below (show Below w.heap.size w w1 by rw [← hw]; exact (Below.refl _ _).alloc (Nat.le_refl _) _)
 clear hw
 have X1 := X0.kp k hXb
 have K1 := K0.trans k
 clear q0 k X0 R0
 obtain ⟨A, HA⟩ : ∃ z, Hid (z = isTo x.k) := ⟨_, rfl⟩
 rw [← HA.out]
 have q5 := X1.cell 5
 simp only [List.getElem?_toArray, List.getElem?_cons_succ, List.getElem?_cons_zero] at q5
 go_upto_region 26 with fail
 go_cut [] (fun wx => RefL wx b l (odd || ((A && decide (x.to < 1)) || (!A && decide (x.to ≠ 0)))) ∧ Kp base b w1 wx)
 case first =>
  by_cases cA : A = true
  ·subst cA
   have cA := True.intro
   have HcA := show Hid (_) from cA
   clear cA
   by_cases c1 : x.to < 1
   ·have c1d : decide (x.to < 1) = true := by simpa using c1
    have Hc1 := show Hid (_) from c1
    clear c1
    go_wp2_with fail
    refine (roddL base b _ _ _ _ hb R1).mono ?_
    rintro e w' ⟨rfl, R', k'⟩
    go_wp2_with fail
    go_meet
    case rel => exact ⟨R'.as rfl (by rw [c1d]; simp), k'⟩
   ·have c1d : decide (x.to < 1) = false := by simpa using c1
    have Hc1 := show Hid (_) from c1
    clear c1
    go_wp2_with fail
    refine (roddL base b _ _ _ _ hb R1).mono ?_
    rintro e w' ⟨rfl, R', k'⟩
    go_wp2_with fail
    go_meet
    case rel => exact ⟨R'.as rfl (by rw [c1d]; simp), k'⟩
  ·rw [Bool.not_eq_true] at cA
   subst cA
   have cA := True.intro
   have HcA := show Hid (_) from cA
   clear cA
   by_cases c2 : x.to = 0
   ·have c2b : (x.to != 0) = false := by simpa using c2
    have Hc2 := show Hid (_) from c2
    clear c2
    go_wp2_with fail
    refine (roddL base b _ _ _ _ hb R1).mono ?_
    rintro e w' ⟨rfl, R', k'⟩
    go_wp2_with fail
    go_meet
    case rel => exact ⟨R'.as rfl (by have h : x.to = 0 := Hc2.out; simp [h]), k'⟩
   ·have c2b : (x.to != 0) = true := by simpa using c2
    have Hc2 := show Hid (_) from c2
    clear c2
    go_wp2_with fail
    refine (roddL base b _ _ _ _ hb R1).mono ?_
    rintro e w' ⟨rfl, R', k'⟩
    go_wp2_with fail
    go_meet
    case rel => exact ⟨R'.as rfl (by have h : ¬ x.to = 0 := Hc2.out; simp [h]), k'⟩
 case rest =>
  obtain ⟨R2, k⟩ := hcut
  obtain ⟨o1, Ho1⟩ : ∃ o', Hid (o' = (odd || ((A && decide (x.to < 1)) || (!A && decide (x.to ≠ 0))))) := ⟨_, rfl⟩
  rw [← Ho1.out] at R2
  have X2 := X1.kp k hXb
  have K2 := K1.trans k
  clear q5 k X1 R1
  rw [HA.out]
  refine ‹∀ (a : Act) (w : World), Code.wp Tryz.prog rtxCodeB (bodyPost Tryz.prog Tryz.f83 (fun e w' => e = .returned (.tuple #[]) ∧ P w')) a w → _› _ _ ?_
  exact rtx_tB base b xb x l o1 P _ _ _ _ _ _ _ _ _ _ _ _ _ _ _ _ _ _ _ _ _ _ _ _ _ _ _ _ _ _ _ _ _ _ _ _ _ _ _ _ _ _ _ _ _ _ _ _ _ _ _ _ _ _ _ _ _ _ _ _ _ _ _ _ _ _ _ _ _ _ _ _ _ _ _ _ _ _ _ _ _ _ _ _ _ _ _ _ _ _ _ _ _ _ _ _ _ _ _ _ _ _ _ _ _ _ _ _ _ _ _ _ _ _ _ _ _ _ _ _ _ _ _ _ _ _ _ _ _ _ _ _ _ _ _ _ _ _ _ _ _ _ _ _ _ _ _ _ _ _ _ _ _ _ _ _ _ _ _ _ _ _ _ _ _ _ _ _ _ _ _ _ _ _ _ _ _ _ _ _ _ _ _ _ _ _ _ _ _ _ _ _ _ _ hb (Nat.le_trans hB0 K2.size) hXb X2 R2 hm8 hm9 hm10 hc8 hc9 hc10 (fun w' h k => HP.out w' (h.as rfl (by rw [Ho1.out]; simp only [Tx.tailA, Bool.or_assoc, HA.out])) (K2.trans k))
end Go.Proofs.YtackcbpabjhmpaaGreat
