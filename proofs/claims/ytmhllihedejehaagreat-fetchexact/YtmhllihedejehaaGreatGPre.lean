/- The answer's Give, of a way at which a node is wanted, up to where it is known whether the node is taken. -/
import Derived.Test.YtmhllihedejehaaGreatM18
import Derived.Test.YtmhllihedejehaaGreatM03
import Derived.Deep.RegionHeld3
import Derived.Deep.CutBlock
namespace Go.Proofs.YtmhllihedejehaaGreat
open Go.RowKit
set_option linter.unusedVariables false
set_option linter.unusedSimpArgs false

theorem bel_inG {a w w2 : World} (h : Below a.heap.size a w) (h2 : Below w.heap.size w w2) : Below a.heap.size a w2 := h.trans (h2.mono h.size)
def dropSeqG : Nat → Code → Code
  | 0, c => c
  | n + 1, .seq _ b => dropSeqG n b
  | _ + 1, c => c
/-- The digest that the node has. -/
def dueN (wd : Int) (way : Key) (k : Int) (key val : Key) (pos l r : Int) : Int := if way.isEmpty = true then wholeP wd k (str key) (str val) pos l r else overP wd k (str key) (str val) pos l r
section
variable {base gb : Nat} {wd root : Int} {o : Option Tr} {bar : List Int} {vL vB : Value} {li : Option Addr} {ci : Nat}
set_option maxRecDepth 20000 in
set_option maxHeartbeats 6400000 in
theorem rgive_pre (P : Ending → World → Prop) (x k pos l r d : Int) (way key val : Key) (A B : List (Key × Int)) (w : World) (hb : bar.length ≤ 1000000) (hL : (A ++ (way, d) :: B).length ≤ 1000000) (hwd : okW wd) (hk : key.length ≤ maxLen) (hv : val.length ≤ maxLen) (hpp : -9223372036854775808 ≤ pos ∧ pos ≤ 9223372036854775807) (hl : 0 ≤ l ∧ l ≤ 18446744073709551615) (hr : 0 ≤ r ∧ r ≤ 18446744073709551615)
    (H : RFet w base gb wd root (A ++ (way, d) :: B) o bar vL vB li ci) (hx : ¬ x ∈ bar) (hw : way ∉ A.map Prod.fst)
    (hK : ∀ (nb : Nat) (c3 c4 c5 c6 c8 c9 c13 c14 c15 c16 c17 c18 c19 c20 c21 c22 c23 c24 c25 c26 c27 c28 c29 c30 c31 c32 c33 c34 c35 c36 c37 c38 c39 c40 c41 c42 c43 c44 c45 c46 c47 c48 c49 c50 c51 c52 c53 c54 c55 c56 c57 c58 c59 c60 c61 c62 c63 c64 c65 c66 c67 c68 c69 c70 c71 c72 c73 c74 c75 c76 c77 c78 c79 c80 c81 c82 c83 c84 c85 c86 c87 c88 c89 c90 c91 c92 c93 c94 c95 c96 c97 c98 c99 c100 c101 c102 c103 c104 c105 c106 c107 c108 c109 c110 c111 c112 c113 c114 c115 c116 c117 c118 c119 c120 c121 c122 c123 c124 c125 c126 c127 c128 c129 c130 c131 c132 c133 c134 c135 c136 c137 c138 c139 c140 c141 c142 c143 c144 c145 c146 c147 c148 c149 c150 c151 c152 c153 c154 c155 c156 c157 c158 c159 c160 c161 c162 c163 c164 c165 c166 c167 c168 c169 c170 c171 c172 c173 c174 c175 c176 c177 c178 c179 c180 : Value) (w' : World), Below w.heap.size w w' → w.heap.size ≤ nb → Blk w' nb #[.int .i64 k, .string (str key), .string (str val), .int .i64 pos, .int .u64 l, .int .u64 r] 28 → Code.wp Tryz.prog (dropSeqG 9 (Tryz.f15.body.getD .skip)) (bodyPost Tryz.prog Tryz.f15 P) ⟨#[.pointer (some ⟨gb, 0, none⟩), .int .i64 x, .string (str way), c3, c4, c5, c6, .pointer (some ⟨nb, 0, none⟩), c8, c9, .int .i64 (A.length : Int), .bool ((way.isEmpty || k != 0) && mayN k key val pos l r), .int .u64 (dueN wd way k key val pos l r), c13, c14, c15, c16, c17, c18, c19, c20, c21, c22, c23, c24, c25, c26, c27, c28, c29, c30, c31, c32, c33, c34, c35, c36, c37, c38, c39, c40, c41, c42, c43, c44, c45, c46, c47, c48, c49, c50, c51, c52, c53, c54, c55, c56, c57, c58, c59, c60, c61, c62, c63, c64, c65, c66, c67, c68, c69, c70, c71, c72, c73, c74, c75, c76, c77, c78, c79, c80, c81, c82, c83, c84, c85, c86, c87, c88, c89, c90, c91, c92, c93, c94, c95, c96, c97, c98, c99, c100, c101, c102, c103, c104, c105, c106, c107, c108, c109, c110, c111, c112, c113, c114, c115, c116, c117, c118, c119, c120, c121, c122, c123, c124, c125, c126, c127, c128, c129, c130, c131, c132, c133, c134, c135, c136, c137, c138, c139, c140, c141, c142, c143, c144, c145, c146, c147, c148, c149, c150, c151, c152, c153, c154, c155, c156, c157, c158, c159, c160, c161, c162, c163, c164, c165, c166, c167, c168, c169, c170, c171, c172, c173, c174, c175, c176, c177, c178, c179, c180], []⟩ w') :
    Calls Tryz.prog 15 #[.pointer (some ⟨gb, 0, none⟩), .int .i64 x, .string (str way), .agg #[.int .i64 k, .string (str key), .string (str val), .int .i64 pos, .int .u64 l, .int .u64 r]] w P := by
  have bA : Below w.heap.size w (w.alloc (.cells #[.int .i64 k, .string (str key), .string (str val), .int .i64 pos, .int .u64 l, .int .u64 r] 28)) := (Below.refl _ _).alloc (Nat.le_refl _) _
  have kn := Blk.new w #[.int .i64 k, .string (str key), .string (str val), .int .i64 pos, .int .u64 l, .int .u64 r] 28
  have H1 := H.below bA
  have c5 := (H1.k.cell 5).trans rfl
  have c2 := (H1.k.cell 2).trans rfl
  have zf := H1.k.lt
  have KI := rin_own base vB bar x _ hb H1.wb
  rw [decide_eq_false hx] at KI
  obtain ⟨sa, sc, rfl, _⟩ := row_at H.wb
  obtain ⟨la, lc, rfl, hcl⟩ := row_at H1.wl
  have s2 := str_toList way
  have z1 : (str key).size ≤ maxLen := by rw [str_size]; exact hk
  have z2 : (str val).size ≤ maxLen := by rw [str_size]; exact hv
  have HKK : Hid (∀ (nb : Nat) (c3 c4 c5 c6 c8 c9 c13 c14 c15 c16 c17 c18 c19 c20 c21 c22 c23 c24 c25 c26 c27 c28 c29 c30 c31 c32 c33 c34 c35 c36 c37 c38 c39 c40 c41 c42 c43 c44 c45 c46 c47 c48 c49 c50 c51 c52 c53 c54 c55 c56 c57 c58 c59 c60 c61 c62 c63 c64 c65 c66 c67 c68 c69 c70 c71 c72 c73 c74 c75 c76 c77 c78 c79 c80 c81 c82 c83 c84 c85 c86 c87 c88 c89 c90 c91 c92 c93 c94 c95 c96 c97 c98 c99 c100 c101 c102 c103 c104 c105 c106 c107 c108 c109 c110 c111 c112 c113 c114 c115 c116 c117 c118 c119 c120 c121 c122 c123 c124 c125 c126 c127 c128 c129 c130 c131 c132 c133 c134 c135 c136 c137 c138 c139 c140 c141 c142 c143 c144 c145 c146 c147 c148 c149 c150 c151 c152 c153 c154 c155 c156 c157 c158 c159 c160 c161 c162 c163 c164 c165 c166 c167 c168 c169 c170 c171 c172 c173 c174 c175 c176 c177 c178 c179 c180 : Value) (w' : World), Below w.heap.size w w' → w.heap.size ≤ nb → Blk w' nb #[.int .i64 k, .string (str key), .string (str val), .int .i64 pos, .int .u64 l, .int .u64 r] 28 → Code.wp Tryz.prog (dropSeqG 9 (Tryz.f15.body.getD .skip)) (bodyPost Tryz.prog Tryz.f15 P) ⟨#[.pointer (some ⟨gb, 0, none⟩), .int .i64 x, .string (str way), c3, c4, c5, c6, .pointer (some ⟨nb, 0, none⟩), c8, c9, .int .i64 (A.length : Int), .bool ((way.isEmpty || k != 0) && mayN k key val pos l r), .int .u64 (dueN wd way k key val pos l r), c13, c14, c15, c16, c17, c18, c19, c20, c21, c22, c23, c24, c25, c26, c27, c28, c29, c30, c31, c32, c33, c34, c35, c36, c37, c38, c39, c40, c41, c42, c43, c44, c45, c46, c47, c48, c49, c50, c51, c52, c53, c54, c55, c56, c57, c58, c59, c60, c61, c62, c63, c64, c65, c66, c67, c68, c69, c70, c71, c72, c73, c74, c75, c76, c77, c78, c79, c80, c81, c82, c83, c84, c85, c86, c87, c88, c89, c90, c91, c92, c93, c94, c95, c96, c97, c98, c99, c100, c101, c102, c103, c104, c105, c106, c107, c108, c109, c110, c111, c112, c113, c114, c115, c116, c117, c118, c119, c120, c121, c122, c123, c124, c125, c126, c127, c128, c129, c130, c131, c132, c133, c134, c135, c136, c137, c138, c139, c140, c141, c142, c143, c144, c145, c146, c147, c148, c149, c150, c151, c152, c153, c154, c155, c156, c157, c158, c159, c160, c161, c162, c163, c164, c165, c166, c167, c168, c169, c170, c171, c172, c173, c174, c175, c176, c177, c178, c179, c180], []⟩ w') := hK
  have HH1 : Hid (RFet (w.alloc (.cells #[.int .i64 k, .string (str key), .string (str val), .int .i64 pos, .int .u64 l, .int .u64 r] 28)) base gb wd root (A ++ (way, d) :: B) o bar (.slice la (A ++ (way, d) :: B).length lc) (.slice sa bar.length sc) li ci) := H1
  clear H H1 hK
  go_enter Tryz.func15, Tryz.ntmps15
  go_wp2_with fail
  refine KI.mono ?_
  rintro e w1 ⟨rfl, rfl⟩
  clear KI
  generalize w.alloc (.cells #[.int .i64 k, .string (str key), .string (str val), .int .i64 pos, .int .u64 l, .int .u64 r] 28) = wA at *
  go_upto_block 0 with fail
  go_cut [10] (fun kv wx => kv = .int .i64 (A.length : Int) ∧ wA = wx)
  case first =>
    go_wp2_with fail
    go_loopw [10] (fun kv wv => ∃ j : Nat, j ≤ A.length ∧ kv = .int .i64 j ∧ wA = wv) (fun kv _ => A.length - (intOf kv).toNat)
    case atStart => exact ⟨0, Nat.zero_le _, rfl, rfl⟩
    case round =>
      obtain ⟨j, hj, rfl, rfl⟩ := hrel
      have hlen : (A ++ (way, d) :: B).length = A.length + (B.length + 1) := by simp
      have hjl : j < (A ++ (way, d) :: B).length := by omega
      have hlt' : (j : Int) < ((A ++ (way, d) :: B).length : Int) := by omega
      obtain ⟨g, e1, zg, ac⟩ := hcl (by omega)
      subst e1
      have a1 := ac _ _ (flatW_get _ j hjl).1
      clear ac hcl HH1 HKK
      by_cases hlt : j < A.length
      · have hne : (A ++ (way, d) :: B)[j].1 ≠ way := fun e => by
          rw [List.getElem_append_left hlt] at e
          exact hw (List.mem_map.2 ⟨A[j], List.getElem_mem hlt, e⟩)
        generalize (A ++ (way, d) :: B)[j].1 = wj at *
        generalize (A ++ (way, d) :: B).length = LL at *
        have s1 := str_toList wj
        have hb1 : (wj == way) = false := by simpa using hne
        clear hw hlen
        go_wp2
        exact ⟨⟨j + 1, by omega, by go_num, trivial⟩, by simp [intOf]; omega⟩
      · have ej : j = A.length := by omega
        have hee : (A ++ (way, d) :: B)[j].1 = way := by
          subst ej
          simp
        rw [hee] at a1
        have HJ : Hid (j = A.length) := ej
        clear hee hjl
        generalize (A ++ (way, d) :: B).length = LL at *
        clear hw hlen ej hlt hj
        go_wp2_with fail
        go_meet
        case rel => exact ⟨by rw [HJ.out], rfl⟩
  case rest =>
    obtain ⟨rfl, rfl⟩ := hcut
    have hneq : ((A.length : Int) == ((A ++ (way, d) :: B).length : Int)) = false := by
      have : (A ++ (way, d) :: B).length = A.length + (B.length + 1) := by simp
      rw [beq_eq_false_iff_ne]
      omega
    have hnb : w.heap.size ≤ w.heap.size := Nat.le_refl _
    have n0 := (kn.cell 0).trans rfl
    have n1 := (kn.cell 1).trans rfl
    have n2 := (kn.cell 2).trans rfl
    have n3 := (kn.cell 3).trans rfl
    have n4 := (kn.cell 4).trans rfl
    have n5 := (kn.cell 5).trans rfl
    have zn := kn.lt
    clear hcl hw
    go_wp2_with fail
    refine (rnodeMay_any k key val pos l r _ hk hv).mono ?_
    rintro e w2 ⟨rfl, b2⟩
    have kn2 := kn.below b2 kn.lt
    have H2 := RFet.below HH1.out b2
    have B2 := bA.trans (b2.mono bA.size)
    clear n0 n1 n2 n3 n4 n5 zn c2 c5 zf kn HH1 b2 bA
    obtain ⟨nb, hnbe⟩ : ∃ nb, w.heap.size = nb := ⟨_, rfl⟩
    have F0 : ∀ w', Below w2.heap.size w2 w' → w'.cell? ⟨gb, 0, none⟩ = some (.int .i64 wd) := fun w' h => ((H2.k.below h H2.k.lt).cell 0).trans rfl
    have N0 : ∀ w', Below w2.heap.size w2 w' → w'.cell? ⟨w.heap.size, 0, none⟩ = some (.int .i64 k) := fun w' h => ((kn2.below h kn2.lt).cell 0).trans rfl
    have N1 : ∀ w', Below w2.heap.size w2 w' → w'.cell? ⟨w.heap.size, 1, none⟩ = some (.string (str key)) := fun w' h => ((kn2.below h kn2.lt).cell 1).trans rfl
    have N2 : ∀ w', Below w2.heap.size w2 w' → w'.cell? ⟨w.heap.size, 2, none⟩ = some (.string (str val)) := fun w' h => ((kn2.below h kn2.lt).cell 2).trans rfl
    have N3 : ∀ w', Below w2.heap.size w2 w' → w'.cell? ⟨w.heap.size, 3, none⟩ = some (.int .i64 pos) := fun w' h => ((kn2.below h kn2.lt).cell 3).trans rfl
    have N4 : ∀ w', Below w2.heap.size w2 w' → w'.cell? ⟨w.heap.size, 4, none⟩ = some (.int .u64 l) := fun w' h => ((kn2.below h kn2.lt).cell 4).trans rfl
    have N5 : ∀ w', Below w2.heap.size w2 w' → w'.cell? ⟨w.heap.size, 5, none⟩ = some (.int .u64 r) := fun w' h => ((kn2.below h kn2.lt).cell 5).trans rfl
    have KT := fun w' => rtop_any wd k (str key) (str val) pos l r w' hwd hpp z1 z2 hl hr
    have KO := fun w' => rover_any wd k (str key) (str val) pos l r w' hwd hpp z1 z2 hl hr
    have bw : Below w2.heap.size w2 w2 := Below.refl _ _
    have bd : Below w2.heap.size w2 w2.drew := (Below.refl _ _).drew
    clear hnbe H2
    go_upto_region 10 with fail
    go_cut [12] (fun dv wx => dv = .int .u64 (overP wd k (str key) (str val) pos l r) ∧ Below w2.heap.size w2 wx)
    case first =>
      go_region_held3 (fun w' => Below w2.heap.size w2 w') (first | assumption | (refine Below.drew ?_; assumption))
        (first
        | (go_at_call 36
           refine (KO _).mono ?_
           rintro e w3 ⟨rfl, b3⟩
           have hNext : Below w2.heap.size w2 w3 := bel_inG (by assumption) b3))
      all_goals (
        go_wp2
        go_meet
        exact ⟨rfl, hNext⟩)
    case rest =>
      obtain ⟨rfl, b3⟩ := hcut
      have B3 := B2.trans (b3.mono B2.size)
      have kn3 := kn2.below b3 kn2.lt
      have E3 : ∀ w', Below wc.heap.size wc w' → Below w2.heap.size w2 w' := fun w' h => bel_inG b3 h
      clear KO bw bd
      by_cases hwe : way = []
      · subst hwe
        have f0 := fun w' h => F0 w' (E3 w' h)
        have m0 := fun w' h => N0 w' (E3 w' h)
        have m1 := fun w' h => N1 w' (E3 w' h)
        have m2 := fun w' h => N2 w' (E3 w' h)
        have m3 := fun w' h => N3 w' (E3 w' h)
        have m4 := fun w' h => N4 w' (E3 w' h)
        have m5 := fun w' h => N5 w' (E3 w' h)
        clear F0 N0 N1 N2 N3 N4 N5 E3
        generalize wc = w4 at *
        have bw : Below w4.heap.size w4 w4 := Below.refl _ _
        have bd : Below w4.heap.size w4 w4.drew := (Below.refl _ _).drew
        go_upto_region 12 with fail
        go_cut [12] (fun dv wx => dv = .int .u64 (wholeP wd k (str key) (str val) pos l r) ∧ Below w4.heap.size w4 wx)
        case first =>
          go_region_held3 (fun w' => Below w4.heap.size w4 w') (first | assumption | (refine Below.drew ?_; assumption))
            (first
            | (go_at_call 37
               refine (KT _).mono ?_
               rintro e w5 ⟨rfl, b5⟩
               have hNext : Below w4.heap.size w4 w5 := bel_inG (by assumption) b5))
          all_goals (
            go_wp2
            go_meet
            exact ⟨rfl, hNext⟩)
        case rest =>
          obtain ⟨rfl, b5⟩ := hcut
          refine ‹∀ a w, Code.wp Tryz.prog _ _ a w → _› _ _ ?_
          exact HKK.out w.heap.size _ _ _ _ _ _ _ _ _ _ _ _ _ _ _ _ _ _ _ _ _ _ _ _ _ _ _ _ _ _ _ _ _ _ _ _ _ _ _ _ _ _ _ _ _ _ _ _ _ _ _ _ _ _ _ _ _ _ _ _ _ _ _ _ _ _ _ _ _ _ _ _ _ _ _ _ _ _ _ _ _ _ _ _ _ _ _ _ _ _ _ _ _ _ _ _ _ _ _ _ _ _ _ _ _ _ _ _ _ _ _ _ _ _ _ _ _ _ _ _ _ _ _ _ _ _ _ _ _ _ _ _ _ _ _ _ _ _ _ _ _ _ _ _ _ _ _ _ _ _ _ _ _ _ _ _ _ _ _ _ _ _ _ _ _ _ _ _ _ _ _ _ _ _ wc (B3.trans (b5.mono B3.size)) hnb (kn3.below b5 kn3.lt)
      · have hie : way.isEmpty = false := by cases way with
          | nil => exact (hwe rfl).elim
          | cons _ _ => rfl
        have hbe : (way == []) = false := by cases way with
          | nil => exact (hwe rfl).elim
          | cons _ _ => rfl
        have q0 := N0 wc b3
        have zn := kn3.lt
        have HX : Hid (way.isEmpty = false) := hie
        clear F0 N0 N1 N2 N3 N4 N5 E3 KT hwe
        have e12 : overP wd k (str key) (str val) pos l r = dueN wd way k key val pos l r := by
          unfold dueN
          rw [HX.out, if_neg (by simp)]
        have HE : Hid (overP wd k (str key) (str val) pos l r = dueN wd way k key val pos l r) := e12
        have HM : Hid (((way.isEmpty || k != 0) && mayN k key val pos l r) = (if k = 0 then false else mayN k key val pos l r)) := by
          show _ = _
          rw [HX.out]
          by_cases q : k = 0
          · simp [q]
          · simp [q]
        clear e12 hie
        generalize wc = w4 at *
        go_upto_if 60 with fail
        go_cut [11, 12] (fun ov dv wx => ov = .bool (if k = 0 then false else mayN k key val pos l r) ∧ dv = .int .u64 (overP wd k (str key) (str val) pos l r) ∧ w4 = wx)
        case first =>
          by_cases hk0 : k = 0
          · subst hk0
            go_wp2_with fail
            go_meet
            case rel => exact ⟨rfl, rfl, rfl⟩
          · have hk1 : (k == 0) = false := by simpa using hk0
            have HMM : Hid ((if k = 0 then false else mayN k key val pos l r) = mayN k key val pos l r) := if_neg hk0
            clear hk0
            go_wp2_with fail
            go_meet
            case rel => exact ⟨by rw [HMM.out], rfl, rfl⟩
        case rest =>
          obtain ⟨rfl, rfl, rfl⟩ := hcut
          refine ‹∀ a w, Code.wp Tryz.prog _ _ a w → _› _ _ ?_
          rw [HE.out, ← HM.out]
          exact HKK.out w.heap.size _ _ _ _ _ _ _ _ _ _ _ _ _ _ _ _ _ _ _ _ _ _ _ _ _ _ _ _ _ _ _ _ _ _ _ _ _ _ _ _ _ _ _ _ _ _ _ _ _ _ _ _ _ _ _ _ _ _ _ _ _ _ _ _ _ _ _ _ _ _ _ _ _ _ _ _ _ _ _ _ _ _ _ _ _ _ _ _ _ _ _ _ _ _ _ _ _ _ _ _ _ _ _ _ _ _ _ _ _ _ _ _ _ _ _ _ _ _ _ _ _ _ _ _ _ _ _ _ _ _ _ _ _ _ _ _ _ _ _ _ _ _ _ _ _ _ _ _ _ _ _ _ _ _ _ _ _ _ _ _ _ _ _ _ _ _ _ _ _ _ _ _ _ _ w4 B3 hnb kn3
end
end Go.Proofs.YtmhllihedejehaaGreat
