/- FetchExact: its steps. -/
import Derived.Test.YtmhllihedejehaaGreatGE8
import Derived.Test.YtmhllihedejehaaGreatGE7b
import Derived.Test.YtmhllihedejehaaGreatGStep
import Derived.Test.YtmhllihedejehaaGreatGPick
import Derived.Deep.CutBlock
namespace Go.Proofs.YtmhllihedejehaaGreat
open Go.RowKit Go.Maps
set_option linter.unusedVariables false
set_option linter.unusedSimpArgs false

set_option maxRecDepth 20000 in
set_option maxHeartbeats 12800000 in
theorem fe7 (w0 wN wq : World) (bu fb mb gb : Nat) (wd : Int) (o0 : Option Tr) (la ls : Option Addr) (cap lc : Nat) (xs : List Fs) (hxs : xs.length ≤ 512) (hin : ∀ x ∈ xs, x.In) (h8 : ∀ x ∈ xs, x.way.length ≤ 8192) (hS : StepsF wN ls xs) (L : List (Key × Int)) (o : Option Tr) (bar sb : List Int) (BN : Below w0.heap.size w0 wN) (H : Pr wN bu fb mb gb wd o0 la cap 0 L o bar sb wq) (c1 c3 c4 c5 c6 c7 c8 c12 c13 c14 c15 c16 c17 c18 c19 c20 c21 c22 c23 c24 c25 c26 c27 c28 c29 c30 c31 c32 c33 c34 c35 c36 c37 c38 c39 c40 c41 c42 c43 c44 c45 c46 c47 c48 c49 c50 c51 c52 c53 c54 c55 c56 c57 c58 c59 c60 c61 c62 c63 c64 c65 c66 c67 c68 c69 c70 c71 c72 c73 c74 c75 c76 c77 c78 c79 c80 c81 c82 c83 c84 c85 c86 c87 c88 c89 c90 c91 c92 c93 c94 c95 c96 c97 c98 c99 c100 c101 c102 c103 c104 c105 c106 c107 c108 c109 c110 c111 c112 c113 c114 c115 c116 c117 c118 c119 c120 c121 c122 c123 c124 c125 c126 c127 c128 c129 c130 c131 c132 c133 c134 c135 c136 c137 c138 c139 c140 c141 c142 c143 c144 c145 c146 c147 c148 c149 c150 c151 c152 c153 c154 c155 c156 c157 c158 c159 c160 c161 c162 c163 c164 c165 c166 c167 c168 c169 c170 c171 c172 c173 c174 c175 c176 c177 c178 c179 c180 c181 c182 c183 c184 c185 c186 c187 c188 c189 c190 c191 c192 c193 c194 c195 c196 c197 c198 c199 c200 c201 c202 c203 c204 c205 c206 c207 c208 c209 c210 c211 c212 c213 c214 c215 c216 c217 c218 c219 c220 c221 c222 c223 : Value) :
    Code.wp Tryz.prog (dropSeqG 7 (Tryz.f3.body.getD .skip)) (bodyPost Tryz.prog Tryz.f3 (fun e w' => e = .returned (.bool true) ∧ Below w0.heap.size w0 w')) ⟨#[.int .i64 wd, c1, .slice ls xs.length lc, c3, c4, c5, c6, c7, c8, .pointer (some ⟨bu, 0, none⟩), .pointer (some ⟨fb, 0, none⟩), .pointer (some ⟨gb, 0, none⟩), c12, c13, c14, c15, c16, c17, c18, c19, c20, c21, c22, c23, c24, c25, c26, c27, c28, c29, c30, c31, c32, c33, c34, c35, c36, c37, c38, c39, c40, c41, c42, c43, c44, c45, c46, c47, c48, c49, c50, c51, c52, c53, c54, c55, c56, c57, c58, c59, c60, c61, c62, c63, c64, c65, c66, c67, c68, c69, c70, c71, c72, c73, c74, c75, c76, c77, c78, c79, c80, c81, c82, c83, c84, c85, c86, c87, c88, c89, c90, c91, c92, c93, c94, c95, c96, c97, c98, c99, c100, c101, c102, c103, c104, c105, c106, c107, c108, c109, c110, c111, c112, c113, c114, c115, c116, c117, c118, c119, c120, c121, c122, c123, c124, c125, c126, c127, c128, c129, c130, c131, c132, c133, c134, c135, c136, c137, c138, c139, c140, c141, c142, c143, c144, c145, c146, c147, c148, c149, c150, c151, c152, c153, c154, c155, c156, c157, c158, c159, c160, c161, c162, c163, c164, c165, c166, c167, c168, c169, c170, c171, c172, c173, c174, c175, c176, c177, c178, c179, c180, c181, c182, c183, c184, c185, c186, c187, c188, c189, c190, c191, c192, c193, c194, c195, c196, c197, c198, c199, c200, c201, c202, c203, c204, c205, c206, c207, c208, c209, c210, c211, c212, c213, c214, c215, c216, c217, c218, c219, c220, c221, c222, c223], []⟩ wq := by
  conv => arg 2; whnf
  conv => arg 4; dsimp only
  have HS : Hid (StepsF wN ls xs) := hS
  have HIN : Hid (∀ x ∈ xs, x.In) := hin
  have H8 : Hid (∀ x ∈ xs, x.way.length ≤ 8192) := h8
  clear hS hin h8
  go_upto_block 2 with fail
  go_cut [] (fun wx => ∃ (k : Nat) (L : List (Key × Int)) (o : Option Tr) (bar sb : List Int), k ≤ 1000 ∧ Pr wN bu fb mb gb wd o0 la cap k L o bar sb wx)
  case rest =>
    obtain ⟨k, L, o, bar, sb, hk, H⟩ := hcut
    refine ‹∀ a w, Code.wp Tryz.prog _ _ a w → _› _ _ ?_
    exact fe8 w0 wN wc bu fb mb gb wd o0 la cap k hk L o bar sb BN H _ _ _ _ _ _ _ _ _ _ _ _ _ _ _ _ _ _ _ _ _ _ _ _ _ _ _ _ _ _ _ _ _ _ _ _ _ _ _ _ _ _ _ _ _ _ _ _ _ _ _ _ _ _ _ _ _ _ _ _ _ _ _ _ _ _ _ _ _ _ _ _ _ _ _ _ _ _ _ _ _ _ _ _ _ _ _ _ _ _ _ _ _ _ _ _ _ _ _ _ _ _ _ _ _ _ _ _ _ _ _ _ _ _ _ _ _ _ _ _ _ _ _ _ _ _ _ _ _ _ _ _ _ _ _ _ _ _ _ _ _ _ _ _ _ _ _ _ _ _ _ _ _ _ _ _ _ _ _ _ _ _ _ _ _ _ _ _ _ _ _ _ _ _ _ _ _ _ _ _ _ _ _ _ _ _ _ _ _ _ _ _ _ _ _ _ _ _ _ _ _ _ _ _ _ _ _ _ _ _ _ _ _ _ _ _ _ _ _ _
  case first =>
    have H0 : Hid (Pr wN bu fb mb gb wd o0 la cap 0 L o bar sb wq) := H
    clear H
    go_wp2_with fail
    go_loopw [12] (fun iv wv => ∃ (i : Nat) (L : List (Key × Int)) (o : Option Tr) (bar sb : List Int), i ≤ xs.length ∧ iv = .int .i64 i ∧ Hid (Pr wN bu fb mb gb wd o0 la cap i L o bar sb wv)) (fun iv _ => xs.length - (intOf iv).toNat)
    case atStart => exact ⟨0, L, o, bar, sb, Nat.zero_le _, rfl, H0⟩
    case round =>
      clear H0
      obtain ⟨i, L, o, bar, sb, hi, rfl, HP⟩ := hrel
      by_cases hlt : i < xs.length
      rotate_left
      · have hge : ¬ (i : Int) < (xs.length : Int) := by omega
        go_wp2_with fail
        go_meet
        case rel => exact ⟨i, L, o, bar, sb, by omega, HP.out⟩
      have hlt' : (i : Int) < (xs.length : Int) := by omega
      obtain ⟨qb, off, e, hqb, hsc⟩ := HS.out.one hlt
      subst e
      have hix := HIN.out _ (List.getElem_mem hlt)
      have h8k := H8.out _ (List.getElem_mem hlt)
      have hbl := Nat.lt_of_lt_of_le hqb HP.out.bel.size
      have hcs := hsc wr (HP.out.bel.block qb hqb)
      clear hsc
      generalize xs[i] = sx at *
      obtain ⟨fr, sa, st, ⟨nk, nkey, nval, npos, nl, nr⟩, sway⟩ := sx
      have q0 : wr.cell? ⟨qb, off + i * 10, none⟩ = some (.int .i64 fr) := hcs 0 _ rfl
      have q1 : wr.cell? ⟨qb, off + i * 10 + 1, none⟩ = some (.int .i64 sa) := hcs 1 _ rfl
      have q2 : wr.cell? ⟨qb, off + i * 10 + 2, none⟩ = some (.int .i64 st) := hcs 2 _ rfl
      have q3 : wr.cell? ⟨qb, off + i * 10 + 3, none⟩ = some (.int .i64 nk) := hcs 3 _ rfl
      have q4 : wr.cell? ⟨qb, off + i * 10 + 4, none⟩ = some (.string (str nkey)) := hcs 4 _ rfl
      have q5 : wr.cell? ⟨qb, off + i * 10 + 5, none⟩ = some (.string (str nval)) := hcs 5 _ rfl
      have q6 : wr.cell? ⟨qb, off + i * 10 + 6, none⟩ = some (.int .i64 npos) := hcs 6 _ rfl
      have q7 : wr.cell? ⟨qb, off + i * 10 + 7, none⟩ = some (.int .u64 nl) := hcs 7 _ rfl
      have q8 : wr.cell? ⟨qb, off + i * 10 + 8, none⟩ = some (.int .u64 nr) := hcs 8 _ rfl
      have q9 : wr.cell? ⟨qb, off + i * 10 + 9, none⟩ = some (.string (str sway)) := hcs 9 _ rfl
      clear hcs
      have HX : Hid ((⟨fr, sa, st, ⟨nk, nkey, nval, npos, nl, nr⟩, sway⟩ : Fs).In ∧ sway.length ≤ 8192) := ⟨hix, h8k⟩
      clear hix h8k
      go_upto_region 16 with fail
      obtain ⟨wA, hwA⟩ : ∃ wA, wr.alloc (.cells #[.int .i64 fr, .int .i64 sa, .int .i64 st, .int .i64 nk, .string (str nkey), .string (str nval), .int .i64 npos, .int .u64 nl, .int .u64 nr, .string (str sway)] 30) = wA := ⟨_, rfl⟩
      have kx : Blk wA wr.heap.size #[.int .i64 fr, .int .i64 sa, .int .i64 st, .int .i64 nk, .string (str nkey), .string (str nval), .int .i64 npos, .int .u64 nl, .int .u64 nr, .string (str sway)] 30 := by rw [← hwA]; exact Blk.new wr _ _
      have bA : Below wr.heap.size wr wA := by rw [← hwA]; exact (Below.refl _ _).alloc (Nat.le_refl _) _
      have hxge : wN.heap.size ≤ wr.heap.size := HP.out.bel.size
      have HPA : Hid (Pr wN bu fb mb gb wd o0 la cap i L o bar sb wA) := HP.out.next bA
      rw [hwA]
      clear hwA q0 q1 q2 q3 q4 q5 q6 q7 q8 q9 bA HP
      generalize wr.heap.size = xb at *
      have hp9 := pickP_bd sa 9 (by omega)
      have KP9 := fun w => pick_det sa 9 w HX.out.1.ha (by omega)
      have wp9 : IntKind.i64.wrap (1 + pickP sa 9) = 1 + pickP sa 9 := by simp [IntKind.wrap, IntKind.min, IntKind.max, IntKind.signed, IntKind.bits]; omega
      have x1 := (kx.cell 1).trans rfl
      have zx := kx.lt
      go_wp2_with fail
      refine (KP9 _).mono ?_
      rintro e w1 ⟨rfl, rfl⟩
      generalize pickP sa 9 = p9 at *
      have KW := HPA.out.wants (by omega) (1 + p9) (by omega)
      go_wp2_with fail
      refine KW.mono ?_
      rintro e w1 ⟨va, rfl, hra, b1⟩
      clear KW x1
      have kx1 := kx.below b1 kx.lt
      have HP1 : Hid (Pr wN bu fb mb gb wd o0 la cap i L o bar sb w1) := HPA.out.next b1
      have x1 := (kx1.cell 1).trans rfl
      have zx1 := kx1.lt
      clear kx HPA zx
      go_wp2_with fail
      refine (KP9 _).mono ?_
      rintro e w2 ⟨rfl, rfl⟩
      have KW := HP1.out.rwants (by omega) (1 + p9) (by omega)
      go_wp2_with fail
      refine KW.mono ?_
      rintro e w2 ⟨vb, rfl, hrb, b2⟩
      clear KW KP9 x1
      have kx2 := kx1.below b2 kx1.lt
      have HP2 : Hid (Pr wN bu fb mb gb wd o0 la cap i L o bar sb w2) := HP1.out.next b2
      have hra2 := row_keep hra fun k cs q => q.below b2 q.lt
      clear kx1 HP1 zx1 hra
      have HWn : Hid (((L.map Prod.fst).take (1 + p9).toNat).length ≤ 1000000) := by
        show _ ≤ _
        rw [List.length_take, List.length_map]
        have := HP2.out.ll
        omega
      have HWW : Hid (∀ x ∈ (L.map Prod.fst).take (1 + p9).toNat, x.length ≤ 1000) := fun x hx => by
        obtain ⟨z, hz, rfl⟩ := List.mem_map.1 (List.mem_of_mem_take hx)
        exact Nat.le_trans (HP2.out.lw z hz) (by omega)
      generalize (L.map Prod.fst).take (1 + p9).toNat = W at *
      obtain ⟨aa, ac, rfl, hca⟩ := row_at hra2
      obtain ⟨ba, bc, rfl, hcb⟩ := row_at hrb
      have HWL : Hid (W.length ≤ 1000000) := HWn.out
      clear hra2 hrb b1 b2
      generalize hq : w1 = wq1 at *
      clear hq
      go_upto_if 125 with fail
      go_cut [14, 15, 125] (fun av bv cv wx => av = .slice aa W.length ac ∧ bv = .slice ba W.length bc ∧ cv = .bool false ∧ Below w2.heap.size w2 wx)
      case first =>
        by_cases hW : W = []
        · subst hW
          clear hca hcb
          go_upto_region 18 with fail
          go_quiet (fail)
          go_wp2_with fail
          go_meet
          case rel => exact ⟨rfl, rfl, rfl, below_drewN (Below.refl _ _) _⟩
        · obtain ⟨m, hm⟩ : ∃ m, W.length = m + 1 := ⟨W.length - 1, by have := List.length_pos_iff.2 hW; omega⟩
          have hmW : m < W.length := by omega
          have hgl : (strs W)[m]? = some (.string (str W[m])) := by simp [strs, hmW]
          obtain ⟨ga, e1, za, fa⟩ := hca (by omega)
          obtain ⟨gc, e2, zc, fc⟩ := hcb (by omega)
          subst e1 e2
          have l1 := fa m _ hgl
          have l2 := fc m _ hgl
          generalize W[m] = wl at *
          have s1 := str_toList wl
          have hm6 := HWn.out
          rw [hm] at hm6
          clear fa fc hca hcb hgl HWW HWL HWn hW hmW
          have HM : Hid (W.length = m + 1) := hm
          rw [hm]
          clear hm
          have em : ((m + 1 : Nat) : Int) - 1 = (m : Int) := by omega
          have wm : IntKind.i64.wrap ((m : Int)) = (m : Int) := by simp [IntKind.wrap, IntKind.min, IntKind.max, IntKind.signed, IntKind.bits]; omega
          have hpos : ((m + 1 : Nat) : Int) > 0 := by omega
          go_upto_region 18 with fail
          go_quiet (fail)
          go_wp2_with fail
          go_meet
          case rel => exact ⟨by rw [HM.out], by rw [HM.out], rfl, below_drewN (Below.refl _ _) _⟩
      case rest =>
        obtain ⟨rfl, rfl, rfl, bc2⟩ := hcut
        refine ‹∀ a w, Code.wp Tryz.prog _ _ a w → _› _ _ ?_
        have kx3 := kx2.below bc2 kx2.lt
        have HP3 : Hid (Pr wN bu fb mb gb wd o0 la cap i L o bar sb wc) := HP2.out.next bc2
        have hcb3 : Hid (0 < W.length → ∃ g, ba = some ⟨g, 0, none⟩ ∧ g < wc.heap.size ∧ ∀ j u, (strs W)[j]? = some u → wc.cell? ⟨g, j, none⟩ = some u) := fun h => by
          obtain ⟨g, e1, e2, e3⟩ := hcb h
          exact ⟨g, e1, Nat.lt_of_lt_of_le e2 bc2.size, fun j u hu => by rw [bc2.cell (p := ⟨g, j, none⟩) e2]; exact e3 j u hu⟩
        have x1 := (kx3.cell 1).trans rfl
        have x9 := (kx3.cell 9).trans rfl
        have zx := kx3.lt
        clear kx2 HP2 hca hcb
        generalize wc = w3 at *
        have KP19 := fun w => pick_det sa 19 w HX.out.1.ha (by omega)
        have hp19 := pickP_bd sa 19 (by omega)
        generalize pickP sa 19 = p19 at *
        obtain ⟨N, hN⟩ : ∃ N, W.length = N := ⟨_, rfl⟩
        have HN : Hid (W.length = N) := hN
        rw [hN] at hcb3 ⊢
        clear hN
        have hN6 := HWn.out
        rw [HN.out] at hN6
        go_upto_region 21 with fail
        go_cut [136] (fun cv wx => cv = .bool (decide (0 < N ∧ 0 < p19)) ∧ w3 = wx)
        case first =>
          by_cases h0 : 0 < N
          · have h0' : (N : Int) > 0 := by omega
            have HD : Hid (decide (0 < N ∧ 0 < p19) = decide (0 < p19)) := by show _ = _; simp [h0]
            clear h0
            go_wp2_with fail
            refine (KP19 _).mono ?_
            rintro e w4 ⟨rfl, rfl⟩
            go_wp2_with fail
            go_meet
            case rel => exact ⟨by rw [HD.out], rfl⟩
          · have h0' : ¬ (N : Int) > 0 := by omega
            have HD : Hid (decide (0 < N ∧ 0 < p19) = false) := by show _ = _; simp [h0]
            clear h0
            go_wp2_with fail
            go_meet
            case rel => exact ⟨by rw [HD.out], rfl⟩
        case rest =>
          obtain ⟨rfl, rfl⟩ := hcut
          refine ‹∀ a w, Code.wp Tryz.prog _ _ a w → _› _ _ ?_
          clear KP19
          go_cut [15, 16] (fun bv wv wx => (∃ way : Key, wv = .string (str way) ∧ way.length ≤ 100000) ∧ bv = .slice ba N bc ∧ w3 = wx)
          case first =>
            have hsw := HX.out.2
            by_cases hc : 0 < N ∧ 0 < p19
            · rw [decide_eq_true hc]
              obtain ⟨m, rfl⟩ : ∃ m, N = m + 1 := ⟨N - 1, by omega⟩
              have hmW : m < W.length := by have := HN.out; omega
              have hgl : (strs W)[m]? = some (.string (str W[m])) := by simp [strs, hmW]
              obtain ⟨gc, e2, zc, fc⟩ := hcb3.out (by omega)
              subst e2
              have l2 := fc m _ hgl
              have HWl := HWW.out _ (List.getElem_mem hmW)
              generalize W[m] = wl at *
              clear fc hgl HWW HWL HWn hmW hcb3 HN hc
              have em : ((m + 1 : Nat) : Int) - 1 = (m : Int) := by omega
              have wm : IntKind.i64.wrap ((m : Int)) = (m : Int) := by simp [IntKind.wrap, IntKind.min, IntKind.max, IntKind.signed, IntKind.bits]; omega
              go_wp2_with fail
              go_meet
              case rel => exact ⟨⟨wl, rfl, by omega⟩, rfl, rfl⟩
            · rw [decide_eq_false hc]
              go_wp2_with fail
              go_meet
              case rel => exact ⟨⟨sway, rfl, by omega⟩, rfl, rfl⟩
          case rest =>
            obtain ⟨⟨way, rfl, hway⟩, rfl, rfl⟩ := hcut
            refine ‹∀ a w, Code.wp Tryz.prog _ _ a w → _› _ _ ?_
            clear hcb3 HWW HWL HWn HN hN6 x1 x9
            refine Code.wp_mono (Q := Exit.then _ fun _ _ _ => False) (fun e1 a1 w1 h1 => by cases e1 <;> first | exact h1 | exact h1.elim) ?_
            refine fe7b wN w3 bu fb mb gb xb wd o0 la cap i (by omega) L o bar sb HP3.out fr sa st nk npos nl nr nkey nval sway way HX.out.1 hway kx3 _ _ _ _ _ _ _ _ _ _ _ _ _ _ _ _ _ _ _ _ _ _ _ _ _ _ _ _ _ _ _ _ _ _ _ _ _ _ _ _ _ _ _ _ _ _ _ _ _ _ _ _ _ _ _ _ _ _ _ _ _ _ _ _ _ _ _ _ _ _ _ _ _ _ _ _ _ _ _ _ _ _ _ _ _ _ _ _ _ _ _ _ _ _ _ _ _ _ _ _ _ _ _ _ _ _ _ _ _ _ _ _ _ _ _ _ _ _ _ _ _ _ _ _ _ _ _ _ _ _ _ _ _ _ _ _ _ _ _ _ _ _ _ _ _ _ _ _ _ _ _ _ _ _ _ _ _ _ _ _ _ _ _ _ _ _ _ _ _ _ _ _ _ _ _ _ _ _ _ _ _ _ _ _ _ _ _ _ _ _ _ _ _ _ _ _ _ _ _ _ _ _ _ _ _ _ _ _ _ _ _ _ _ _ _ _ _ _ ?_
            intro v6 v17 v18 v19 v20 v143 v144 v145 v146 v147 v148 v149 v150 v151 v152 v153 v154 v155 v156 v157 v158 v159 v160 v161 v162 v163 v164 v165 v166 v167 v168 v169 v170 v171 v172 v173 v174 v175 v176 v177 v178 v179 v180 v181 v182 v183 v184 v185 v186 v187 v188 v189 v190 v191 v192 w4 hPr
            obtain ⟨L', o', bar', sb', hPr⟩ := hPr
            have HPF : Hid (Pr wN bu fb mb gb wd o0 la cap (i + 1) L' o' bar' sb' w4) := hPr
            clear hPr HP3 kx3 HX HS HIN H8
            dsimp only [Exit.then]
            go_wp2
            exact ⟨⟨i + 1, L', o', bar', sb', by omega, by go_num, HPF⟩, by simp [intOf]; omega⟩
end Go.Proofs.YtmhllihedejehaaGreat
