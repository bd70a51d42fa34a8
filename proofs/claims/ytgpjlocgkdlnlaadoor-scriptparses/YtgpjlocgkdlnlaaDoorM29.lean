/- The answer's lexer: digits. -/
import Derived.Test.YtgpjlocgkdlnlaaDoorSRnxl

namespace Go.Proofs.YtgpjlocgkdlnlaaDoor
open Go.RowKit
set_option linter.unusedVariables false
set_option linter.unusedSimpArgs false

theorem u8sub {c : UInt8} (h : isD c = true) : IntKind.u8.wrap ((c.toNat : Int) - 48) = (c.toNat : Int) - 48 := by
  have := isD_range h
  simp [IntKind.wrap, IntKind.min, IntKind.max, IntKind.signed, IntKind.bits]
  omega
theorem take_snoc {l : Key} {i j : Nat} {c : UInt8} (h : l[j]? = some c) (hij : i ≤ j) : (l.take (j + 1)).drop i = (l.take j).drop i ++ [c] := by
  obtain ⟨h1, h2⟩ := List.getElem?_eq_some_iff.1 h
  rw [List.take_add_one, h, List.drop_append_of_le_length (by rw [List.length_take]; omega)]
  rfl
set_option maxRecDepth 8000 in
set_option maxHeartbeats 3200000 in
theorem num_loop {Q : Exit → Act → World → Prop} {A : Act} {w : World} (text : Key) (c : C4) (b at_ : Nat) (kd : Int) (tx : Key) (n lv : Int) (kb : Blk w b (pC text at_ kd tx n lv 0 c) 43) (hlen : text.length ≤ 2048) (i : Nat) (hi : i ≤ text.length) (F : Fm 273 [(3, .int .i64 (i : Nat)), (5, .int .i64 0), (2, .int .i64 (i : Nat)), (0, ptr b)] A) (hK : ∀ A' (j : Nat) (nv : Int), Fm 273 [(3, .int .i64 (j : Nat)), (5, .int .i64 nv), (2, .int .i64 (i : Nat)), (0, ptr b)] A' → i ≤ j → j ≤ text.length → spanN isD (text.drop i) = j - i → nv = dsat ((text.take j).drop i) → (∀ c ∈ (text.take j).drop i, isD c = true) → Q .normal A' w) : (blkOf Tryd.f10 9).wp Tryd.prog Q A w := by
  refine wp_block ?_
  refine wp_loop (fun A wv => wv = w ∧ ∃ (j : Nat) (nv : Int), i ≤ j ∧ j ≤ text.length ∧ Fm 273 [(3, .int .i64 (j : Nat)), (5, .int .i64 nv), (2, .int .i64 (i : Nat)), (0, ptr b)] A ∧ spanN isD (text.drop i) = (j - i) + spanN isD (text.drop j) ∧ 0 ≤ nv ∧ nv ≤ 10995116277760 ∧ nv = dsat ((text.take j).drop i) ∧ ∀ c ∈ (text.take j).drop i, isD c = true) (fun A _ => text.length - (intOf (A.eval (.tmp 3))).toNat) ?_ ?_
  · exact ⟨rfl, i, 0, Nat.le_refl _, hi, F, by omega, by decide, by decide, by rw [List.drop_eq_nil_of_le (by rw [List.length_take]; omega)]; rfl, by rw [List.drop_eq_nil_of_le (by rw [List.length_take]; omega)]; intro c hc; cases hc⟩
  rintro A w ⟨rfl, j, nv, hij, hj, F, hs, hn0, hn1, hnv, hall⟩
  have hA : A.eval (.tmp 3) = .int .i64 (j : Int) := F.2.2 3 _ rfl
  refine sw_seq ?_
  refine sw_seq ?_
  refine sw_reg ?_
  refine sw_move F ⟨rfl, rfl, rfl⟩ rfl rfl fun A F => ?_
  refine sw_move F ⟨rfl, rfl, rfl⟩ rfl rfl fun A F => ?_
  refine sw_nil F ⟨rfl, rfl, rfl⟩ rfl rfl fun A F => ?_
  refine sw_fld F 0 ⟨rfl, rfl, rfl⟩ rfl (by kernel_rfl) rfl rfl fun A F => ?_
  refine sw_ext F ((kb.cell 0).trans rfl) ⟨rfl, rfl, rfl⟩ rfl (by kernel_rfl) rfl fun A F => ?_
  refine sw_slen F ⟨rfl, rfl, rfl⟩ rfl Tryd.underlying9 rfl fun A F => ?_
  refine sw_lss F ⟨rfl, rfl, rfl⟩ rfl rfl rfl fun A F => ?_
  refine sw_move F ⟨rfl, rfl, rfl⟩ rfl rfl fun A F => ?_
  cases c1 : (decide ((j : Int) < (text.length : Int))) with
  | true =>
    rw [c1] at F
    have hltj : j < text.length := by have := of_decide_eq_true c1; omega
    obtain ⟨chj, hgetj⟩ : ∃ ch, text[j]? = some ch := ⟨_, List.getElem?_eq_getElem hltj⟩
    refine sw_on F 7 rfl rfl rfl rfl rfl ?_
    refine sw_move F ⟨rfl, rfl, rfl⟩ rfl rfl fun A F => ?_
    refine sw_on F 7 rfl rfl rfl rfl rfl ?_
    refine sw_nil F ⟨rfl, rfl, rfl⟩ rfl rfl fun A F => ?_
    refine sw_on F 7 rfl rfl rfl rfl rfl ?_
    refine sw_fld F 0 ⟨rfl, rfl, rfl⟩ rfl (by kernel_rfl) rfl rfl fun A F => ?_
    refine sw_on F 7 rfl rfl rfl rfl rfl ?_
    refine sw_ext F ((kb.cell 0).trans rfl) ⟨rfl, rfl, rfl⟩ rfl (by kernel_rfl) rfl fun A F => ?_
    refine sw_on F 7 rfl rfl rfl rfl rfl ?_
    refine sw_move F ⟨rfl, rfl, rfl⟩ rfl rfl fun A F => ?_
    refine sw_on F 7 rfl rfl rfl rfl rfl ?_
    refine sw_index F ⟨rfl, rfl, rfl⟩ rfl rfl hgetj Tryd.underlying9 rfl fun A F => ?_
    refine sw_on F 7 rfl rfl rfl rfl rfl ?_
    refine sw_callR (by kernel_rfl) (vs := [.int .u8 (chj.toNat : Int)]) (rdigit_any chj _) F ⟨rfl, rfl, rfl⟩ rfl rfl ?_
    rintro e w' ⟨rfl, rfl⟩
    refine ⟨_, rfl, fun A F => ?_⟩
    refine sw_pickT F ⟨rfl, rfl, rfl⟩ rfl rfl rfl fun A F => ?_
    refine sw_end ?_
    show Code.wp _ _ _ _ _
    refine sw_cond F rfl (fun hc2 => ?_) (fun hc2 => ?_)
    · skip
      have hg := hc2
      have hr := isD_range hg
      refine wp_skip ?_
      show Code.wp _ _ _ _ _
      refine wp_block ?_
      refine sw_seq ?_
      refine sw_seq ?_
      refine sw_reg ?_
      refine sw_move F ⟨rfl, rfl, rfl⟩ rfl rfl fun A F => ?_
      refine sw_leq F ⟨rfl, rfl, rfl⟩ rfl rfl rfl fun A F => ?_
      refine sw_end ?_
      show Code.wp _ _ _ _ _
      refine sw_cond F rfl (fun hc3 => ?_) (fun hc3 => ?_)
      · skip
        have hm := hc3
        have hm2 : nv ≤ 1099511627775 := of_decide_eq_true hm
        refine sw_reg ?_
        refine sw_move F ⟨rfl, rfl, rfl⟩ rfl rfl fun A F => ?_
        refine sw_mulw F ⟨rfl, rfl, rfl⟩ rfl rfl rfl fun A F => ?_
        rw [wrapJ (nv * 10) (by omega) (by omega)] at F
        refine sw_move F ⟨rfl, rfl, rfl⟩ rfl rfl fun A F => ?_
        refine sw_nil F ⟨rfl, rfl, rfl⟩ rfl rfl fun A F => ?_
        refine sw_fld F 0 ⟨rfl, rfl, rfl⟩ rfl (by kernel_rfl) rfl rfl fun A F => ?_
        refine sw_ext F ((kb.cell 0).trans rfl) ⟨rfl, rfl, rfl⟩ rfl (by kernel_rfl) rfl fun A F => ?_
        refine sw_move F ⟨rfl, rfl, rfl⟩ rfl rfl fun A F => ?_
        refine sw_index F ⟨rfl, rfl, rfl⟩ rfl rfl hgetj Tryd.underlying9 rfl fun A F => ?_
        refine sw_subw F ⟨rfl, rfl, rfl⟩ rfl rfl rfl fun A F => ?_
        rw [u8sub hg] at F
        refine sw_conv F ⟨rfl, rfl, rfl⟩ rfl (by kernel_rfl) Tryd.underlying3 rfl fun A F => ?_
        rw [wrapJ ((chj.toNat : Int) - 48) (by omega) (by omega)] at F
        refine sw_add F ⟨rfl, rfl, rfl⟩ rfl rfl (by omega) rfl fun A F => ?_
        refine sw_asg F ⟨rfl, rfl, rfl⟩ rfl rfl fun A F => ?_
        refine sw_end ?_
        show Code.wp _ _ _ _ _
        refine sw_reg ?_
        refine sw_move F ⟨rfl, rfl, rfl⟩ rfl rfl fun A F => ?_
        refine sw_add F ⟨rfl, rfl, rfl⟩ rfl rfl (by omega) rfl fun A F => ?_
        refine sw_asg F ⟨rfl, rfl, rfl⟩ rfl rfl fun A F => ?_
        refine sw_end ?_
        show _ ∧ _
        have hs2 := span_at (f := isD) hgetj
        rw [hg, if_pos rfl] at hs2
        have ht := take_snoc hgetj hij
        refine ⟨⟨rfl, j + 1, (nv * 10 + ((chj.toNat : Int) - 48)), by omega, by omega, F.keep [3, 5, 2, 0] rfl, by omega, by omega, by omega, by rw [ht, dsat_snoc, ← hnv, if_pos hm2], by rw [ht]; intro c hc; rcases List.mem_append.1 hc with hc | hc; exact hall c hc; rw [List.mem_singleton.1 hc]; exact hg⟩, ?_⟩
        rw [(F.keep [3, 5, 2, 0] rfl).2.2 3 (.int .i64 ((j + 1 : Nat) : Int)) rfl, hA]
        simp only [intOf]
        omega
      · skip
        have hm := hc3
        have hm2 : ¬ nv ≤ 1099511627775 := of_decide_eq_false hm
        refine wp_skip ?_
        show Code.wp _ _ _ _ _
        refine sw_reg ?_
        refine sw_move F ⟨rfl, rfl, rfl⟩ rfl rfl fun A F => ?_
        refine sw_add F ⟨rfl, rfl, rfl⟩ rfl rfl (by omega) rfl fun A F => ?_
        refine sw_asg F ⟨rfl, rfl, rfl⟩ rfl rfl fun A F => ?_
        refine sw_end ?_
        show _ ∧ _
        have hs2 := span_at (f := isD) hgetj
        rw [hg, if_pos rfl] at hs2
        have ht := take_snoc hgetj hij
        refine ⟨⟨rfl, j + 1, nv, by omega, by omega, F.keep [3, 5, 2, 0] rfl, by omega, by omega, by omega, by rw [ht, dsat_snoc, ← hnv, if_neg hm2], by rw [ht]; intro c hc; rcases List.mem_append.1 hc with hc | hc; exact hall c hc; rw [List.mem_singleton.1 hc]; exact hg⟩, ?_⟩
        rw [(F.keep [3, 5, 2, 0] rfl).2.2 3 (.int .i64 ((j + 1 : Nat) : Int)) rfl, hA]
        simp only [intOf]
        omega
    · skip
      have hg := hc2
      refine wp_exit ?_
      repeat (first | refine then_exit ?_ | refine exit_block ?_ | refine exit_pass rfl ?_)
      exact hK _ j nv (F.keep [3, 5, 2, 0] rfl) hij hj (by first | (have := span_end (f := isD) hgej; omega) | (have := span_at (f := isD) hgetj; rw [hg, if_neg Bool.false_ne_true] at this; omega)) hnv hall
  | false =>
    rw [c1] at F
    have hgej : text.length ≤ j := by have := of_decide_eq_false c1; omega
    refine sw_off F 7 rfl rfl rfl rfl rfl rfl rfl fun A F => ?_
    refine sw_off F 7 rfl rfl rfl rfl rfl rfl rfl fun A F => ?_
    refine sw_off F 7 rfl rfl rfl rfl rfl rfl rfl fun A F => ?_
    refine sw_off F 7 rfl rfl rfl rfl rfl rfl rfl fun A F => ?_
    refine sw_off F 7 rfl rfl rfl rfl rfl rfl rfl fun A F => ?_
    refine sw_off F 7 rfl rfl rfl rfl rfl rfl rfl fun A F => ?_
    refine sw_off F 7 rfl rfl rfl rfl rfl rfl rfl fun A F => ?_
    refine sw_pickF F ⟨rfl, rfl, rfl⟩ rfl rfl rfl fun A F => ?_
    refine sw_end ?_
    show Code.wp _ _ _ _ _
    refine sw_false F rfl ?_
    refine wp_exit ?_
    repeat (first | refine then_exit ?_ | refine exit_block ?_ | refine exit_pass rfl ?_)
    exact hK _ j nv (F.keep [3, 5, 2, 0] rfl) hij hj (by first | (have := span_end (f := isD) hgej; omega) | (have := span_at (f := isD) hgetj; rw [hg, if_neg Bool.false_ne_true] at this; omega)) hnv hall
end Go.Proofs.YtgpjlocgkdlnlaaDoor

namespace Go.Proofs.YtgpjlocgkdlnlaaDoor
open Go.RowKit
set_option linter.unusedVariables false
set_option linter.unusedSimpArgs false

section
variable {P : Program} {md : Region.Mode} {ops : Array Oper} {Q : Exit → Act → World → Prop} {S : World → Prop} {a : Act} {w w0 : World} {o : Oper} {N m : Nat} {L : List (Nat × Value)} {fuel : Nat} {listed : Array Bool}
theorem sd_asg (F : Fm N L a) (i : Nat) {d : Nat} {x : Operand} {v : Value} (hi : ops[i]? = some o) (h : Is o (some d) (.assign x)) (hv : opv L x = some v) (hs : Region.noSelect ops = true) (hf : Region.free md ops listed i = true) (hr : (Region.ready md ops listed).contains i = true) (hQ : ∀ c a w, Q (.panic c) (a.put (some d) v) w → Q (.panic c) a w)
    (hb : Nat.blt d N = true) (hS : S w) (K : ∀ a', Fm N ((d, v) :: L) a' → wpAnyH P md ops Q S fuel (listed.setIfInBounds i true) a' w) : wpAnyH P md ops Q S (fuel + 1) listed a w :=
  sd_val F i hi hs hf hr hQ h.1 h.2.2 hb (fun w _ => by unfold execOp; rw [h.2.1]; simp only [F.ev hv]; rfl) hS K
theorem sd_at (F : Fm N L a) (j sz : Nat) {i : Nat} {x y : Operand} {t e : TypeId} {rb ro n c k : Nat} (hj : ops[j]? = some o) (h : Is o (some i) (.indexAddr t x y)) (hx : opv L x = some (.slice (some ⟨rb, ro, none⟩) n c)) (hy : opv L y = some (.int .i64 k)) (hk : k < n) (hu : P.underlying t = some (.slice e)) (hz : (P.info? e).map (·.size) = some sz) (hs : Region.noSelect ops = true) (hf : Region.free md ops listed j = true) (hr : (Region.ready md ops listed).contains j = true) (hQ : ∀ c a w, Q (.panic c) (a.put (some i) (.pointer (some ⟨rb, ro + k * sz, none⟩))) w → Q (.panic c) a w)
    (hb : Nat.blt i N = true) (hS : S w) (K : ∀ a', Fm N ((i, .pointer (some ⟨rb, ro + k * sz, none⟩)) :: L) a' → wpAnyH P md ops Q S fuel (listed.setIfInBounds j true) a' w) : wpAnyH P md ops Q S (fuel + 1) listed a w :=
  sd_val F j hj hs hf hr hQ h.1 h.2.2 hb (fun w _ => by
    unfold execOp
    rw [h.2.1]
    simp only [F.ev hx, F.ev hy]
    cases hi : P.info? e with
    | none => rw [hi] at hz; cases hz
    | some i =>
      have hz : i.size = sz := by rw [hi] at hz; simpa using hz
      simp [Instr.indexAt, run_underlying hu, asIntOf, sizeOf, typeInfo, hi, hz, hk, Addr.add_lit]) hS K
theorem sd_slice1 (F : Fm N L a) (j : Nat) {i t : Nat} {x lo : Operand} {s : Key} {l : Nat} (hj : ops[j]? = some o) (h : Is o (some i) (.slice t x (some lo) none none)) (h1 : opv L x = some (.string (str s))) (h2 : opv L lo = some (.int .i64 l)) (hlr : l ≤ s.length) (hu : P.underlying t = some .string) (hs : Region.noSelect ops = true) (hf : Region.free md ops listed j = true) (hr : (Region.ready md ops listed).contains j = true) (hQ : ∀ c a w, Q (.panic c) (a.put (some i) (.string (str (s.drop l)))) w → Q (.panic c) a w)
    (hb : Nat.blt i N = true) (hS : S w) (K : ∀ a', Fm N ((i, .string (str (s.drop l))) :: L) a' → wpAnyH P md ops Q S fuel (listed.setIfInBounds j true) a' w) : wpAnyH P md ops Q S (fuel + 1) listed a w :=
  sd_val F j hj hs hf hr hQ h.1 h.2.2 hb (fun w _ => by
    have e := ext_both s l s.length hlr (Nat.le_refl _)
    rw [List.take_length] at e
    unfold execOp; rw [h.2.1]
    simp [F.ev h1, F.ev h2, Instr.sliceAt, Instr.slice, Instr.sliceBounds, Instr.sliceBound, asIntOf, run_underlying hu, str_size, hlr, e]) hS K
theorem sd_slice2 (F : Fm N L a) (j : Nat) {i t : Nat} {x lo hi : Operand} {s : Key} {l r : Nat} (hj : ops[j]? = some o) (h : Is o (some i) (.slice t x (some lo) (some hi) none)) (h1 : opv L x = some (.string (str s))) (h2 : opv L lo = some (.int .i64 l)) (h3 : opv L hi = some (.int .i64 r)) (hlr : l ≤ r ∧ r ≤ s.length) (hu : P.underlying t = some .string) (hs : Region.noSelect ops = true) (hf : Region.free md ops listed j = true) (hr : (Region.ready md ops listed).contains j = true) (hQ : ∀ c a w, Q (.panic c) (a.put (some i) (.string (str ((s.take r).drop l)))) w → Q (.panic c) a w)
    (hb : Nat.blt i N = true) (hS : S w) (K : ∀ a', Fm N ((i, .string (str ((s.take r).drop l))) :: L) a' → wpAnyH P md ops Q S fuel (listed.setIfInBounds j true) a' w) : wpAnyH P md ops Q S (fuel + 1) listed a w :=
  sd_val F j hj hs hf hr hQ h.1 h.2.2 hb (fun w _ => by
    unfold execOp; rw [h.2.1]
    simp [F.ev h1, F.ev h2, F.ev h3, Instr.sliceAt, Instr.slice, Instr.sliceBounds, Instr.sliceBound, asIntOf, run_underlying hu, str_size, hlr.1, hlr.2, ext_both s l r hlr.1 hlr.2]) hS K
end
end Go.Proofs.YtgpjlocgkdlnlaaDoor
