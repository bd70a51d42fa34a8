/- The answer's lexer: gaps, names. -/
import Derived.Test.YtgpjlocgkdlnlaaDoorM27
namespace Go.Proofs.YtgpjlocgkdlnlaaDoor
open Go.RowKit
set_option linter.unusedVariables false
set_option linter.unusedSimpArgs false

set_option maxRecDepth 8000 in
set_option maxHeartbeats 3200000 in
theorem rem_loop {Q : Exit → Act → World → Prop} {A : Act} {w : World} (text : Key) (c : C4) (b at_ : Nat) (kd : Int) (tx : Key) (n lv : Int) (kb : Blk w b (pC text at_ kd tx n lv 0 c) 43) (hlen : text.length ≤ 2048) (i0 : Nat) (hi0 : i0 ≤ text.length) (F : Fm 273 [(2, .int .i64 (i0 : Nat)), (0, ptr b)] A) (hK : ∀ A' (i : Nat), Fm 273 [(2, .int .i64 (i : Nat)), (0, ptr b)] A' → i ≤ text.length → gap true (text.drop i0) = gap false (text.drop i) → i0 ≤ i → (text.length ≤ i ∨ ∃ ch, text[i]? = some ch ∧ ch.toNat = 10) → Q .normal A' w) : (blkOf Tryd.f10 2).wp Tryd.prog Q A w := by
  refine wp_block ?_
  refine wp_loop (fun A wv => wv = w ∧ ∃ i : Nat, i0 ≤ i ∧ i ≤ text.length ∧ Fm 273 [(2, .int .i64 (i : Nat)), (0, ptr b)] A ∧ gap true (text.drop i0) = gap true (text.drop i)) (fun A _ => text.length - (intOf (A.eval (.tmp 2))).toNat) ?_ ?_
  · exact ⟨rfl, i0, Nat.le_refl _, hi0, F, rfl⟩
  rintro A w ⟨rfl, i, h0, hi, F, hgap⟩
  have hA : A.eval (.tmp 2) = .int .i64 (i : Int) := F.2.2 2 _ rfl
  refine sw_seq ?_
  refine sw_seq ?_
  refine sw_reg ?_
  refine sw_move F ⟨rfl, rfl, rfl⟩ rfl rfl fun A F => ?_
  refine sw_move F ⟨rfl, rfl, rfl⟩ rfl rfl fun A F => ?_
  refine sw_nil F ⟨rfl, rfl, rfl⟩ rfl rfl fun A F => ?_
  refine sw_fld F 0 ⟨rfl, rfl, rfl⟩ rfl (by kernel_rfl) rfl rfl fun A F => ?_
  refine sw_ext F ((kb.cell 0).trans rfl) ⟨rfl, rfl, rfl⟩ rfl (by kernel_rfl) rfl fun A F => ?_
  refine sw_slen F ⟨rfl, rfl, rfl⟩ rfl Tryd.underlying9 rfl fun A F => ?_
  refine sw_lss F ⟨rfl, rfl, rfl⟩ rfl rfl rfl fun A F => ?_
  refine sw_move F ⟨rfl, rfl, rfl⟩ rfl rfl fun A F => ?_
  cases c1 : (decide ((i : Int) < (text.length : Int))) with
  | true =>
    rw [c1] at F
    have hlti : i < text.length := by have := of_decide_eq_true c1; omega
    obtain ⟨chi, hgeti⟩ : ∃ ch, text[i]? = some ch := ⟨_, List.getElem?_eq_getElem hlti⟩
    refine sw_on F 7 rfl rfl rfl rfl rfl ?_
    refine sw_move F ⟨rfl, rfl, rfl⟩ rfl rfl fun A F => ?_
    refine sw_on F 7 rfl rfl rfl rfl rfl ?_
    refine sw_nil F ⟨rfl, rfl, rfl⟩ rfl rfl fun A F => ?_
    refine sw_on F 7 rfl rfl rfl rfl rfl ?_
    refine sw_fld F 0 ⟨rfl, rfl, rfl⟩ rfl (by kernel_rfl) rfl rfl fun A F => ?_
    refine sw_on F 7 rfl rfl rfl rfl rfl ?_
    refine sw_ext F ((kb.cell 0).trans rfl) ⟨rfl, rfl, rfl⟩ rfl (by kernel_rfl) rfl fun A F => ?_
    refine sw_on F 7 rfl rfl rfl rfl rfl ?_
    refine sw_move F ⟨rfl, rfl, rfl⟩ rfl rfl fun A F => ?_
    refine sw_on F 7 rfl rfl rfl rfl rfl ?_
    refine sw_index F ⟨rfl, rfl, rfl⟩ rfl rfl hgeti Tryd.underlying9 rfl fun A F => ?_
    refine sw_on F 7 rfl rfl rfl rfl rfl ?_
    refine sw_neq F ⟨rfl, rfl, rfl⟩ rfl rfl rfl fun A F => ?_
    refine sw_pickT F ⟨rfl, rfl, rfl⟩ rfl rfl rfl fun A F => ?_
    refine sw_end ?_
    show Code.wp _ _ _ _ _
    refine sw_cond F rfl (fun hc2 => ?_) (fun hc2 => ?_)
    · skip
      have n10chi : (((chi.toNat : Int)) == 10) = false := by have := hc2; simpa [bne] using this
      refine wp_skip ?_
      show Code.wp _ _ _ _ _
      refine wp_block ?_
      refine sw_reg ?_
      refine sw_move F ⟨rfl, rfl, rfl⟩ rfl rfl fun A F => ?_
      refine sw_add F ⟨rfl, rfl, rfl⟩ rfl rfl (by omega) rfl fun A F => ?_
      refine sw_asg F ⟨rfl, rfl, rfl⟩ rfl rfl fun A F => ?_
      refine sw_end ?_
      show _ ∧ _
      refine ⟨⟨rfl, i + 1, by omega, by omega, F.keep [2, 0] rfl, by rw [hgap]; exact gap_on hgeti (byte_ne n10chi)⟩, ?_⟩
      rw [(F.keep [2, 0] rfl).2.2 2 (.int .i64 ((i + 1 : Nat) : Int)) rfl, hA]
      simp only [intOf]
      omega
    · skip
      have h10chi : (((chi.toNat : Int)) == 10) = true := by have := hc2; simpa [bne] using this
      refine wp_exit ?_
      repeat (first | refine then_exit ?_ | refine exit_block ?_ | refine exit_pass rfl ?_)
      exact hK _ i (F.keep [2, 0] rfl) hi (by rw [hgap]; first | exact gap_same hgei | exact gap_nl hgeti (byte_eq h10chi)) h0 (by first | exact .inl hgei | exact .inr ⟨chi, hgeti, byte_eq h10chi⟩)
  | false =>
    rw [c1] at F
    have hgei : text.length ≤ i := by have := of_decide_eq_false c1; omega
    refine sw_off F 7 rfl rfl rfl rfl rfl rfl rfl fun A F => ?_
    refine sw_off F 7 rfl rfl rfl rfl rfl rfl rfl fun A F => ?_
    refine sw_off F 7 rfl rfl rfl rfl rfl rfl rfl fun A F => ?_
    refine sw_off F 7 rfl rfl rfl rfl rfl rfl rfl fun A F => ?_
    refine sw_off F 7 rfl rfl rfl rfl rfl rfl rfl fun A F => ?_
    refine sw_off F 7 rfl rfl rfl rfl rfl rfl rfl fun A F => ?_
    refine sw_off F 7 rfl rfl rfl rfl rfl rfl rfl fun A F => ?_
    refine sw_pickF F ⟨rfl, rfl, rfl⟩ rfl rfl rfl fun A F => ?_
    refine sw_end ?_
    show Code.wp _ _ _ _ _
    refine sw_false F rfl ?_
    refine wp_exit ?_
    repeat (first | refine then_exit ?_ | refine exit_block ?_ | refine exit_pass rfl ?_)
    exact hK _ i (F.keep [2, 0] rfl) hi (by rw [hgap]; first | exact gap_same hgei | exact gap_nl hgeti (byte_eq h10chi)) h0 (by first | exact .inl hgei | exact .inr ⟨chi, hgeti, byte_eq h10chi⟩)
theorem gap_hash {l : Key} {i : Nat} {c : UInt8} (h : l[i]? = some c) (hc : c.toNat = 35) : gap false (l.drop i) = gap true (l.drop i) := by
  rw [gap_rem h hc, gap_on h (by omega)]
theorem rem_more {l : Key} {i i2 : Nat} {c : UInt8} (h : l[i]? = some c) (hc : c.toNat = 35) (hle : i ≤ i2) (hx : l.length ≤ i2 ∨ ∃ ch, l[i2]? = some ch ∧ ch.toNat = 10) : i < i2 := by
  by_cases e : i2 = i
  · subst e
    have hl := (List.getElem?_eq_some_iff.1 h).1
    rcases hx with hx | ⟨ch, h1, h2⟩
    · omega
    · rw [h] at h1
      injection h1 with h1
      subst h1
      omega
  · omega
set_option maxRecDepth 8000 in
set_option maxHeartbeats 3200000 in
theorem gap_loop {Q : Exit → Act → World → Prop} {A : Act} {w : World} (text : Key) (c : C4) (b at_ : Nat) (kd : Int) (tx : Key) (n lv : Int) (kb : Blk w b (pC text at_ kd tx n lv 0 c) 43) (hlen : text.length ≤ 2048) (i0 : Nat) (hi0 : i0 ≤ text.length) (F : Fm 273 [(2, .int .i64 (i0 : Nat)), (0, ptr b)] A) (hK : ∀ A' (i : Nat), Fm 273 [(2, .int .i64 (i : Nat)), (0, ptr b)] A' → i ≤ text.length → gap false (text.drop i0) = gap false (text.drop i) → (text.length ≤ i ∨ ∃ ch, text[i]? = some ch ∧ ch.toNat ≠ 32 ∧ ch.toNat ≠ 10 ∧ ch.toNat ≠ 35) → Q .normal A' w) : (blkOf Tryd.f10 0).wp Tryd.prog Q A w := by
  refine wp_block ?_
  refine wp_loop (fun A wv => wv = w ∧ ∃ i : Nat, i ≤ text.length ∧ Fm 273 [(2, .int .i64 (i : Nat)), (0, ptr b)] A ∧ gap false (text.drop i0) = gap false (text.drop i)) (fun A _ => text.length - (intOf (A.eval (.tmp 2))).toNat) ?_ ?_
  · exact ⟨rfl, i0, hi0, F, rfl⟩
  rintro A w ⟨rfl, i, hi, F, hgap⟩
  have hA : A.eval (.tmp 2) = .int .i64 (i : Int) := F.2.2 2 _ rfl
  refine sw_seq ?_
  refine sw_seq ?_
  refine sw_reg ?_
  refine sw_move F ⟨rfl, rfl, rfl⟩ rfl rfl fun A F => ?_
  refine sw_move F ⟨rfl, rfl, rfl⟩ rfl rfl fun A F => ?_
  refine sw_nil F ⟨rfl, rfl, rfl⟩ rfl rfl fun A F => ?_
  refine sw_fld F 0 ⟨rfl, rfl, rfl⟩ rfl (by kernel_rfl) rfl rfl fun A F => ?_
  refine sw_ext F ((kb.cell 0).trans rfl) ⟨rfl, rfl, rfl⟩ rfl (by kernel_rfl) rfl fun A F => ?_
  refine sw_slen F ⟨rfl, rfl, rfl⟩ rfl Tryd.underlying9 rfl fun A F => ?_
  refine sw_lss F ⟨rfl, rfl, rfl⟩ rfl rfl rfl fun A F => ?_
  refine sw_move F ⟨rfl, rfl, rfl⟩ rfl rfl fun A F => ?_
  cases c1 : (decide ((i : Int) < (text.length : Int))) with
  | true =>
    rw [c1] at F
    have hlti : i < text.length := by have := of_decide_eq_true c1; omega
    obtain ⟨chi, hgeti⟩ : ∃ ch, text[i]? = some ch := ⟨_, List.getElem?_eq_getElem hlti⟩
    refine sw_on F 7 rfl rfl rfl rfl rfl ?_
    refine sw_move F ⟨rfl, rfl, rfl⟩ rfl rfl fun A F => ?_
    refine sw_on F 7 rfl rfl rfl rfl rfl ?_
    refine sw_nil F ⟨rfl, rfl, rfl⟩ rfl rfl fun A F => ?_
    refine sw_on F 7 rfl rfl rfl rfl rfl ?_
    refine sw_fld F 0 ⟨rfl, rfl, rfl⟩ rfl (by kernel_rfl) rfl rfl fun A F => ?_
    refine sw_on F 7 rfl rfl rfl rfl rfl ?_
    refine sw_ext F ((kb.cell 0).trans rfl) ⟨rfl, rfl, rfl⟩ rfl (by kernel_rfl) rfl fun A F => ?_
    refine sw_on F 7 rfl rfl rfl rfl rfl ?_
    refine sw_move F ⟨rfl, rfl, rfl⟩ rfl rfl fun A F => ?_
    refine sw_on F 7 rfl rfl rfl rfl rfl ?_
    refine sw_index F ⟨rfl, rfl, rfl⟩ rfl rfl hgeti Tryd.underlying9 rfl fun A F => ?_
    refine sw_on F 7 rfl rfl rfl rfl rfl ?_
    refine sw_eql F ⟨rfl, rfl, rfl⟩ rfl rfl rfl fun A F => ?_
    refine sw_on F 7 rfl rfl rfl rfl rfl ?_
    refine sw_move F ⟨rfl, rfl, rfl⟩ rfl rfl fun A F => ?_
    cases c2 : ((chi.toNat : Int) == 32) with
    | true =>
      rw [c2] at F
      have h32chi := c2
      refine sw_off F 15 rfl rfl rfl rfl rfl rfl rfl fun A F => ?_
      refine sw_off F 15 rfl rfl rfl rfl rfl rfl rfl fun A F => ?_
      refine sw_off F 15 rfl rfl rfl rfl rfl rfl rfl fun A F => ?_
      refine sw_off F 15 rfl rfl rfl rfl rfl rfl rfl fun A F => ?_
      refine sw_off F 15 rfl rfl rfl rfl rfl rfl rfl fun A F => ?_
      refine sw_off F 15 rfl rfl rfl rfl rfl rfl rfl fun A F => ?_
      refine sw_off F 15 rfl rfl rfl rfl rfl rfl rfl fun A F => ?_
      refine sw_on F 7 rfl rfl rfl rfl rfl ?_
      refine sw_pickT F ⟨rfl, rfl, rfl⟩ rfl rfl rfl fun A F => ?_
      refine sw_on F 7 rfl rfl rfl rfl rfl ?_
      refine sw_move F ⟨rfl, rfl, rfl⟩ rfl rfl fun A F => ?_
      refine sw_off F 24 rfl rfl rfl rfl rfl rfl rfl fun A F => ?_
      refine sw_off F 24 rfl rfl rfl rfl rfl rfl rfl fun A F => ?_
      refine sw_off F 24 rfl rfl rfl rfl rfl rfl rfl fun A F => ?_
      refine sw_off F 24 rfl rfl rfl rfl rfl rfl rfl fun A F => ?_
      refine sw_off F 24 rfl rfl rfl rfl rfl rfl rfl fun A F => ?_
      refine sw_off F 24 rfl rfl rfl rfl rfl rfl rfl fun A F => ?_
      refine sw_off F 24 rfl rfl rfl rfl rfl rfl rfl fun A F => ?_
      refine sw_on F 7 rfl rfl rfl rfl rfl ?_
      refine sw_pickT F ⟨rfl, rfl, rfl⟩ rfl rfl rfl fun A F => ?_
      refine sw_pickT F ⟨rfl, rfl, rfl⟩ rfl rfl rfl fun A F => ?_
      refine sw_end ?_
      show Code.wp _ _ _ _ _
      refine sw_true F rfl ?_
      refine wp_skip ?_
      show Code.wp _ _ _ _ _
      refine wp_block ?_
      refine sw_seq ?_
      refine sw_reg ?_
      refine sw_move F ⟨rfl, rfl, rfl⟩ rfl rfl fun A F => ?_
      refine sw_nil F ⟨rfl, rfl, rfl⟩ rfl rfl fun A F => ?_
      refine sw_fld F 0 ⟨rfl, rfl, rfl⟩ rfl (by kernel_rfl) rfl rfl fun A F => ?_
      refine sw_ext F ((kb.cell 0).trans rfl) ⟨rfl, rfl, rfl⟩ rfl (by kernel_rfl) rfl fun A F => ?_
      refine sw_move F ⟨rfl, rfl, rfl⟩ rfl rfl fun A F => ?_
      refine sw_index F ⟨rfl, rfl, rfl⟩ rfl rfl hgeti Tryd.underlying9 rfl fun A F => ?_
      refine sw_eql F ⟨rfl, rfl, rfl⟩ rfl rfl rfl fun A F => ?_
      rw [show ((chi.toNat : Int) == 35) = false from by rw [byte_eq h32chi]; rfl] at F
      refine sw_end ?_
      show Code.wp _ _ _ _ _
      refine sw_false F rfl ?_
      refine sw_reg ?_
      refine sw_move F ⟨rfl, rfl, rfl⟩ rfl rfl fun A F => ?_
      refine sw_add F ⟨rfl, rfl, rfl⟩ rfl rfl (by omega) rfl fun A F => ?_
      refine sw_asg F ⟨rfl, rfl, rfl⟩ rfl rfl fun A F => ?_
      refine sw_end ?_
      show _ ∧ _
      refine ⟨⟨rfl, i + 1, by omega, F.keep [2, 0] rfl, by rw [hgap]; first | exact gap_blank hgeti (.inl (byte_eq h32chi)) | exact gap_blank hgeti (.inr (byte_eq h10chi))⟩, ?_⟩
      rw [(F.keep [2, 0] rfl).2.2 2 (.int .i64 ((i + 1 : Nat) : Int)) rfl, hA]
      simp only [intOf]
      omega
    | false =>
      rw [c2] at F
      have n32chi := c2
      refine sw_on F 15 rfl rfl rfl rfl rfl ?_
      refine sw_move F ⟨rfl, rfl, rfl⟩ rfl rfl fun A F => ?_
      refine sw_on F 15 rfl rfl rfl rfl rfl ?_
      refine sw_nil F ⟨rfl, rfl, rfl⟩ rfl rfl fun A F => ?_
      refine sw_on F 15 rfl rfl rfl rfl rfl ?_
      refine sw_fld F 0 ⟨rfl, rfl, rfl⟩ rfl (by kernel_rfl) rfl rfl fun A F => ?_
      refine sw_on F 15 rfl rfl rfl rfl rfl ?_
      refine sw_ext F ((kb.cell 0).trans rfl) ⟨rfl, rfl, rfl⟩ rfl (by kernel_rfl) rfl fun A F => ?_
      refine sw_on F 15 rfl rfl rfl rfl rfl ?_
      refine sw_move F ⟨rfl, rfl, rfl⟩ rfl rfl fun A F => ?_
      refine sw_on F 15 rfl rfl rfl rfl rfl ?_
      refine sw_index F ⟨rfl, rfl, rfl⟩ rfl rfl hgeti Tryd.underlying9 rfl fun A F => ?_
      refine sw_on F 15 rfl rfl rfl rfl rfl ?_
      refine sw_eql F ⟨rfl, rfl, rfl⟩ rfl rfl rfl fun A F => ?_
      refine sw_on F 7 rfl rfl rfl rfl rfl ?_
      refine sw_pickF F ⟨rfl, rfl, rfl⟩ rfl rfl rfl fun A F => ?_
      refine sw_on F 7 rfl rfl rfl rfl rfl ?_
      refine sw_move F ⟨rfl, rfl, rfl⟩ rfl rfl fun A F => ?_
      cases c3 : ((chi.toNat : Int) == 10) with
      | true =>
        rw [c3] at F
        have h10chi := c3
        refine sw_off F 24 rfl rfl rfl rfl rfl rfl rfl fun A F => ?_
        refine sw_off F 24 rfl rfl rfl rfl rfl rfl rfl fun A F => ?_
        refine sw_off F 24 rfl rfl rfl rfl rfl rfl rfl fun A F => ?_
        refine sw_off F 24 rfl rfl rfl rfl rfl rfl rfl fun A F => ?_
        refine sw_off F 24 rfl rfl rfl rfl rfl rfl rfl fun A F => ?_
        refine sw_off F 24 rfl rfl rfl rfl rfl rfl rfl fun A F => ?_
        refine sw_off F 24 rfl rfl rfl rfl rfl rfl rfl fun A F => ?_
        refine sw_on F 7 rfl rfl rfl rfl rfl ?_
        refine sw_pickT F ⟨rfl, rfl, rfl⟩ rfl rfl rfl fun A F => ?_
        refine sw_pickT F ⟨rfl, rfl, rfl⟩ rfl rfl rfl fun A F => ?_
        refine sw_end ?_
        show Code.wp _ _ _ _ _
        refine sw_true F rfl ?_
        refine wp_skip ?_
        show Code.wp _ _ _ _ _
        refine wp_block ?_
        refine sw_seq ?_
        refine sw_reg ?_
        refine sw_move F ⟨rfl, rfl, rfl⟩ rfl rfl fun A F => ?_
        refine sw_nil F ⟨rfl, rfl, rfl⟩ rfl rfl fun A F => ?_
        refine sw_fld F 0 ⟨rfl, rfl, rfl⟩ rfl (by kernel_rfl) rfl rfl fun A F => ?_
        refine sw_ext F ((kb.cell 0).trans rfl) ⟨rfl, rfl, rfl⟩ rfl (by kernel_rfl) rfl fun A F => ?_
        refine sw_move F ⟨rfl, rfl, rfl⟩ rfl rfl fun A F => ?_
        refine sw_index F ⟨rfl, rfl, rfl⟩ rfl rfl hgeti Tryd.underlying9 rfl fun A F => ?_
        refine sw_eql F ⟨rfl, rfl, rfl⟩ rfl rfl rfl fun A F => ?_
        rw [show ((chi.toNat : Int) == 35) = false from by rw [byte_eq h10chi]; rfl] at F
        refine sw_end ?_
        show Code.wp _ _ _ _ _
        refine sw_false F rfl ?_
        refine sw_reg ?_
        refine sw_move F ⟨rfl, rfl, rfl⟩ rfl rfl fun A F => ?_
        refine sw_add F ⟨rfl, rfl, rfl⟩ rfl rfl (by omega) rfl fun A F => ?_
        refine sw_asg F ⟨rfl, rfl, rfl⟩ rfl rfl fun A F => ?_
        refine sw_end ?_
        show _ ∧ _
        refine ⟨⟨rfl, i + 1, by omega, F.keep [2, 0] rfl, by rw [hgap]; first | exact gap_blank hgeti (.inl (byte_eq h32chi)) | exact gap_blank hgeti (.inr (byte_eq h10chi))⟩, ?_⟩
        rw [(F.keep [2, 0] rfl).2.2 2 (.int .i64 ((i + 1 : Nat) : Int)) rfl, hA]
        simp only [intOf]
        omega
      | false =>
        rw [c3] at F
        have n10chi := c3
        refine sw_on F 24 rfl rfl rfl rfl rfl ?_
        refine sw_move F ⟨rfl, rfl, rfl⟩ rfl rfl fun A F => ?_
        refine sw_on F 24 rfl rfl rfl rfl rfl ?_
        refine sw_nil F ⟨rfl, rfl, rfl⟩ rfl rfl fun A F => ?_
        refine sw_on F 24 rfl rfl rfl rfl rfl ?_
        refine sw_fld F 0 ⟨rfl, rfl, rfl⟩ rfl (by kernel_rfl) rfl rfl fun A F => ?_
        refine sw_on F 24 rfl rfl rfl rfl rfl ?_
        refine sw_ext F ((kb.cell 0).trans rfl) ⟨rfl, rfl, rfl⟩ rfl (by kernel_rfl) rfl fun A F => ?_
        refine sw_on F 24 rfl rfl rfl rfl rfl ?_
        refine sw_move F ⟨rfl, rfl, rfl⟩ rfl rfl fun A F => ?_
        refine sw_on F 24 rfl rfl rfl rfl rfl ?_
        refine sw_index F ⟨rfl, rfl, rfl⟩ rfl rfl hgeti Tryd.underlying9 rfl fun A F => ?_
        refine sw_on F 24 rfl rfl rfl rfl rfl ?_
        refine sw_eql F ⟨rfl, rfl, rfl⟩ rfl rfl rfl fun A F => ?_
        refine sw_on F 7 rfl rfl rfl rfl rfl ?_
        refine sw_pickF F ⟨rfl, rfl, rfl⟩ rfl rfl rfl fun A F => ?_
        refine sw_pickT F ⟨rfl, rfl, rfl⟩ rfl rfl rfl fun A F => ?_
        refine sw_end ?_
        show Code.wp _ _ _ _ _
        refine sw_cond F rfl (fun hc4 => ?_) (fun hc4 => ?_)
        · skip
          have h35chi := hc4
          refine wp_skip ?_
          show Code.wp _ _ _ _ _
          refine wp_block ?_
          refine sw_seq ?_
          refine sw_reg ?_
          refine sw_move F ⟨rfl, rfl, rfl⟩ rfl rfl fun A F => ?_
          refine sw_nil F ⟨rfl, rfl, rfl⟩ rfl rfl fun A F => ?_
          refine sw_fld F 0 ⟨rfl, rfl, rfl⟩ rfl (by kernel_rfl) rfl rfl fun A F => ?_
          refine sw_ext F ((kb.cell 0).trans rfl) ⟨rfl, rfl, rfl⟩ rfl (by kernel_rfl) rfl fun A F => ?_
          refine sw_move F ⟨rfl, rfl, rfl⟩ rfl rfl fun A F => ?_
          refine sw_index F ⟨rfl, rfl, rfl⟩ rfl rfl hgeti Tryd.underlying9 rfl fun A F => ?_
          refine sw_eql F ⟨rfl, rfl, rfl⟩ rfl rfl rfl fun A F => ?_
          rw [show ((chi.toNat : Int) == 35) = true from by rw [byte_eq h35chi]; rfl] at F
          refine sw_end ?_
          show Code.wp _ _ _ _ _
          refine sw_true F rfl ?_
          refine rem_loop text c b at_ kd tx n lv kb hlen i (by omega) (F.keep [2, 0] rfl) ?_
          intro A i2 F hi2 hg2 hle2 hst2
          have hgt2 : i < i2 := rem_more hgeti (byte_eq h35chi) hle2 hst2
          show _ ∧ _
          refine ⟨⟨rfl, i2, hi2, F, by rw [hgap, gap_hash hgeti (byte_eq h35chi)]; exact hg2⟩, ?_⟩
          rw [F.2.2 2 (.int .i64 (i2 : Int)) rfl, hA]
          simp only [intOf]
          omega
        · skip
          have n35chi := hc4
          refine wp_exit ?_
          repeat (first | refine then_exit ?_ | refine exit_block ?_ | refine exit_pass rfl ?_)
          exact hK _ i (F.keep [2, 0] rfl) hi hgap (by first | exact .inl hgei | exact .inr ⟨chi, hgeti, byte_ne n32chi, byte_ne n10chi, byte_ne n35chi⟩)
  | false =>
    rw [c1] at F
    have hgei : text.length ≤ i := by have := of_decide_eq_false c1; omega
    refine sw_off F 7 rfl rfl rfl rfl rfl rfl rfl fun A F => ?_
    refine sw_off F 7 rfl rfl rfl rfl rfl rfl rfl fun A F => ?_
    refine sw_off F 7 rfl rfl rfl rfl rfl rfl rfl fun A F => ?_
    refine sw_off F 7 rfl rfl rfl rfl rfl rfl rfl fun A F => ?_
    refine sw_off F 7 rfl rfl rfl rfl rfl rfl rfl fun A F => ?_
    refine sw_off F 7 rfl rfl rfl rfl rfl rfl rfl fun A F => ?_
    refine sw_off F 7 rfl rfl rfl rfl rfl rfl rfl fun A F => ?_
    refine sw_off F 7 rfl rfl rfl rfl rfl rfl rfl fun A F => ?_
    refine sw_offU F 15 rfl rfl rfl rfl rfl rfl fun A F => ?_
    refine sw_offU F 15 rfl rfl rfl rfl rfl rfl fun A F => ?_
    refine sw_offU F 15 rfl rfl rfl rfl rfl rfl fun A F => ?_
    refine sw_offU F 15 rfl rfl rfl rfl rfl rfl fun A F => ?_
    refine sw_offU F 15 rfl rfl rfl rfl rfl rfl fun A F => ?_
    refine sw_offU F 15 rfl rfl rfl rfl rfl rfl fun A F => ?_
    refine sw_offU F 15 rfl rfl rfl rfl rfl rfl fun A F => ?_
    refine sw_off F 7 rfl rfl rfl rfl rfl rfl rfl fun A F => ?_
    refine sw_off F 7 rfl rfl rfl rfl rfl rfl rfl fun A F => ?_
    refine sw_offU F 24 rfl rfl rfl rfl rfl rfl fun A F => ?_
    refine sw_offU F 24 rfl rfl rfl rfl rfl rfl fun A F => ?_
    refine sw_offU F 24 rfl rfl rfl rfl rfl rfl fun A F => ?_
    refine sw_offU F 24 rfl rfl rfl rfl rfl rfl fun A F => ?_
    refine sw_offU F 24 rfl rfl rfl rfl rfl rfl fun A F => ?_
    refine sw_offU F 24 rfl rfl rfl rfl rfl rfl fun A F => ?_
    refine sw_offU F 24 rfl rfl rfl rfl rfl rfl fun A F => ?_
    refine sw_off F 7 rfl rfl rfl rfl rfl rfl rfl fun A F => ?_
    refine sw_pickF F ⟨rfl, rfl, rfl⟩ rfl rfl rfl fun A F => ?_
    refine sw_end ?_
    show Code.wp _ _ _ _ _
    refine sw_false F rfl ?_
    refine wp_exit ?_
    repeat (first | refine then_exit ?_ | refine exit_block ?_ | refine exit_pass rfl ?_)
    exact hK _ i (F.keep [2, 0] rfl) hi hgap (by first | exact .inl hgei | exact .inr ⟨chi, hgeti, byte_ne n32chi, byte_ne n10chi, byte_ne n35chi⟩)
set_option maxRecDepth 8000 in
set_option maxHeartbeats 3200000 in
theorem name_loop {Q : Exit → Act → World → Prop} {A : Act} {w : World} (text : Key) (c : C4) (b at_ : Nat) (kd : Int) (tx : Key) (n lv : Int) (kb : Blk w b (pC text at_ kd tx n lv 0 c) 43) (hlen : text.length ≤ 2048) (i : Nat) (hi : i ≤ text.length) (F : Fm 273 [(3, .int .i64 (i : Nat)), (2, .int .i64 (i : Nat)), (0, ptr b)] A) (hK : ∀ A' (j : Nat), Fm 273 [(3, .int .i64 (j : Nat)), (2, .int .i64 (i : Nat)), (0, ptr b)] A' → i ≤ j → j ≤ text.length → spanN goes (text.drop i) = j - i → Q .normal A' w) : (blkOf Tryd.f10 7).wp Tryd.prog Q A w := by
  refine wp_block ?_
  refine wp_loop (fun A wv => wv = w ∧ ∃ j : Nat, i ≤ j ∧ j ≤ text.length ∧ Fm 273 [(3, .int .i64 (j : Nat)), (2, .int .i64 (i : Nat)), (0, ptr b)] A ∧ spanN goes (text.drop i) = (j - i) + spanN goes (text.drop j)) (fun A _ => text.length - (intOf (A.eval (.tmp 3))).toNat) ?_ ?_
  · exact ⟨rfl, i, Nat.le_refl _, hi, F, by omega⟩
  rintro A w ⟨rfl, j, hij, hj, F, hs⟩
  have hA : A.eval (.tmp 3) = .int .i64 (j : Int) := F.2.2 3 _ rfl
  refine sw_seq ?_
  refine sw_seq ?_
  refine sw_reg ?_
  refine sw_move F ⟨rfl, rfl, rfl⟩ rfl rfl fun A F => ?_
  refine sw_move F ⟨rfl, rfl, rfl⟩ rfl rfl fun A F => ?_
  refine sw_nil F ⟨rfl, rfl, rfl⟩ rfl rfl fun A F => ?_
  refine sw_fld F 0 ⟨rfl, rfl, rfl⟩ rfl (by kernel_rfl) rfl rfl fun A F => ?_
  refine sw_ext F ((kb.cell 0).trans rfl) ⟨rfl, rfl, rfl⟩ rfl (by kernel_rfl) rfl fun A F => ?_
  refine sw_slen F ⟨rfl, rfl, rfl⟩ rfl Tryd.underlying9 rfl fun A F => ?_
  refine sw_lss F ⟨rfl, rfl, rfl⟩ rfl rfl rfl fun A F => ?_
  refine sw_move F ⟨rfl, rfl, rfl⟩ rfl rfl fun A F => ?_
  cases c1 : (decide ((j : Int) < (text.length : Int))) with
  | true =>
    rw [c1] at F
    have hltj : j < text.length := by have := of_decide_eq_true c1; omega
    obtain ⟨chj, hgetj⟩ : ∃ ch, text[j]? = some ch := ⟨_, List.getElem?_eq_getElem hltj⟩
    refine sw_on F 7 rfl rfl rfl rfl rfl ?_
    refine sw_move F ⟨rfl, rfl, rfl⟩ rfl rfl fun A F => ?_
    refine sw_on F 7 rfl rfl rfl rfl rfl ?_
    refine sw_nil F ⟨rfl, rfl, rfl⟩ rfl rfl fun A F => ?_
    refine sw_on F 7 rfl rfl rfl rfl rfl ?_
    refine sw_fld F 0 ⟨rfl, rfl, rfl⟩ rfl (by kernel_rfl) rfl rfl fun A F => ?_
    refine sw_on F 7 rfl rfl rfl rfl rfl ?_
    refine sw_ext F ((kb.cell 0).trans rfl) ⟨rfl, rfl, rfl⟩ rfl (by kernel_rfl) rfl fun A F => ?_
    refine sw_on F 7 rfl rfl rfl rfl rfl ?_
    refine sw_move F ⟨rfl, rfl, rfl⟩ rfl rfl fun A F => ?_
    refine sw_on F 7 rfl rfl rfl rfl rfl ?_
    refine sw_index F ⟨rfl, rfl, rfl⟩ rfl rfl hgetj Tryd.underlying9 rfl fun A F => ?_
    refine sw_on F 7 rfl rfl rfl rfl rfl ?_
    refine sw_callR (by kernel_rfl) (vs := [.int .u8 (chj.toNat : Int)]) (rgoes_any chj _) F ⟨rfl, rfl, rfl⟩ rfl rfl ?_
    rintro e w' ⟨rfl, rfl⟩
    refine ⟨_, rfl, fun A F => ?_⟩
    refine sw_pickT F ⟨rfl, rfl, rfl⟩ rfl rfl rfl fun A F => ?_
    refine sw_end ?_
    show Code.wp _ _ _ _ _
    refine sw_cond F rfl (fun hc2 => ?_) (fun hc2 => ?_)
    · skip
      have hg := hc2
      refine wp_skip ?_
      show Code.wp _ _ _ _ _
      refine wp_block ?_
      refine sw_reg ?_
      refine sw_move F ⟨rfl, rfl, rfl⟩ rfl rfl fun A F => ?_
      refine sw_add F ⟨rfl, rfl, rfl⟩ rfl rfl (by omega) rfl fun A F => ?_
      refine sw_asg F ⟨rfl, rfl, rfl⟩ rfl rfl fun A F => ?_
      refine sw_end ?_
      show _ ∧ _
      have hs2 := span_at (f := goes) hgetj
      rw [hg, if_pos rfl] at hs2
      refine ⟨⟨rfl, j + 1, by omega, by omega, F.keep [3, 2, 0] rfl, by omega⟩, ?_⟩
      rw [(F.keep [3, 2, 0] rfl).2.2 3 (.int .i64 ((j + 1 : Nat) : Int)) rfl, hA]
      simp only [intOf]
      omega
    · skip
      have hg := hc2
      refine wp_exit ?_
      repeat (first | refine then_exit ?_ | refine exit_block ?_ | refine exit_pass rfl ?_)
      exact hK _ j (F.keep [3, 2, 0] rfl) hij hj (by first | (have := span_end (f := goes) hgej; omega) | (have := span_at (f := goes) hgetj; rw [hg, if_neg Bool.false_ne_true] at this; omega))
  | false =>
    rw [c1] at F
    have hgej : text.length ≤ j := by have := of_decide_eq_false c1; omega
    refine sw_off F 7 rfl rfl rfl rfl rfl rfl rfl fun A F => ?_
    refine sw_off F 7 rfl rfl rfl rfl rfl rfl rfl fun A F => ?_
    refine sw_off F 7 rfl rfl rfl rfl rfl rfl rfl fun A F => ?_
    refine sw_off F 7 rfl rfl rfl rfl rfl rfl rfl fun A F => ?_
    refine sw_off F 7 rfl rfl rfl rfl rfl rfl rfl fun A F => ?_
    refine sw_off F 7 rfl rfl rfl rfl rfl rfl rfl fun A F => ?_
    refine sw_off F 7 rfl rfl rfl rfl rfl rfl rfl fun A F => ?_
    refine sw_pickF F ⟨rfl, rfl, rfl⟩ rfl rfl rfl fun A F => ?_
    refine sw_end ?_
    show Code.wp _ _ _ _ _
    refine sw_false F rfl ?_
    refine wp_exit ?_
    repeat (first | refine then_exit ?_ | refine exit_block ?_ | refine exit_pass rfl ?_)
    exact hK _ j (F.keep [3, 2, 0] rfl) hij hj (by first | (have := span_end (f := goes) hgej; omega) | (have := span_at (f := goes) hgetj; rw [hg, if_neg Bool.false_ne_true] at this; omega))
end Go.Proofs.YtgpjlocgkdlnlaaDoor
