/- The answer's lexer: the next token. -/
import Derived.Test.YtgpjlocgkdlnlaaDoorM30
namespace Go.Proofs.YtgpjlocgkdlnlaaDoor
open Go.RowKit
set_option linter.unusedVariables false
set_option linter.unusedSimpArgs false

set_option maxRecDepth 8000 in
set_option maxHeartbeats 12800000 in
theorem next_ok (text : Key) (c : C4) (b at_ : Nat) (kd : Int) (tx : Key) (n lv : Int) (wO : World) (kb : Blk wO b (pC text at_ kd tx n lv 0 c) 43) (hlen : text.length ≤ 2048) (hat : at_ ≤ text.length) : Calls Tryd.prog 10 ([ptr b] : List Value).toArray wO fun e w' => e = .returned (.tuple #[]) ∧ But (fun k => k = b) wO w' ∧ ∃ at' kd' tx' n' e', Blk w' b (pC text at' kd' tx' n' lv e' c) 43 ∧ NX text (gap false (text.drop at_)) at' kd' tx' n' e' := by
  have hB := But.refl (fun k => k = b) wO
  refine sw_fn Tryd.func10 rfl 273 Tryd.ntmps10 rfl fun A F => ?_
  refine sw_seq ?_
  refine sw_seq ?_
  refine sw_reg ?_
  refine sw_move F ⟨rfl, rfl, rfl⟩ rfl rfl fun A F => ?_
  refine sw_nil F ⟨rfl, rfl, rfl⟩ rfl rfl fun A F => ?_
  refine sw_fld F 6 ⟨rfl, rfl, rfl⟩ rfl (by kernel_rfl) rfl rfl fun A F => ?_
  refine sw_ext F ((kb.cell 6).trans rfl) ⟨rfl, rfl, rfl⟩ rfl (by kernel_rfl) rfl fun A F => ?_
  refine sw_neq F ⟨rfl, rfl, rfl⟩ rfl rfl rfl fun A F => ?_
  refine sw_end ?_
  show Code.wp _ _ _ _ _
  refine sw_false F rfl ?_
  refine wp_skip ?_
  show Code.wp _ _ _ _ _
  refine sw_seq ?_
  refine sw_reg ?_
  refine sw_move F ⟨rfl, rfl, rfl⟩ rfl rfl fun A F => ?_
  refine sw_nil F ⟨rfl, rfl, rfl⟩ rfl rfl fun A F => ?_
  refine sw_fld F 1 ⟨rfl, rfl, rfl⟩ rfl (by kernel_rfl) rfl rfl fun A F => ?_
  refine sw_ext F ((kb.cell 1).trans rfl) ⟨rfl, rfl, rfl⟩ rfl (by kernel_rfl) rfl fun A F => ?_
  refine sw_asg F ⟨rfl, rfl, rfl⟩ rfl rfl fun A F => ?_
  refine sw_end ?_
  show Code.wp _ _ _ _ _
  refine sw_seq ?_
  refine gap_loop text c b at_ kd tx n lv kb hlen at_ hat (F.keep [2, 0] rfl) ?_
  intro A i F hi hgap hstop
  show Code.wp _ _ _ _ _
  refine sw_seq ?_
  refine sw_reg ?_
  refine sw_move F ⟨rfl, rfl, rfl⟩ rfl rfl fun A F => ?_
  refine sw_build F _ [.int .u8 101, .string ⟨#[]⟩, .int .i64 0] ⟨rfl, rfl, rfl⟩ rfl (by kernel_rfl) rfl fun A F => ?_
  refine sw_nil F ⟨rfl, rfl, rfl⟩ rfl rfl fun A F => ?_
  refine sw_fld F 2 ⟨rfl, rfl, rfl⟩ rfl (by kernel_rfl) rfl rfl fun A F => ?_
  refine sw_setT F ⟨rfl, rfl, rfl⟩ rfl rfl kb (by kernel_rfl) fun w B kb => ?_
  replace hB := hB.trans B
  replace kb : Blk w b (pC text at_ 101 ([]) 0 lv 0 c) 43 := kb
  refine sw_end ?_
  show Code.wp _ _ _ _ _
  refine sw_seq ?_
  refine sw_reg ?_
  refine sw_move F ⟨rfl, rfl, rfl⟩ rfl rfl fun A F => ?_
  refine sw_move F ⟨rfl, rfl, rfl⟩ rfl rfl fun A F => ?_
  refine sw_nil F ⟨rfl, rfl, rfl⟩ rfl rfl fun A F => ?_
  refine sw_fld F 1 ⟨rfl, rfl, rfl⟩ rfl (by kernel_rfl) rfl rfl fun A F => ?_
  refine sw_setX1 F ⟨rfl, rfl, rfl⟩ rfl rfl kb (by kernel_rfl) rfl rfl rfl fun w B kb => ?_
  replace hB := hB.trans B
  replace kb : Blk w b (pC text i 101 ([]) 0 lv 0 c) 43 := kb
  refine sw_end ?_
  show Code.wp _ _ _ _ _
  refine sw_seq ?_
  refine sw_seq ?_
  refine sw_reg ?_
  refine sw_move F ⟨rfl, rfl, rfl⟩ rfl rfl fun A F => ?_
  refine sw_move F ⟨rfl, rfl, rfl⟩ rfl rfl fun A F => ?_
  refine sw_nil F ⟨rfl, rfl, rfl⟩ rfl rfl fun A F => ?_
  refine sw_fld F 0 ⟨rfl, rfl, rfl⟩ rfl (by kernel_rfl) rfl rfl fun A F => ?_
  refine sw_ext F ((kb.cell 0).trans rfl) ⟨rfl, rfl, rfl⟩ rfl (by kernel_rfl) rfl fun A F => ?_
  refine sw_slen F ⟨rfl, rfl, rfl⟩ rfl Tryd.underlying9 rfl fun A F => ?_
  refine sw_eql F ⟨rfl, rfl, rfl⟩ rfl rfl rfl fun A F => ?_
  refine sw_end ?_
  show Code.wp _ _ _ _ _
  refine sw_cond F rfl (fun hc1 => ?_) (fun hc1 => ?_)
  · skip
    have hil : i = text.length := byte_nat hc1
    refine wp_ret ?_
    repeat (first | refine then_ret ?_ | refine block_ret ?_)
    exact sw_retnone F Tryd.results10 ⟨rfl, hB, _, _, _, _, _, kb, by rw [hgap, gap_done (by omega)]; exact nx_fin (by omega) hi⟩
  · skip
    have hil : i ≠ text.length := nat_ne hc1
    obtain ⟨chi, hgeti, n32, n10, n35⟩ : ∃ ch, text[i]? = some ch ∧ ch.toNat ≠ 32 ∧ ch.toNat ≠ 10 ∧ ch.toNat ≠ 35 := by rcases hstop with h | h; exact absurd (Nat.le_antisymm hi h) hil; exact h
    have hlti : i < text.length := (List.getElem?_eq_some_iff.1 hgeti).1
    have hr : gap false (text.drop at_) = text.drop i := hgap.trans (gap_stop hgeti n32 n10 n35)
    refine wp_skip ?_
    show Code.wp _ _ _ _ _
    refine sw_seq ?_
    refine sw_reg ?_
    refine sw_move F ⟨rfl, rfl, rfl⟩ rfl rfl fun A F => ?_
    refine sw_asg F ⟨rfl, rfl, rfl⟩ rfl rfl fun A F => ?_
    refine sw_end ?_
    show Code.wp _ _ _ _ _
    refine sw_seq ?_
    refine wp_block ?_
    refine sw_seq ?_
    refine sw_reg ?_
    refine sw_move F ⟨rfl, rfl, rfl⟩ rfl rfl fun A F => ?_
    refine sw_nil F ⟨rfl, rfl, rfl⟩ rfl rfl fun A F => ?_
    refine sw_fld F 0 ⟨rfl, rfl, rfl⟩ rfl (by kernel_rfl) rfl rfl fun A F => ?_
    refine sw_ext F ((kb.cell 0).trans rfl) ⟨rfl, rfl, rfl⟩ rfl (by kernel_rfl) rfl fun A F => ?_
    refine sw_move F ⟨rfl, rfl, rfl⟩ rfl rfl fun A F => ?_
    refine sw_index F ⟨rfl, rfl, rfl⟩ rfl rfl hgeti Tryd.underlying9 rfl fun A F => ?_
    refine sw_callR (by kernel_rfl) (vs := [.int .u8 (chi.toNat : Int)]) (rsmall_any chi _) F ⟨rfl, rfl, rfl⟩ rfl rfl ?_
    rintro e w' ⟨rfl, rfl⟩
    refine ⟨_, rfl, fun A F => ?_⟩
    refine sw_asg F ⟨rfl, rfl, rfl⟩ rfl rfl fun A F => ?_
    refine sw_end ?_
    show Code.wp _ _ _ _ _
    refine sw_cond F rfl (fun hc2 => ?_) (fun hc2 => ?_)
    · skip
      have hisL := hc2
      refine sw_seq ?_
      refine name_loop text c b i 101 ([]) 0 lv kb hlen i hi (F.keep [3, 2, 0] rfl) ?_
      intro A j F hij hj hs
      show Code.wp _ _ _ _ _
      refine sw_seq ?_
      refine sw_reg ?_
      refine sw_move F ⟨rfl, rfl, rfl⟩ rfl rfl fun A F => ?_
      refine sw_move F ⟨rfl, rfl, rfl⟩ rfl rfl fun A F => ?_
      refine sw_nil F ⟨rfl, rfl, rfl⟩ rfl rfl fun A F => ?_
      refine sw_fld F 0 ⟨rfl, rfl, rfl⟩ rfl (by kernel_rfl) rfl rfl fun A F => ?_
      refine sw_ext F ((kb.cell 0).trans rfl) ⟨rfl, rfl, rfl⟩ rfl (by kernel_rfl) rfl fun A F => ?_
      refine sw_move F ⟨rfl, rfl, rfl⟩ rfl rfl fun A F => ?_
      refine sw_move F ⟨rfl, rfl, rfl⟩ rfl rfl fun A F => ?_
      refine sw_slice2 F ⟨rfl, rfl, rfl⟩ rfl rfl rfl ⟨hij, hj⟩ Tryd.underlying9 rfl fun A F => ?_
      refine sw_build F _ [.int .u8 110, .string (str ((text.take j).drop i)), .int .i64 0] ⟨rfl, rfl, rfl⟩ rfl (by kernel_rfl) rfl fun A F => ?_
      refine sw_nil F ⟨rfl, rfl, rfl⟩ rfl rfl fun A F => ?_
      refine sw_fld F 2 ⟨rfl, rfl, rfl⟩ rfl (by kernel_rfl) rfl rfl fun A F => ?_
      refine sw_setT F ⟨rfl, rfl, rfl⟩ rfl rfl kb (by kernel_rfl) fun w B kb => ?_
      replace hB := hB.trans B
      replace kb : Blk w b (pC text i 110 (((text.take j).drop i)) 0 lv 0 c) 43 := kb
      refine sw_end ?_
      show Code.wp _ _ _ _ _
      refine sw_seq ?_
      refine wp_region_held (S := fun w' => w'.cell? ⟨b, 0, none⟩ = some (.string (str text))) (by kernel_rfl) ?_
      show wpAnyH _ _ _ _ _ _ _ _ w.drew
      have hS : w.drew.cell? ⟨b, 0, none⟩ = some (.string (str text)) := (kb.cell 0).trans rfl
      refine sd_move F 1 rfl ⟨rfl, rfl, rfl⟩ rfl (by kernel_rfl) (by kernel_rfl) (by kernel_rfl) (fun _ _ _ h => h) rfl hS fun A F => ?_
      refine sd_nil F 2 rfl ⟨rfl, rfl, rfl⟩ rfl (by kernel_rfl) (by kernel_rfl) (by kernel_rfl) (fun _ _ _ h => h) rfl hS fun A F => ?_
      refine sd_fld F 3 0 rfl ⟨rfl, rfl, rfl⟩ rfl (by kernel_rfl) rfl (by kernel_rfl) (by kernel_rfl) (by kernel_rfl) (fun _ _ _ h => h) rfl hS fun A F => ?_
      refine sd_cell F 4 rfl ⟨rfl, rfl, rfl⟩ rfl (by kernel_rfl) (fun _ h => h) (by kernel_rfl) (by kernel_rfl) (by kernel_rfl) (fun _ _ _ h => h) rfl hS fun A F => ?_
      refine sd_move F 5 rfl ⟨rfl, rfl, rfl⟩ rfl (by kernel_rfl) (by kernel_rfl) (by kernel_rfl) (fun _ _ _ h => h) rfl hS fun A F => ?_
      refine sd_move F 6 rfl ⟨rfl, rfl, rfl⟩ rfl (by kernel_rfl) (by kernel_rfl) (by kernel_rfl) (fun _ _ _ h => h) rfl hS fun A F => ?_
      refine sd_slice2 F 7 rfl ⟨rfl, rfl, rfl⟩ rfl rfl rfl ⟨hij, hj⟩ Tryd.underlying9 (by kernel_rfl) (by kernel_rfl) (by kernel_rfl) (fun _ _ _ h => h) rfl hS fun A F => ?_
      replace kb := kb.drew
      replace hB : But (fun k => k = b) wO w.drew := hB.trans (But.of_below ((Below.refl w.heap.size w).drew))
      generalize w.drew = w at *
      refine sd_one 0 rfl (by kernel_rfl) rfl ?_
      refine sw_callR (by kernel_rfl) (vs := []) (rpWords_any _) F ⟨rfl, rfl, rfl⟩ rfl rfl ?_
      rintro e w ⟨x, rfl, hBw, hxn, hx⟩
      replace kb := kb.below hBw kb.lt
      replace hB := hB.trans (But.of_below hBw)
      clear hS
      have hS : w.cell? ⟨b, 0, none⟩ = some (.string (str text)) := (kb.cell 0).trans rfl
      refine ⟨_, rfl, fun A F => ?_⟩
      refine sw_end ⟨hS, ?_⟩
      refine sd_one 8 rfl (by kernel_rfl) rfl ?_
      refine sw_callR (by kernel_rfl) (vs := [.slice (some ⟨x, 0, none⟩) 28 28, .string (str ((text.take j).drop i))]) (has_any x 28 28 wordL ((text.take j).drop i) _ rfl (by omega) hx) F ⟨rfl, rfl, rfl⟩ rfl rfl ?_
      rintro e w ⟨rfl, rfl⟩
      refine ⟨_, rfl, fun A F => ?_⟩
      refine sw_end ⟨hS, ?_⟩
      refine sd_asg F 9 rfl ⟨rfl, rfl, rfl⟩ rfl (by kernel_rfl) (by kernel_rfl) (by kernel_rfl) (fun _ _ _ h => h) rfl hS fun A F => ?_
      refine wpAnyH_done (by kernel_rfl) ?_ _
      show Code.wp _ _ _ _ _
      refine sw_seq ?_
      refine sw_seq ?_
      refine sw_reg ?_
      refine sw_move F ⟨rfl, rfl, rfl⟩ rfl rfl fun A F => ?_
      refine sw_end ?_
      show Code.wp _ _ _ _ _
      refine sw_cond F rfl (fun hc3 => ?_) (fun hc3 => ?_)
      · skip
        have hw := hc3
        refine sw_reg ?_
        refine sw_move F ⟨rfl, rfl, rfl⟩ rfl rfl fun A F => ?_
        refine sw_nil F ⟨rfl, rfl, rfl⟩ rfl rfl fun A F => ?_
        refine sw_fld F 2 ⟨rfl, rfl, rfl⟩ rfl (by kernel_rfl) rfl rfl fun A F => ?_
        refine sw_fld F 0 ⟨rfl, rfl, rfl⟩ rfl (by kernel_rfl) rfl rfl fun A F => ?_
        refine sw_setX1 F ⟨rfl, rfl, rfl⟩ rfl rfl kb (by kernel_rfl) rfl rfl rfl fun w B kb => ?_
        replace hB := hB.trans B
        replace kb : Blk w b (pC text i 119 (((text.take j).drop i)) 0 lv 0 c) 43 := kb
        refine sw_end ?_
        show Code.wp _ _ _ _ _
        refine sw_seq ?_
        refine sw_reg ?_
        refine sw_move F ⟨rfl, rfl, rfl⟩ rfl rfl fun A F => ?_
        refine sw_move F ⟨rfl, rfl, rfl⟩ rfl rfl fun A F => ?_
        refine sw_subw F ⟨rfl, rfl, rfl⟩ rfl rfl rfl fun A F => ?_
        rw [wrapJ ((j : Int) - (i : Int)) (by omega) (by omega)] at F
        refine sw_gtr F ⟨rfl, rfl, rfl⟩ rfl rfl rfl fun A F => ?_
        refine sw_end ?_
        show Code.wp _ _ _ _ _
        refine sw_cond F rfl (fun hc4 => ?_) (fun hc4 => ?_)
        · skip
          have h16 : 16 < j - i := by have := of_decide_eq_true hc4; omega
          refine sw_reg ?_
          refine sw_move F ⟨rfl, rfl, rfl⟩ rfl rfl fun A F => ?_
          refine sw_callR (by kernel_rfl) (bad_0 6 text c b i 119 (((text.take j).drop i)) 0 lv w kb) F ⟨rfl, rfl, rfl⟩ rfl rfl ?_
          rintro e w ⟨rfl, B, kb⟩
          replace hB := hB.trans B
          refine ⟨_, rfl, fun A F => ?_⟩
          refine sw_end ?_
          show Code.wp _ _ _ _ _
          refine sw_reg ?_
          refine sw_move F ⟨rfl, rfl, rfl⟩ rfl rfl fun A F => ?_
          refine sw_move F ⟨rfl, rfl, rfl⟩ rfl rfl fun A F => ?_
          refine sw_nil F ⟨rfl, rfl, rfl⟩ rfl rfl fun A F => ?_
          refine sw_fld F 1 ⟨rfl, rfl, rfl⟩ rfl (by kernel_rfl) rfl rfl fun A F => ?_
          refine sw_setX1 F ⟨rfl, rfl, rfl⟩ rfl rfl kb (by kernel_rfl) rfl rfl rfl fun w B kb => ?_
          replace hB := hB.trans B
          replace kb : Blk w b (pC text j 119 (((text.take j).drop i)) 0 lv 6 c) 43 := kb
          refine sw_end ?_
          repeat (first | refine then_norm ?_ | refine block_norm ?_)
          exact sw_endnone F Tryd.results10 ⟨rfl, hB, _, _, _, _, _, kb, absurd h16 (nx_fixed_len hij hj hw)⟩
        · skip
          have h16 : ¬ 16 < j - i := by have := of_decide_eq_false hc4; omega
          refine wp_skip ?_
          show Code.wp _ _ _ _ _
          refine sw_reg ?_
          refine sw_move F ⟨rfl, rfl, rfl⟩ rfl rfl fun A F => ?_
          refine sw_move F ⟨rfl, rfl, rfl⟩ rfl rfl fun A F => ?_
          refine sw_nil F ⟨rfl, rfl, rfl⟩ rfl rfl fun A F => ?_
          refine sw_fld F 1 ⟨rfl, rfl, rfl⟩ rfl (by kernel_rfl) rfl rfl fun A F => ?_
          refine sw_setX1 F ⟨rfl, rfl, rfl⟩ rfl rfl kb (by kernel_rfl) rfl rfl rfl fun w B kb => ?_
          replace hB := hB.trans B
          replace kb : Blk w b (pC text j 119 (((text.take j).drop i)) 0 lv 0 c) 43 := kb
          refine sw_end ?_
          repeat (first | refine then_norm ?_ | refine block_norm ?_)
          exact sw_endnone F Tryd.results10 ⟨rfl, hB, _, _, _, _, _, kb, by rw [hr]; exact nx_fixed hgeti hij hj hisL hs hw⟩
      · skip
        have hw := hc3
        refine wp_skip ?_
        show Code.wp _ _ _ _ _
        refine sw_seq ?_
        refine sw_reg ?_
        refine sw_move F ⟨rfl, rfl, rfl⟩ rfl rfl fun A F => ?_
        refine sw_move F ⟨rfl, rfl, rfl⟩ rfl rfl fun A F => ?_
        refine sw_subw F ⟨rfl, rfl, rfl⟩ rfl rfl rfl fun A F => ?_
        rw [wrapJ ((j : Int) - (i : Int)) (by omega) (by omega)] at F
        refine sw_gtr F ⟨rfl, rfl, rfl⟩ rfl rfl rfl fun A F => ?_
        refine sw_end ?_
        show Code.wp _ _ _ _ _
        refine sw_cond F rfl (fun hc5 => ?_) (fun hc5 => ?_)
        · skip
          have h16 : 16 < j - i := by have := of_decide_eq_true hc5; omega
          refine sw_reg ?_
          refine sw_move F ⟨rfl, rfl, rfl⟩ rfl rfl fun A F => ?_
          refine sw_callR (by kernel_rfl) (bad_0 6 text c b i 110 (((text.take j).drop i)) 0 lv w kb) F ⟨rfl, rfl, rfl⟩ rfl rfl ?_
          rintro e w ⟨rfl, B, kb⟩
          replace hB := hB.trans B
          refine ⟨_, rfl, fun A F => ?_⟩
          refine sw_end ?_
          show Code.wp _ _ _ _ _
          refine sw_reg ?_
          refine sw_move F ⟨rfl, rfl, rfl⟩ rfl rfl fun A F => ?_
          refine sw_move F ⟨rfl, rfl, rfl⟩ rfl rfl fun A F => ?_
          refine sw_nil F ⟨rfl, rfl, rfl⟩ rfl rfl fun A F => ?_
          refine sw_fld F 1 ⟨rfl, rfl, rfl⟩ rfl (by kernel_rfl) rfl rfl fun A F => ?_
          refine sw_setX1 F ⟨rfl, rfl, rfl⟩ rfl rfl kb (by kernel_rfl) rfl rfl rfl fun w B kb => ?_
          replace hB := hB.trans B
          replace kb : Blk w b (pC text j 110 (((text.take j).drop i)) 0 lv 6 c) 43 := kb
          refine sw_end ?_
          repeat (first | refine then_norm ?_ | refine block_norm ?_)
          exact sw_endnone F Tryd.results10 ⟨rfl, hB, _, _, _, _, _, kb, by rw [hr]; exact nx_long hgeti hij hj hisL hs hw h16 _ _ _ _⟩
        · skip
          have h16 : ¬ 16 < j - i := by have := of_decide_eq_false hc5; omega
          refine wp_skip ?_
          show Code.wp _ _ _ _ _
          refine sw_reg ?_
          refine sw_move F ⟨rfl, rfl, rfl⟩ rfl rfl fun A F => ?_
          refine sw_move F ⟨rfl, rfl, rfl⟩ rfl rfl fun A F => ?_
          refine sw_nil F ⟨rfl, rfl, rfl⟩ rfl rfl fun A F => ?_
          refine sw_fld F 1 ⟨rfl, rfl, rfl⟩ rfl (by kernel_rfl) rfl rfl fun A F => ?_
          refine sw_setX1 F ⟨rfl, rfl, rfl⟩ rfl rfl kb (by kernel_rfl) rfl rfl rfl fun w B kb => ?_
          replace hB := hB.trans B
          replace kb : Blk w b (pC text j 110 (((text.take j).drop i)) 0 lv 0 c) 43 := kb
          refine sw_end ?_
          repeat (first | refine then_norm ?_ | refine block_norm ?_)
          exact sw_endnone F Tryd.results10 ⟨rfl, hB, _, _, _, _, _, kb, by rw [hr]; exact nx_name hgeti hij hj hisL hs hw (by omega)⟩
    · skip
      have hisL := hc2
      refine sw_seq ?_
      refine sw_reg ?_
      refine sw_move F ⟨rfl, rfl, rfl⟩ rfl rfl fun A F => ?_
      refine sw_nil F ⟨rfl, rfl, rfl⟩ rfl rfl fun A F => ?_
      refine sw_fld F 0 ⟨rfl, rfl, rfl⟩ rfl (by kernel_rfl) rfl rfl fun A F => ?_
      refine sw_ext F ((kb.cell 0).trans rfl) ⟨rfl, rfl, rfl⟩ rfl (by kernel_rfl) rfl fun A F => ?_
      refine sw_move F ⟨rfl, rfl, rfl⟩ rfl rfl fun A F => ?_
      refine sw_index F ⟨rfl, rfl, rfl⟩ rfl rfl hgeti Tryd.underlying9 rfl fun A F => ?_
      refine sw_callR (by kernel_rfl) (vs := [.int .u8 (chi.toNat : Int)]) (rdigit_any chi _) F ⟨rfl, rfl, rfl⟩ rfl rfl ?_
      rintro e w' ⟨rfl, rfl⟩
      refine ⟨_, rfl, fun A F => ?_⟩
      refine sw_asg F ⟨rfl, rfl, rfl⟩ rfl rfl fun A F => ?_
      refine sw_end ?_
      show Code.wp _ _ _ _ _
      refine sw_cond F rfl (fun hc6 => ?_) (fun hc6 => ?_)
      · skip
        have hisD := hc6
        refine sw_seq ?_
        refine sw_reg ?_
        refine sw_asg F ⟨rfl, rfl, rfl⟩ rfl rfl fun A F => ?_
        refine sw_end ?_
        show Code.wp _ _ _ _ _
        refine sw_seq ?_
        refine num_loop text c b i 101 ([]) 0 lv kb hlen i hi (F.keep [3, 5, 2, 0] rfl) ?_
        intro A j nv F hij hj hs hnv hall
        show Code.wp _ _ _ _ _
        refine sw_seq ?_
        refine sw_reg ?_
        refine sw_move F ⟨rfl, rfl, rfl⟩ rfl rfl fun A F => ?_
        refine sw_move F ⟨rfl, rfl, rfl⟩ rfl rfl fun A F => ?_
        refine sw_nil F ⟨rfl, rfl, rfl⟩ rfl rfl fun A F => ?_
        refine sw_fld F 0 ⟨rfl, rfl, rfl⟩ rfl (by kernel_rfl) rfl rfl fun A F => ?_
        refine sw_ext F ((kb.cell 0).trans rfl) ⟨rfl, rfl, rfl⟩ rfl (by kernel_rfl) rfl fun A F => ?_
        refine sw_move F ⟨rfl, rfl, rfl⟩ rfl rfl fun A F => ?_
        refine sw_move F ⟨rfl, rfl, rfl⟩ rfl rfl fun A F => ?_
        refine sw_slice2 F ⟨rfl, rfl, rfl⟩ rfl rfl rfl ⟨hij, hj⟩ Tryd.underlying9 rfl fun A F => ?_
        refine sw_move F ⟨rfl, rfl, rfl⟩ rfl rfl fun A F => ?_
        refine sw_build F _ [.int .u8 48, .string (str ((text.take j).drop i)), .int .i64 nv] ⟨rfl, rfl, rfl⟩ rfl (by kernel_rfl) rfl fun A F => ?_
        refine sw_nil F ⟨rfl, rfl, rfl⟩ rfl rfl fun A F => ?_
        refine sw_fld F 2 ⟨rfl, rfl, rfl⟩ rfl (by kernel_rfl) rfl rfl fun A F => ?_
        refine sw_setT F ⟨rfl, rfl, rfl⟩ rfl rfl kb (by kernel_rfl) fun w B kb => ?_
        replace hB := hB.trans B
        replace kb : Blk w b (pC text i 48 (((text.take j).drop i)) nv lv 0 c) 43 := kb
        refine sw_end ?_
        show Code.wp _ _ _ _ _
        refine sw_seq ?_
        refine sw_reg ?_
        refine sw_move F ⟨rfl, rfl, rfl⟩ rfl rfl fun A F => ?_
        refine sw_gtr F ⟨rfl, rfl, rfl⟩ rfl rfl rfl fun A F => ?_
        refine sw_move F ⟨rfl, rfl, rfl⟩ rfl rfl fun A F => ?_
        cases c7 : (decide (1099511627775 < nv)) with
        | true =>
          rw [c7] at F
          have hmx : 1099511627775 < nv := of_decide_eq_true c7
          refine sw_off F 2 rfl rfl rfl rfl rfl rfl rfl fun A F => ?_
          refine sw_off F 2 rfl rfl rfl rfl rfl rfl rfl fun A F => ?_
          refine sw_off F 2 rfl rfl rfl rfl rfl rfl rfl fun A F => ?_
          refine sw_off F 2 rfl rfl rfl rfl rfl rfl rfl fun A F => ?_
          refine sw_off F 2 rfl rfl rfl rfl rfl rfl rfl fun A F => ?_
          refine sw_offU F 7 rfl rfl rfl rfl rfl rfl fun A F => ?_
          refine sw_offU F 7 rfl rfl rfl rfl rfl rfl fun A F => ?_
          refine sw_offU F 7 rfl rfl rfl rfl rfl rfl fun A F => ?_
          refine sw_offU F 7 rfl rfl rfl rfl rfl rfl fun A F => ?_
          refine sw_offU F 7 rfl rfl rfl rfl rfl rfl fun A F => ?_
          refine sw_offU F 7 rfl rfl rfl rfl rfl rfl fun A F => ?_
          refine sw_offU F 7 rfl rfl rfl rfl rfl rfl fun A F => ?_
          refine sw_off F 2 rfl rfl rfl rfl rfl rfl rfl fun A F => ?_
          refine sw_pickT F ⟨rfl, rfl, rfl⟩ rfl rfl rfl fun A F => ?_
          refine sw_end ?_
          show Code.wp _ _ _ _ _
          refine sw_true F rfl ?_
          refine sw_reg ?_
          refine sw_move F ⟨rfl, rfl, rfl⟩ rfl rfl fun A F => ?_
          refine sw_callR (by kernel_rfl) (bad_0 6 text c b i 48 (((text.take j).drop i)) nv lv w kb) F ⟨rfl, rfl, rfl⟩ rfl rfl ?_
          rintro e w ⟨rfl, B, kb⟩
          replace hB := hB.trans B
          refine ⟨_, rfl, fun A F => ?_⟩
          refine sw_end ?_
          show Code.wp _ _ _ _ _
          refine sw_reg ?_
          refine sw_move F ⟨rfl, rfl, rfl⟩ rfl rfl fun A F => ?_
          refine sw_move F ⟨rfl, rfl, rfl⟩ rfl rfl fun A F => ?_
          refine sw_nil F ⟨rfl, rfl, rfl⟩ rfl rfl fun A F => ?_
          refine sw_fld F 1 ⟨rfl, rfl, rfl⟩ rfl (by kernel_rfl) rfl rfl fun A F => ?_
          refine sw_setX1 F ⟨rfl, rfl, rfl⟩ rfl rfl kb (by kernel_rfl) rfl rfl rfl fun w B kb => ?_
          replace hB := hB.trans B
          replace kb : Blk w b (pC text j 48 (((text.take j).drop i)) nv lv 6 c) 43 := kb
          refine sw_end ?_
          repeat (first | refine then_norm ?_ | refine block_norm ?_)
          exact sw_endnone F Tryd.results10 ⟨rfl, hB, _, _, _, _, _, kb, by rw [hr]; exact nx_number_bad hgeti hij hj hisL hisD hs hall (.inl (by rw [← hnv]; exact hmx)) _ _ _ _⟩
        | false =>
          rw [c7] at F
          have hmx : ¬ 1099511627775 < nv := of_decide_eq_false c7
          refine sw_on F 2 rfl rfl rfl rfl rfl ?_
          refine sw_move F ⟨rfl, rfl, rfl⟩ rfl rfl fun A F => ?_
          refine sw_on F 2 rfl rfl rfl rfl rfl ?_
          refine sw_move F ⟨rfl, rfl, rfl⟩ rfl rfl fun A F => ?_
          refine sw_on F 2 rfl rfl rfl rfl rfl ?_
          refine sw_subw F ⟨rfl, rfl, rfl⟩ rfl rfl rfl fun A F => ?_
          rw [wrapJ ((j : Int) - (i : Int)) (by omega) (by omega)] at F
          refine sw_on F 2 rfl rfl rfl rfl rfl ?_
          refine sw_gtr F ⟨rfl, rfl, rfl⟩ rfl rfl rfl fun A F => ?_
          refine sw_on F 2 rfl rfl rfl rfl rfl ?_
          refine sw_move F ⟨rfl, rfl, rfl⟩ rfl rfl fun A F => ?_
          cases c8 : (decide (1 < ((j : Int) - (i : Int)))) with
          | true =>
            rw [c8] at F
            have h1j : 1 < j - i := by have := of_decide_eq_true c8; omega
            refine sw_on F 7 rfl rfl rfl rfl rfl ?_
            refine sw_move F ⟨rfl, rfl, rfl⟩ rfl rfl fun A F => ?_
            refine sw_on F 7 rfl rfl rfl rfl rfl ?_
            refine sw_nil F ⟨rfl, rfl, rfl⟩ rfl rfl fun A F => ?_
            refine sw_on F 7 rfl rfl rfl rfl rfl ?_
            refine sw_fld F 0 ⟨rfl, rfl, rfl⟩ rfl (by kernel_rfl) rfl rfl fun A F => ?_
            refine sw_on F 7 rfl rfl rfl rfl rfl ?_
            refine sw_ext F ((kb.cell 0).trans rfl) ⟨rfl, rfl, rfl⟩ rfl (by kernel_rfl) rfl fun A F => ?_
            refine sw_on F 7 rfl rfl rfl rfl rfl ?_
            refine sw_move F ⟨rfl, rfl, rfl⟩ rfl rfl fun A F => ?_
            refine sw_on F 7 rfl rfl rfl rfl rfl ?_
            refine sw_index F ⟨rfl, rfl, rfl⟩ rfl rfl hgeti Tryd.underlying9 rfl fun A F => ?_
            refine sw_on F 7 rfl rfl rfl rfl rfl ?_
            refine sw_eql F ⟨rfl, rfl, rfl⟩ rfl rfl rfl fun A F => ?_
            refine sw_on F 2 rfl rfl rfl rfl rfl ?_
            refine sw_pickT F ⟨rfl, rfl, rfl⟩ rfl rfl rfl fun A F => ?_
            refine sw_pickF F ⟨rfl, rfl, rfl⟩ rfl rfl rfl fun A F => ?_
            refine sw_end ?_
            show Code.wp _ _ _ _ _
            refine sw_cond F rfl (fun hc9 => ?_) (fun hc9 => ?_)
            · skip
              have h48chi := hc9
              refine sw_reg ?_
              refine sw_move F ⟨rfl, rfl, rfl⟩ rfl rfl fun A F => ?_
              refine sw_callR (by kernel_rfl) (bad_0 6 text c b i 48 (((text.take j).drop i)) nv lv w kb) F ⟨rfl, rfl, rfl⟩ rfl rfl ?_
              rintro e w ⟨rfl, B, kb⟩
              replace hB := hB.trans B
              refine ⟨_, rfl, fun A F => ?_⟩
              refine sw_end ?_
              show Code.wp _ _ _ _ _
              refine sw_reg ?_
              refine sw_move F ⟨rfl, rfl, rfl⟩ rfl rfl fun A F => ?_
              refine sw_move F ⟨rfl, rfl, rfl⟩ rfl rfl fun A F => ?_
              refine sw_nil F ⟨rfl, rfl, rfl⟩ rfl rfl fun A F => ?_
              refine sw_fld F 1 ⟨rfl, rfl, rfl⟩ rfl (by kernel_rfl) rfl rfl fun A F => ?_
              refine sw_setX1 F ⟨rfl, rfl, rfl⟩ rfl rfl kb (by kernel_rfl) rfl rfl rfl fun w B kb => ?_
              replace hB := hB.trans B
              replace kb : Blk w b (pC text j 48 (((text.take j).drop i)) nv lv 6 c) 43 := kb
              refine sw_end ?_
              repeat (first | refine then_norm ?_ | refine block_norm ?_)
              exact sw_endnone F Tryd.results10 ⟨rfl, hB, _, _, _, _, _, kb, by rw [hr]; exact nx_number_bad hgeti hij hj hisL hisD hs hall (.inr ⟨h1j, byte_eq h48chi⟩) _ _ _ _⟩
            · skip
              have n48chi := hc9
              refine wp_skip ?_
              show Code.wp _ _ _ _ _
              refine sw_reg ?_
              refine sw_move F ⟨rfl, rfl, rfl⟩ rfl rfl fun A F => ?_
              refine sw_move F ⟨rfl, rfl, rfl⟩ rfl rfl fun A F => ?_
              refine sw_nil F ⟨rfl, rfl, rfl⟩ rfl rfl fun A F => ?_
              refine sw_fld F 1 ⟨rfl, rfl, rfl⟩ rfl (by kernel_rfl) rfl rfl fun A F => ?_
              refine sw_setX1 F ⟨rfl, rfl, rfl⟩ rfl rfl kb (by kernel_rfl) rfl rfl rfl fun w B kb => ?_
              replace hB := hB.trans B
              replace kb : Blk w b (pC text j 48 (((text.take j).drop i)) nv lv 0 c) 43 := kb
              refine sw_end ?_
              repeat (first | refine then_norm ?_ | refine block_norm ?_)
              exact sw_endnone F Tryd.results10 ⟨rfl, hB, _, _, _, _, _, kb, by rw [hr, hnv]; exact nx_number hgeti hij hj hisL hisD hs hall (by rw [← hnv]; omega) (fun q => byte_ne n48chi q.2) _⟩
          | false =>
            rw [c8] at F
            have h1j : ¬ 1 < j - i := by have := of_decide_eq_false c8; omega
            refine sw_off F 7 rfl rfl rfl rfl rfl rfl rfl fun A F => ?_
            refine sw_off F 7 rfl rfl rfl rfl rfl rfl rfl fun A F => ?_
            refine sw_off F 7 rfl rfl rfl rfl rfl rfl rfl fun A F => ?_
            refine sw_off F 7 rfl rfl rfl rfl rfl rfl rfl fun A F => ?_
            refine sw_off F 7 rfl rfl rfl rfl rfl rfl rfl fun A F => ?_
            refine sw_off F 7 rfl rfl rfl rfl rfl rfl rfl fun A F => ?_
            refine sw_off F 7 rfl rfl rfl rfl rfl rfl rfl fun A F => ?_
            refine sw_on F 2 rfl rfl rfl rfl rfl ?_
            refine sw_pickF F ⟨rfl, rfl, rfl⟩ rfl rfl rfl fun A F => ?_
            refine sw_pickF F ⟨rfl, rfl, rfl⟩ rfl rfl rfl fun A F => ?_
            refine sw_end ?_
            show Code.wp _ _ _ _ _
            refine sw_false F rfl ?_
            refine wp_skip ?_
            show Code.wp _ _ _ _ _
            refine sw_reg ?_
            refine sw_move F ⟨rfl, rfl, rfl⟩ rfl rfl fun A F => ?_
            refine sw_move F ⟨rfl, rfl, rfl⟩ rfl rfl fun A F => ?_
            refine sw_nil F ⟨rfl, rfl, rfl⟩ rfl rfl fun A F => ?_
            refine sw_fld F 1 ⟨rfl, rfl, rfl⟩ rfl (by kernel_rfl) rfl rfl fun A F => ?_
            refine sw_setX1 F ⟨rfl, rfl, rfl⟩ rfl rfl kb (by kernel_rfl) rfl rfl rfl fun w B kb => ?_
            replace hB := hB.trans B
            replace kb : Blk w b (pC text j 48 (((text.take j).drop i)) nv lv 0 c) 43 := kb
            refine sw_end ?_
            repeat (first | refine then_norm ?_ | refine block_norm ?_)
            exact sw_endnone F Tryd.results10 ⟨rfl, hB, _, _, _, _, _, kb, by rw [hr, hnv]; exact nx_number hgeti hij hj hisL hisD hs hall (by rw [← hnv]; omega) (by omega) _⟩
      · skip
        have hisD := hc6
        refine sw_seq ?_
        refine sw_reg ?_
        refine sw_callR (by kernel_rfl) (vs := []) (rpSigns_any _) F ⟨rfl, rfl, rfl⟩ rfl rfl ?_
        rintro e w ⟨x, rfl, hBw, hxn, hx⟩
        replace kb := kb.below hBw kb.lt
        replace hB := hB.trans (But.of_below hBw)
        refine ⟨_, rfl, fun A F => ?_⟩
        refine sw_asg F ⟨rfl, rfl, rfl⟩ rfl rfl fun A F => ?_
        refine sw_end ?_
        show Code.wp _ _ _ _ _
        refine sw_seq ?_
        refine sw_seq ?_
        refine sw_reg ?_
        refine sw_asg F ⟨rfl, rfl, rfl⟩ rfl rfl fun A F => ?_
        refine sw_end ?_
        show Code.wp _ _ _ _ _
        refine sign_loop text c b i 101 ([]) 0 lv kb hlen x i hx hi (F.keep [7, 6, 3, 2, 0] rfl) ?_ ?_
        · intro ch A A' w hd h
          simp only [Exit.then, Exit.inBlock] at h ⊢
          exact ⟨hd ▸ h.1, h.2⟩
        intro A w j F hBs kb hsg
        replace hB := hB.trans (But.of_below hBs)
        have hij : i ≤ j ∧ j ≤ text.length := by rcases hsg with ⟨h, _⟩ | ⟨g, _, _, h, h2⟩ <;> omega
        obtain ⟨hij, hj⟩ := hij
        show Code.wp _ _ _ _ _
        refine sw_seq ?_
        refine sw_reg ?_
        refine sw_move F ⟨rfl, rfl, rfl⟩ rfl rfl fun A F => ?_
        refine sw_move F ⟨rfl, rfl, rfl⟩ rfl rfl fun A F => ?_
        refine sw_nil F ⟨rfl, rfl, rfl⟩ rfl rfl fun A F => ?_
        refine sw_fld F 0 ⟨rfl, rfl, rfl⟩ rfl (by kernel_rfl) rfl rfl fun A F => ?_
        refine sw_ext F ((kb.cell 0).trans rfl) ⟨rfl, rfl, rfl⟩ rfl (by kernel_rfl) rfl fun A F => ?_
        refine sw_move F ⟨rfl, rfl, rfl⟩ rfl rfl fun A F => ?_
        refine sw_move F ⟨rfl, rfl, rfl⟩ rfl rfl fun A F => ?_
        refine sw_slice2 F ⟨rfl, rfl, rfl⟩ rfl rfl rfl ⟨hij, hj⟩ Tryd.underlying9 rfl fun A F => ?_
        refine sw_build F _ [.int .u8 115, .string (str ((text.take j).drop i)), .int .i64 0] ⟨rfl, rfl, rfl⟩ rfl (by kernel_rfl) rfl fun A F => ?_
        refine sw_nil F ⟨rfl, rfl, rfl⟩ rfl rfl fun A F => ?_
        refine sw_fld F 2 ⟨rfl, rfl, rfl⟩ rfl (by kernel_rfl) rfl rfl fun A F => ?_
        refine sw_setT F ⟨rfl, rfl, rfl⟩ rfl rfl kb (by kernel_rfl) fun w B kb => ?_
        replace hB := hB.trans B
        replace kb : Blk w b (pC text i 115 (((text.take j).drop i)) 0 lv 0 c) 43 := kb
        refine sw_end ?_
        show Code.wp _ _ _ _ _
        refine sw_seq ?_
        refine sw_reg ?_
        refine sw_move F ⟨rfl, rfl, rfl⟩ rfl rfl fun A F => ?_
        refine sw_move F ⟨rfl, rfl, rfl⟩ rfl rfl fun A F => ?_
        refine sw_eql F ⟨rfl, rfl, rfl⟩ rfl rfl rfl fun A F => ?_
        refine sw_end ?_
        show Code.wp _ _ _ _ _
        refine sw_cond F rfl (fun hc10 => ?_) (fun hc10 => ?_)
        · skip
          have hji := hc10
          refine sw_reg ?_
          refine sw_move F ⟨rfl, rfl, rfl⟩ rfl rfl fun A F => ?_
          refine sw_callR (by kernel_rfl) (bad_0 6 text c b i 115 (((text.take j).drop i)) 0 lv w kb) F ⟨rfl, rfl, rfl⟩ rfl rfl ?_
          rintro e w ⟨rfl, B, kb⟩
          replace hB := hB.trans B
          refine ⟨_, rfl, fun A F => ?_⟩
          refine sw_end ?_
          show Code.wp _ _ _ _ _
          refine sw_reg ?_
          refine sw_move F ⟨rfl, rfl, rfl⟩ rfl rfl fun A F => ?_
          refine sw_move F ⟨rfl, rfl, rfl⟩ rfl rfl fun A F => ?_
          refine sw_nil F ⟨rfl, rfl, rfl⟩ rfl rfl fun A F => ?_
          refine sw_fld F 1 ⟨rfl, rfl, rfl⟩ rfl (by kernel_rfl) rfl rfl fun A F => ?_
          refine sw_setX1 F ⟨rfl, rfl, rfl⟩ rfl rfl kb (by kernel_rfl) rfl rfl rfl fun w B kb => ?_
          replace hB := hB.trans B
          replace kb : Blk w b (pC text j 115 (((text.take j).drop i)) 0 lv 6 c) 43 := kb
          refine sw_end ?_
          repeat (first | refine then_norm ?_ | refine block_norm ?_)
          exact sw_endnone F Tryd.results10 ⟨rfl, hB, _, _, _, _, _, kb, by rw [hr]; exact nx_sgn_bad hgeti hisL hisD hsg (byte_nat hji) _ _ _ _⟩
        · skip
          have hji := hc10
          refine wp_skip ?_
          show Code.wp _ _ _ _ _
          refine sw_reg ?_
          refine sw_move F ⟨rfl, rfl, rfl⟩ rfl rfl fun A F => ?_
          refine sw_move F ⟨rfl, rfl, rfl⟩ rfl rfl fun A F => ?_
          refine sw_nil F ⟨rfl, rfl, rfl⟩ rfl rfl fun A F => ?_
          refine sw_fld F 1 ⟨rfl, rfl, rfl⟩ rfl (by kernel_rfl) rfl rfl fun A F => ?_
          refine sw_setX1 F ⟨rfl, rfl, rfl⟩ rfl rfl kb (by kernel_rfl) rfl rfl rfl fun w B kb => ?_
          replace hB := hB.trans B
          replace kb : Blk w b (pC text j 115 (((text.take j).drop i)) 0 lv 0 c) 43 := kb
          refine sw_end ?_
          repeat (first | refine then_norm ?_ | refine block_norm ?_)
          exact sw_endnone F Tryd.results10 ⟨rfl, hB, _, _, _, _, _, kb, by rw [hr]; exact nx_sgn hgeti hj hisL hisD hsg (nat_ne hji)⟩
end Go.Proofs.YtgpjlocgkdlnlaaDoor
