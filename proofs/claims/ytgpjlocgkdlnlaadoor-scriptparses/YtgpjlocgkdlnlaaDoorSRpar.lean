/- The answer's Parse. -/
import Derived.Test.YtgpjlocgkdlnlaaDoorSRitA
namespace Go.Proofs.YtgpjlocgkdlnlaaDoor
open Go.RowKit
set_option linter.unusedVariables false
set_option linter.unusedSimpArgs false

theorem PBox.most2 {text : Key} {c : C4} {w : World} {b : Nat} {S : ES} (R : PBox text c w b S) : need S ≤ 32784 := by
  cases S with
  | error e => exact Nat.zero_le _
  | ok σ =>
    obtain ⟨_, _, _, _, _, _, hs, _⟩ := R
    have := hs.1
    show 16 * mu σ ≤ 32784
    unfold mu
    split <;> omega
/-- Parse, its steps one behind the other. -/
theorem parse_steps (n : Nat) : parseM n = bnd nextT fun _ => bnd (takeT kContract) fun _ => bnd nameT fun s => bnd (takeT [123]) fun _ => bnd (itemsM n ([], [], [])) fun c => bnd (takeT [125]) fun _ => bnd endT fun _ => pur (ctP s c) := by
  simp only [parseM, contractM, bnd_assoc, bnd_pur]
theorem rend_err {S : ES} {kd n e : Int} {tx : Key} (h : PRel S kd tx n e) (q : (e == 0) = false) : Rv (fun _ => endT) S () S := by
  obtain ⟨er, rfl⟩ := prel_no h q
  exact Rv.of rfl
theorem rend_fin {S : ES} {kd n e : Int} {tx : Key} (h : PRel S kd tx n e) (q : (e == 0) = true) (k : (kd != 101) = false) : Rv (fun _ => endT) S () S := by
  obtain ⟨σ, rfl⟩ := prel_yes h q
  have hk : tokK σ.now = 101 := by rw [← h.1]; simpa using k
  refine Rv.of (Rel.of_ok ?_)
  simp [endT, kd_fin.1 hk]
theorem rend_long {S : ES} {kd n e : Int} {tx : Key} (h : PRel S kd tx n e) (q : (e == 0) = true) (k : (kd != 101) = true) : Rv (fun _ => endT) S () (.error 4) := by
  obtain ⟨σ, rfl⟩ := prel_yes h q
  have hk : tokK σ.now ≠ 101 := by rw [← h.1]; simpa using k
  refine Rv.of (Rel.of_err ?_)
  have : σ.now ≠ .fin := fun z => hk (kd_fin.2 z)
  simp [endT, this]
abbrev cz : C4 := (.string ⟨#[]⟩, .slice none 0 0, .slice none 0 0, .slice none 0 0)
theorem pc_range {text : Key} {at_ : Nat} {kd : Int} {tx : Key} {n lv e : Int} {c : C4} {w : World} {b : Nat} (kb : Blk w b (pC text at_ kd tx n lv e c) 43) : w.rangeAt b 7 [c.1, c.2.1, c.2.2.1, c.2.2.2] := fun j v hj => by
  match j, hj with
  | 0, hj => exact (kb.cell 7).trans (by simpa [pC] using hj)
  | 1, hj => exact (kb.cell 8).trans (by simpa [pC] using hj)
  | 2, hj => exact (kb.cell 9).trans (by simpa [pC] using hj)
  | 3, hj => exact (kb.cell 10).trans (by simpa [pC] using hj)
set_option maxRecDepth 8000 in
set_option maxHeartbeats 3200000 in
theorem rparse_p (text : Key) (wA : World) : Calls Tryd.prog 5 ([.string (str text)] : List Value).toArray wA (PaE text wA) := by
  have M : Mm (fun (_ : Unit) _ => True) (fun _ => False) wA [] () wA := Mm.begin trivial (fun _ q => q.elim) (fun _ _ _ _ _ => trivial)
  refine sw_fn Tryd.func5 rfl 67 Tryd.ntmps5 rfl fun A F => ?_
  refine sw_seq (sw_reg ?_)
  refine sw_alloc F M [.string ⟨#[]⟩, .slice none 0 0, .slice none 0 0, .slice none 0 0] ⟨rfl, rfl, rfl⟩ (by kernel_rfl) rfl fun x1 A w F M => ?_
  refine sw_asg F ⟨rfl, rfl, rfl⟩ rfl rfl fun A F => ?_
  refine sw_end ?_
  show Code.wp _ _ _ _ _
  refine sw_seq (sw_seq (sw_reg ?_))
  refine sw_move F ⟨rfl, rfl, rfl⟩ rfl rfl fun A F => ?_
  refine sw_slen F ⟨rfl, rfl, rfl⟩ rfl Tryd.underlying9 rfl fun A F => ?_
  refine sw_gtr F ⟨rfl, rfl, rfl⟩ rfl rfl rfl fun A F => ?_
  refine sw_end ?_
  show Code.wp _ _ _ _ _
  refine sw_cond F rfl (fun hc => ?_) (fun hc => ?_)
  · refine sw_seq (sw_reg ?_)
    refine sw_build F _ [.string ⟨#[]⟩, .slice none 0 0, .slice none 0 0, .slice none 0 0] ⟨rfl, rfl, rfl⟩ rfl (by kernel_rfl) rfl fun A F => ?_
    refine sw_setAll F M 0 ⟨rfl, rfl, rfl⟩ rfl rfl rfl (by kernel_rfl) rfl rfl fun w M => ?_
    refine sw_asg F ⟨rfl, rfl, rfl⟩ rfl rfl fun A F => ?_
    refine sw_end ?_
    show Code.wp _ _ _ _ _
    refine wp_ret ?_
    repeat (first | refine then_ret ?_ | refine block_ret ?_)
    exact sw_ret2 F Tryd.results5 rfl rfl (M.mem.box (k := 0) rfl).1 (by kernel_rfl) (by kernel_rfl) ⟨M.but.below (Nat.le_refl _) fun _ q => q.elim, .inl ⟨big hc, rfl⟩⟩
  have hlen : text.length ≤ 2048 := by
    have : ¬ (2048 : Int) < text.length := by simpa using hc
    omega
  refine wp_skip ?_
  show Code.wp _ _ _ _ _
  refine sw_seq (sw_reg ?_)
  refine sw_move F ⟨rfl, rfl, rfl⟩ rfl rfl fun A F => ?_
  refine sw_build F _ [.string (str text), .int .i64 0, .int .u8 0, .string ⟨#[]⟩, .int .i64 0, .int .i64 0, .int .i64 0, .string ⟨#[]⟩, .slice none 0 0, .slice none 0 0, .slice none 0 0] ⟨rfl, rfl, rfl⟩ rfl (by kernel_rfl) rfl fun A F => ?_
  refine sw_box F M [.string (str text), .int .i64 0, .int .u8 0, .string ⟨#[]⟩, .int .i64 0, .int .i64 0, .int .i64 0, .string ⟨#[]⟩, .slice none 0 0, .slice none 0 0, .slice none 0 0] ⟨rfl, rfl, rfl⟩ rfl rfl rfl fun r A w F M => ?_
  refine sw_asg F ⟨rfl, rfl, rfl⟩ rfl rfl fun A F => ?_
  refine sw_end ?_
  show Code.wp _ _ _ _ _
  obtain ⟨wR, HwR⟩ : ∃ wR, wR = w := ⟨_, rfl⟩
  have hBel : Below wA.heap.size wA wR := by rw [HwR]; exact M.but.below (Nat.le_refl _) fun _ q => q.elim
  obtain ⟨kr, hr⟩ := M.mem.box (k := 0) rfl
  obtain ⟨kx, hx⟩ := M.mem.box (k := 1) rfl
  have hxr : x1 ≠ r := M.mem.sep 0 1 _ _ r (by decide) rfl rfl rfl
  have R1 : PBox text cz w r (st0 text) := ⟨0, [], ⟨Nat.zero_le _, hlen⟩, rfl, kr, trivial, ⟨hlen, trivial⟩, by show (0 : Int) ≤ 32; omega, by
    show ((text.length + _ : Nat) : Int) - 5000 ≤ 0
    simp
    omega⟩
  have kx' : Blk wR x1 zeroC.toArray 26 := by rw [HwR]; exact kx
  clear M kr kx
  have M : Mm (PdX text cz r) (fun k => k = r) wR [] (st0 text) w := by rw [HwR]; exact pd_begin R1
  have kn := (Kn.here (F := parseM) (S := st0 text)).to parse_steps
  have hxw : x1 < wR.heap.size := kx'.lt
  clear R1 HwR
  refine sw_seq (sw_reg ?_)
  refine sw_move F ⟨rfl, rfl, rfl⟩ rfl rfl fun A F => ?_
  refine sw_call0 (rnext_m text _ r (st0 text)) F M ⟨rfl, rfl, rfl⟩ rfl rfl ?_
  rintro _ S1 A w ⟨_, h1⟩ F M
  replace kn := kn.step h1
  refine sw_end ?_
  show Code.wp _ _ _ _ _
  refine sw_seq (sw_reg ?_)
  refine sw_move F ⟨rfl, rfl, rfl⟩ rfl rfl fun A F => ?_
  refine sw_call0 (rneed_m kContract text _ r S1) F M ⟨rfl, rfl, rfl⟩ rfl rfl ?_
  rintro _ S2 A w ⟨_, h2⟩ F M
  replace kn := kn.step h2
  refine sw_end ?_
  show Code.wp _ _ _ _ _
  refine sw_seq (sw_reg ?_)
  refine sw_move F ⟨rfl, rfl, rfl⟩ rfl rfl fun A F => ?_
  refine sw_move F ⟨rfl, rfl, rfl⟩ rfl rfl fun A F => ?_
  refine sw_call0 (rname_m text _ r S2) F M ⟨rfl, rfl, rfl⟩ rfl rfl ?_
  rintro _ S3 A w ⟨_, nm, rfl, h3⟩ F M
  replace kn := kn.step h3
  refine sw_nil F ⟨rfl, rfl, rfl⟩ rfl rfl fun A F => ?_
  refine sw_fld F 7 ⟨rfl, rfl, rfl⟩ rfl (by kernel_rfl) rfl rfl fun A F => ?_
  refine sw_fld F 0 ⟨rfl, rfl, rfl⟩ rfl (by kernel_rfl) rfl rfl fun A F => ?_
  obtain ⟨at3, kd3, tx3, n3, lv3, er3, kb3, hr3, hn3⟩ := M.st.recell
  refine sw_setX1 F ⟨rfl, rfl, rfl⟩ rfl rfl kb3 (by kernel_rfl) rfl rfl rfl fun w B kb => ?_
  replace M := M.newC B (hn3 _ (cc nm none 0 [] none 0 [] none 0 []) kb)
  clear kb3 hr3 hn3 kb
  refine sw_end ?_
  show Code.wp _ _ _ _ _
  refine sw_seq (sw_reg ?_)
  refine sw_move F ⟨rfl, rfl, rfl⟩ rfl rfl fun A F => ?_
  refine sw_call0 (rneed_m [123] text _ r S3) F M ⟨rfl, rfl, rfl⟩ rfl rfl ?_
  rintro _ S4 A w ⟨_, h4⟩ F M
  replace kn := kn.step h4
  refine sw_end ?_
  show Code.wp _ _ _ _ _
  refine sw_cut (fun A w => ∃ a1 c1 e1 a2 c2 e2 a3 c3 e3 Sv, Fm 67 [(4, ptr r), (3, .int .i64 0), (2, ptr x1), (0, .string (str text))] A ∧ Mm (PdX text (cc nm a1 c1 e1 a2 c2 e2 a3 c3 e3) r) (fun k => k = r) wR [.row (.slice a1 e1.length c1) 65 2 e1, .row (.slice a2 e2.length c2) 48 3 e2, .row (.slice a3 e3.length c3) 51 5 e3] Sv w ∧ Rv (fun n => itemsM n ([], [], [])) S4 (pvRows e1, pvRows e2, pvRows e3) Sv) ?_ ?_
  · replace M := ((M.nilrow 51 5).nilrow 48 3).nilrow 65 2
    refine wp_block ?_
    have hm4 := M.st.most2
    have hl4 := lf_le S4
    refine wp_loop (fun A w => ∃ a1 c1 e1 a2 c2 e2 a3 c3 e3 Sv, Fm 67 [(4, ptr r), (3, .int .i64 0), (2, ptr x1), (0, .string (str text))] A ∧ Mm (PdX text (cc nm a1 c1 e1 a2 c2 e2 a3 c3 e3) r) (fun k => k = r) wR [.row (.slice a1 e1.length c1) 65 2 e1, .row (.slice a2 e2.length c2) 48 3 e2, .row (.slice a3 e3.length c3) 51 5 e3] Sv w ∧ Kn (fun n => itemsM n ([], [], [])) S4 (fun n => itemsM n (pvRows e1, pvRows e2, pvRows e3)) Sv ∧ e1.length + e2.length + e3.length + lf Sv ≤ 32786) (fun A w => pl text w r) ?_ ?_
    · exact ⟨none, 0, [], none, 0, [], none, 0, [], S4, F.keep [4, 3, 2, 0] rfl, M, Kn.here, by simp only [List.length_nil]; omega⟩
    rintro A w ⟨a1, c1, e1, a2, c2, e2, a3, c3, e3, Sv, F, M, kl, hln⟩
    have hpl := M.st.pl
    refine sw_seq (sw_seq (sw_reg ?_))
    refine sw_move F ⟨rfl, rfl, rfl⟩ rfl rfl fun A F => ?_
    refine sw_nil F ⟨rfl, rfl, rfl⟩ rfl rfl fun A F => ?_
    refine sw_fld F 6 ⟨rfl, rfl, rfl⟩ rfl (by kernel_rfl) rfl rfl fun A F => ?_
    obtain ⟨atz, kdz, txz, nz, lvz, erz, kbz, hrz⟩ := M.st.cells
    refine sw_ext F ((kbz.cell 6).trans rfl) ⟨rfl, rfl, rfl⟩ rfl (by kernel_rfl) rfl fun A F => ?_
    refine sw_eql F ⟨rfl, rfl, rfl⟩ rfl rfl rfl fun A F => ?_
    refine sw_end ?_
    show Code.wp _ _ _ _ _
    refine sw_cond F rfl (fun hc => ?_) (fun hc => ?_)
    · have hok := prel_yes hrz hc
      refine wp_skip ?_
      show Code.wp _ _ _ _ _
      refine wp_block ?_
      refine sw_seq (sw_reg ?_)
      refine sw_move F ⟨rfl, rfl, rfl⟩ rfl rfl fun A F => ?_
      refine sw_call0 (ris_m [125] text _ r Sv) F M ⟨rfl, rfl, rfl⟩ rfl rfl ?_
      rintro _ _ A w ⟨_, rfl, rfl⟩ F M
      refine sw_asg F ⟨rfl, rfl, rfl⟩ rfl rfl fun A F => ?_
      refine sw_end ?_
      show Code.wp _ _ _ _ _
      refine sw_seq (sw_seq (sw_reg ?_))
      refine sw_move F ⟨rfl, rfl, rfl⟩ rfl rfl fun A F => ?_
      refine sw_end ?_
      show Code.wp _ _ _ _ _
      refine sw_cond F rfl (fun hs => ?_) (fun hs => ?_)
      · refine wp_exit ?_
        repeat (first | refine then_exit ?_ | refine exit_block ?_ | refine exit_pass rfl ?_)
        exact ⟨a1, c1, e1, a2, c2, e2, a3, c3, e3, Sv, F.keep [4, 3, 2, 0] rfl, M, (((kl.succ.to (itemsM_succ _)).step (Rv.of (rel_is [125] Sv))).ifT_true hs).fin⟩
      · replace kl := ((kl.succ.to (itemsM_succ _)).step (Rv.of (rel_is [125] Sv))).ifT_false hs
        refine wp_skip ?_
        show Code.wp _ _ _ _ _
        refine sw_reg ?_
        refine sw_move F ⟨rfl, rfl, rfl⟩ rfl rfl fun A F => ?_
        refine sw_callR (by kernel_rfl) (ritem_c text r nm a1 c1 e1 a2 c2 e2 a3 c3 e3 [] wR w Sv M (by omega)) F ⟨rfl, rfl, rfl⟩ rfl rfl ?_
        rintro e w ⟨rfl, a4, d4, f1, a5, d5, f2, a6, d6, f3, Si, M, hf, hi⟩
        refine ⟨_, rfl, fun A F => ?_⟩
        refine sw_end ?_
        have hlt := lf_takes (F := fun n => itemM n (pvRows e1, pvRows e2, pvRows e3)) hi (item_takes _)
        have hSv : lf Sv = need Sv + 1 := by obtain ⟨σ, rfl⟩ := hok; rfl
        show _ ∧ _
        refine ⟨⟨_, _, f1, _, _, f2, _, _, f3, Si, F.keep [4, 3, 2, 0] rfl, M, kl.step hi, by omega⟩, ?_⟩
        rw [M.st.pl, hpl]
        omega
    · refine wp_exit ?_
      repeat (first | refine then_exit ?_ | refine exit_block ?_ | refine exit_pass rfl ?_)
      obtain ⟨er, rfl⟩ := prel_no hrz hc
      exact ⟨a1, c1, e1, a2, c2, e2, a3, c3, e3, _, F.keep [4, 3, 2, 0] rfl, M, kl.last (Rv.fault _ er _)⟩
  rintro A w ⟨a1, c1, e1, a2, c2, e2, a3, c3, e3, S5, F, M, h5⟩
  replace kn := kn.step h5
  refine sw_seq (sw_reg ?_)
  refine sw_move F ⟨rfl, rfl, rfl⟩ rfl rfl fun A F => ?_
  refine sw_call0 (rneed_m [125] text _ r S5) F M ⟨rfl, rfl, rfl⟩ rfl rfl ?_
  rintro _ S6 A w ⟨_, h6⟩ F M
  replace kn := kn.step h6
  refine sw_end ?_
  show Code.wp _ _ _ _ _
  refine sw_cut (fun A w => ∃ S7, Fm 67 [(4, ptr r), (3, .int .i64 0), (2, ptr x1), (0, .string (str text))] A ∧ Mm (PdX text (cc nm a1 c1 e1 a2 c2 e2 a3 c3 e3) r) (fun k => k = r) wR [.row (.slice a1 e1.length c1) 65 2 e1, .row (.slice a2 e2.length c2) 48 3 e2, .row (.slice a3 e3.length c3) 51 5 e3] S7 w ∧ Rv (fun _ => endT) S6 () S7) ?_ ?_
  · obtain ⟨atz, kdz, txz, nz, lvz, erz, kbz, hrz⟩ := M.st.cells
    refine sw_seq (sw_reg ?_)
    refine sw_move F ⟨rfl, rfl, rfl⟩ rfl rfl fun A F => ?_
    refine sw_nil F ⟨rfl, rfl, rfl⟩ rfl rfl fun A F => ?_
    refine sw_fld F 6 ⟨rfl, rfl, rfl⟩ rfl (by kernel_rfl) rfl rfl fun A F => ?_
    refine sw_ext F ((kbz.cell 6).trans rfl) ⟨rfl, rfl, rfl⟩ rfl (by kernel_rfl) rfl fun A F => ?_
    refine sw_eql F ⟨rfl, rfl, rfl⟩ rfl rfl rfl fun A F => ?_
    refine sw_move F ⟨rfl, rfl, rfl⟩ rfl rfl fun A F => ?_
    cases he : (erz == 0) with
    | false =>
      rw [he] at F
      refine sw_off F 5 rfl rfl rfl rfl rfl rfl rfl fun A F => ?_
      refine sw_off F 5 rfl rfl rfl rfl rfl rfl rfl fun A F => ?_
      refine sw_off F 5 rfl rfl rfl rfl rfl rfl rfl fun A F => ?_
      refine sw_off F 5 rfl rfl rfl rfl rfl rfl rfl fun A F => ?_
      refine sw_off F 5 rfl rfl rfl rfl rfl rfl rfl fun A F => ?_
      refine sw_off F 5 rfl rfl rfl rfl rfl rfl rfl fun A F => ?_
      refine sw_pickF F ⟨rfl, rfl, rfl⟩ rfl rfl rfl fun A F => ?_
      refine sw_end ?_
      show Code.wp _ _ _ _ _
      refine sw_false F rfl ?_
      refine wp_skip ?_
      exact ⟨S6, F.keep [4, 3, 2, 0] rfl, M, rend_err hrz he⟩
    | true =>
      rw [he] at F
      refine sw_on F 5 rfl rfl rfl rfl rfl ?_
      refine sw_move F ⟨rfl, rfl, rfl⟩ rfl rfl fun A F => ?_
      refine sw_on F 5 rfl rfl rfl rfl rfl ?_
      refine sw_nil F ⟨rfl, rfl, rfl⟩ rfl rfl fun A F => ?_
      refine sw_on F 5 rfl rfl rfl rfl rfl ?_
      refine sw_fld F 2 ⟨rfl, rfl, rfl⟩ rfl (by kernel_rfl) rfl rfl fun A F => ?_
      refine sw_on F 5 rfl rfl rfl rfl rfl ?_
      refine sw_fld F 0 ⟨rfl, rfl, rfl⟩ rfl (by kernel_rfl) rfl rfl fun A F => ?_
      refine sw_on F 5 rfl rfl rfl rfl rfl ?_
      refine sw_ext F ((kbz.cell 2).trans rfl) ⟨rfl, rfl, rfl⟩ rfl (by kernel_rfl) rfl fun A F => ?_
      refine sw_on F 5 rfl rfl rfl rfl rfl ?_
      refine sw_neq F ⟨rfl, rfl, rfl⟩ rfl rfl rfl fun A F => ?_
      refine sw_pickT F ⟨rfl, rfl, rfl⟩ rfl rfl rfl fun A F => ?_
      refine sw_end ?_
      show Code.wp _ _ _ _ _
      refine sw_cond F rfl (fun hk => ?_) (fun hk => ?_)
      · refine sw_reg ?_
        refine sw_move F ⟨rfl, rfl, rfl⟩ rfl rfl fun A F => ?_
        refine sw_nil F ⟨rfl, rfl, rfl⟩ rfl rfl fun A F => ?_
        refine sw_fld F 6 ⟨rfl, rfl, rfl⟩ rfl (by kernel_rfl) rfl rfl fun A F => ?_
        refine sw_setX1 F ⟨rfl, rfl, rfl⟩ rfl rfl kbz (by kernel_rfl) rfl rfl rfl fun w B kb => ?_
        have M2 : Mm (PdX text (cc nm a1 c1 e1 a2 c2 e2 a3 c3 e3) r) (fun k => k = r) wR _ (.error 4) w := M.unit B ⟨by decide, atz, kdz, txz, nz, lvz, kb⟩
        refine sw_end ?_
        exact ⟨.error 4, F.keep [4, 3, 2, 0] rfl, M2, rend_long hrz he hk⟩
      · refine wp_skip ?_
        exact ⟨S6, F.keep [4, 3, 2, 0] rfl, M, rend_fin hrz he hk⟩
  rintro A w ⟨S7, F, M, h7⟩
  have kfin := (kn.step h7).fin
  obtain ⟨atz, kdz, txz, nz, lvz, erz, kbz, hrz⟩ := M.st.cells
  have kxw := M.but.blk kx' hxr
  refine sw_seq (sw_seq (sw_reg ?_))
  refine sw_move F ⟨rfl, rfl, rfl⟩ rfl rfl fun A F => ?_
  refine sw_nil F ⟨rfl, rfl, rfl⟩ rfl rfl fun A F => ?_
  refine sw_fld F 6 ⟨rfl, rfl, rfl⟩ rfl (by kernel_rfl) rfl rfl fun A F => ?_
  refine sw_ext F ((kbz.cell 6).trans rfl) ⟨rfl, rfl, rfl⟩ rfl (by kernel_rfl) rfl fun A F => ?_
  refine sw_neq F ⟨rfl, rfl, rfl⟩ rfl rfl rfl fun A F => ?_
  refine sw_end ?_
  show Code.wp _ _ _ _ _
  refine sw_cond F rfl (fun he => ?_) (fun he => ?_)
  · obtain ⟨er, rfl⟩ := prel_err hrz he
    obtain ⟨rfl, hE2⟩ : erz = er ∧ er ≠ 0 := hrz
    refine sw_seq ?_
    refine wp_region_held (S := fun w' => w'.cell? ⟨r, 6, none⟩ = some (.int .i64 erz)) (by kernel_rfl) ?_
    show wpAnyH _ _ _ _ _ _ _ _ w.drew
    replace M := M.drew
    have hS : w.drew.cell? ⟨r, 6, none⟩ = some (.int .i64 erz) := (kbz.drew.cell 6).trans rfl
    refine sd_build F 0 [] zeroC rfl ⟨rfl, rfl, rfl⟩ rfl (by kernel_rfl) (by kernel_rfl) (by kernel_rfl) (by kernel_rfl) (fun _ _ _ h => h) rfl hS fun A F => ?_
    refine sd_move F 1 rfl ⟨rfl, rfl, rfl⟩ rfl (by kernel_rfl) (by kernel_rfl) (by kernel_rfl) (fun _ _ _ h => h) rfl hS fun A F => ?_
    refine sd_nil F 2 rfl ⟨rfl, rfl, rfl⟩ rfl (by kernel_rfl) (by kernel_rfl) (by kernel_rfl) (fun _ _ _ h => h) rfl hS fun A F => ?_
    refine sd_fld F 3 6 rfl ⟨rfl, rfl, rfl⟩ rfl (by kernel_rfl) rfl (by kernel_rfl) (by kernel_rfl) (by kernel_rfl) (fun _ _ _ h => h) rfl hS fun A F => ?_
    refine sd_cell F 4 rfl ⟨rfl, rfl, rfl⟩ rfl (by kernel_rfl) (fun _ h => h) (by kernel_rfl) (by kernel_rfl) (by kernel_rfl) (fun _ _ _ h => h) rfl hS fun A F => ?_
    refine sd_one 5 rfl (by kernel_rfl) rfl ?_
    refine sw_setX F (us := zeroC) ⟨rfl, rfl, rfl⟩ rfl rfl (kxw.below ((Below.refl w.heap.size w).drew) kxw.lt) (by kernel_rfl) rfl rfl fun w2 B2 kx2 => ?_
    have hS2 : w2.cell? ⟨r, 6, none⟩ = some (.int .i64 erz) := (B2.cell (p := ⟨r, 6, none⟩) M.st.lt (fun q => hxr q.symm)).trans hS
    refine sw_end ⟨hS2, ?_⟩
    refine sd_one 6 rfl (by kernel_rfl) rfl ?_
    refine sw_asg F ⟨rfl, rfl, rfl⟩ rfl rfl fun A F => ?_
    refine sw_end ⟨hS2, ?_⟩
    refine wpAnyH_done (by kernel_rfl) ?_ _
    show Code.wp _ _ _ _ _
    refine wp_ret ?_
    repeat (first | refine then_ret ?_ | refine block_ret ?_)
    refine sw_ret2 F Tryd.results5 rfl rfl kx2 (by kernel_rfl) (by kernel_rfl) ⟨below_but (below_but hBel M.but hr) B2 hx, .inr ⟨hlen, _, _, kfin, .inl ⟨erz, hE2, rfl, rfl⟩⟩⟩
  · obtain ⟨σ, rfl⟩ := prel_fine hrz he
    refine wp_skip ?_
    show Code.wp _ _ _ _ _
    refine sw_seq (sw_reg ?_)
    refine sw_move F ⟨rfl, rfl, rfl⟩ rfl rfl fun A F => ?_
    refine sw_nil F ⟨rfl, rfl, rfl⟩ rfl rfl fun A F => ?_
    refine sw_fld F 7 ⟨rfl, rfl, rfl⟩ rfl (by kernel_rfl) rfl rfl fun A F => ?_
    refine sw_rng F (cs := (ctF nm a1 c1 e1 a2 c2 e2 a3 c3 e3).map Fld.val) (pc_range kbz) ⟨rfl, rfl, rfl⟩ rfl (by kernel_rfl) (by kernel_rfl) rfl fun A F => ?_
    refine sw_setX F (cs := zeroC) (us := (ctF nm a1 c1 e1 a2 c2 e2 a3 c3 e3).map Fld.val) ⟨rfl, rfl, rfl⟩ rfl rfl kxw (by kernel_rfl) rfl rfl fun w2 B2 kx2 => ?_
    refine sw_asg F ⟨rfl, rfl, rfl⟩ rfl rfl fun A F => ?_
    refine sw_end ?_
    show Code.wp _ _ _ _ _
    refine wp_ret ?_
    have hl0 : lieAll wR.heap.size w (ctF nm a1 c1 e1 a2 c2 e2 a3 c3 e3) := lie_cons trivial (lie_cons (M.mem.rowlie 0 rfl) (lie_cons (M.mem.rowlie 1 rfl) (lie_cons (M.mem.rowlie 2 rfl) (lie_nil _ _))))
    have hl : lieAll wA.heap.size w2 (ctF nm a1 c1 e1 a2 c2 e2 a3 c3 e3) := (hl0.hi (Hi.of_but B2 fun k q => by rw [q]; exact hxw)).mono hBel.size
    refine sw_ret2 F Tryd.results5 rfl rfl kx2 (by kernel_rfl) (by kernel_rfl) ⟨below_but (below_but hBel M.but hr) B2 hx, .inr ⟨hlen, _, _, kfin, .inr ⟨σ, nm, a1, c1, e1, a2, c2, e2, a3, c3, e3, rfl, rfl, rfl, hl⟩⟩⟩
end Go.Proofs.YtgpjlocgkdlnlaaDoor
