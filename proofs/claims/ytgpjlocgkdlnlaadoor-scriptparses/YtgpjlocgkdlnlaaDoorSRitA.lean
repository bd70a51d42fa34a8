/- The answer's Parser: an item of a contract. -/
import Derived.Test.YtgpjlocgkdlnlaaDoorSRit0
namespace Go.Proofs.YtgpjlocgkdlnlaaDoor
open Go.RowKit
set_option linter.unusedVariables false
set_option linter.unusedSimpArgs false

set_option maxRecDepth 8000 in
set_option maxHeartbeats 3200000 in
theorem ritem_c (text : Key) (b : Nat) (nm : Key) (a1 : Option Addr) (c1 : Nat) (e1 : List (List Fld)) (a2 : Option Addr) (c2 : Nat) (e2 : List (List Fld)) (a3 : Option Addr) (c3 : Nat) (e3 : List (List Fld)) (Er : List Ent) (wO w : World) (S : ES) (M : Mm (PdX text (cc nm a1 c1 e1 a2 c2 e2 a3 c3 e3) b) (fun k => k = b) wO (.row (.slice a1 e1.length c1) 65 2 e1 :: .row (.slice a2 e2.length c2) 48 3 e2 :: .row (.slice a3 e3.length c3) 51 5 e3 :: Er) S w) (hlen : e1.length + e2.length + e3.length ≤ 32790) : Calls Tryd.prog 14 ([ptr b] : List Value).toArray w fun e w' => e = .returned (.tuple #[]) ∧ ∃ a1 c1 f1 a2 c2 f2 a3 c3 f3 S', Mm (PdX text (cc nm a1 c1 f1 a2 c2 f2 a3 c3 f3) b) (fun k => k = b) wO (.row (.slice a1 f1.length c1) 65 2 f1 :: .row (.slice a2 f2.length c2) 48 3 f2 :: .row (.slice a3 f3.length c3) 51 5 f3 :: Er) S' w' ∧ f1.length + f2.length + f3.length ≤ e1.length + e2.length + e3.length + 1 ∧ Rv (fun n => itemM n (pvRows e1, pvRows e2, pvRows e3)) S (pvRows f1, pvRows f2, pvRows f3) S' := by
  have kn := (Kn.here (F := fun n => itemM n (pvRows e1, pvRows e2, pvRows e3)) (S := S)).to (G' := fun n => itemX n e1.length e2.length e3.length (pvRows e1, pvRows e2, pvRows e3)) fun n => by unfold itemM itemX; simp only [pvRows_len]
  refine sw_fn Tryd.func14 rfl 166 Tryd.ntmps14 rfl fun A F => ?_
  refine sw_seq ?_
  refine sw_reg ?_
  refine sw_move F ⟨rfl, rfl, rfl⟩ rfl rfl fun A F => ?_
  refine sw_call0 (ris_m [115, 108, 111, 116] text _ b S) F M ⟨rfl, rfl, rfl⟩ rfl rfl ?_
  rintro _ _ A w ⟨_, rfl, rfl⟩ F M
  refine sw_asg F ⟨rfl, rfl, rfl⟩ rfl rfl fun A F => ?_
  refine sw_end ?_
  show Code.wp _ _ _ _ _
  refine sw_seq ?_
  refine sw_reg ?_
  refine sw_move F ⟨rfl, rfl, rfl⟩ rfl rfl fun A F => ?_
  refine sw_call0 (ris_m [109, 97, 112] text _ b S) F M ⟨rfl, rfl, rfl⟩ rfl rfl ?_
  rintro _ _ A w ⟨_, rfl, rfl⟩ F M
  refine sw_asg F ⟨rfl, rfl, rfl⟩ rfl rfl fun A F => ?_
  refine sw_end ?_
  show Code.wp _ _ _ _ _
  refine sw_seq ?_
  refine sw_seq ?_
  refine sw_reg ?_
  refine sw_move F ⟨rfl, rfl, rfl⟩ rfl rfl fun A F => ?_
  refine sw_move F ⟨rfl, rfl, rfl⟩ rfl rfl fun A F => ?_
  cases c51 : (stands [115, 108, 111, 116] S) with
  | true =>
    rw [c51] at F
    replace kn := (kn.step (Rv.of (rel_is [115, 108, 111, 116] S))).ifT_true c51
    refine sw_off F 1 rfl rfl rfl rfl rfl rfl rfl fun A F => ?_
    refine sw_pickT F ⟨rfl, rfl, rfl⟩ rfl rfl rfl fun A F => ?_
    refine sw_end ?_
    show Code.wp _ _ _ _ _
    refine sw_true F rfl ?_
    refine sw_seq ?_
    refine sw_seq ?_
    obtain ⟨atz52, kdz52, txz52, nz52, lvz52, erz52, kbz52, hrz52, hnz52⟩ := M.st.recell
    refine wp_region_held (S := fun w' => w'.cell? ⟨b, 8, none⟩ = some (.slice a1 e1.length c1) ∧ w'.cell? ⟨b, 9, none⟩ = some (.slice a2 e2.length c2)) (by kernel_rfl) ?_
    show wpAnyH _ _ _ _ _ _ _ _ w.drew
    replace M := M.drew
    have hS : w.drew.cell? ⟨b, 8, none⟩ = some (.slice a1 e1.length c1) ∧ w.drew.cell? ⟨b, 9, none⟩ = some (.slice a2 e2.length c2) := ⟨(kbz52.drew.cell 8).trans rfl, (kbz52.drew.cell 9).trans rfl⟩
    refine sd_move F 0 rfl ⟨rfl, rfl, rfl⟩ rfl (by kernel_rfl) (by kernel_rfl) (by kernel_rfl) (fun _ _ _ h => h) rfl hS fun A F => ?_
    refine sd_nil F 1 rfl ⟨rfl, rfl, rfl⟩ rfl (by kernel_rfl) (by kernel_rfl) (by kernel_rfl) (fun _ _ _ h => h) rfl hS fun A F => ?_
    refine sd_fld F 2 7 rfl ⟨rfl, rfl, rfl⟩ rfl (by kernel_rfl) rfl (by kernel_rfl) (by kernel_rfl) (by kernel_rfl) (fun _ _ _ h => h) rfl hS fun A F => ?_
    refine sd_fld F 3 1 rfl ⟨rfl, rfl, rfl⟩ rfl (by kernel_rfl) rfl (by kernel_rfl) (by kernel_rfl) (by kernel_rfl) (fun _ _ _ h => h) rfl hS fun A F => ?_
    refine sd_cell F 4 rfl ⟨rfl, rfl, rfl⟩ rfl (by kernel_rfl) (fun _ h => h.1) (by kernel_rfl) (by kernel_rfl) (by kernel_rfl) (fun _ _ _ h => h) rfl hS fun A F => ?_
    refine sd_len F 5 rfl ⟨rfl, rfl, rfl⟩ rfl (Tryd.underlying22) (by kernel_rfl) (by kernel_rfl) (by kernel_rfl) (fun _ _ _ h => h) rfl hS fun A F => ?_
    refine sd_move F 6 rfl ⟨rfl, rfl, rfl⟩ rfl (by kernel_rfl) (by kernel_rfl) (by kernel_rfl) (fun _ _ _ h => h) rfl hS fun A F => ?_
    refine sd_nil F 7 rfl ⟨rfl, rfl, rfl⟩ rfl (by kernel_rfl) (by kernel_rfl) (by kernel_rfl) (fun _ _ _ h => h) rfl hS fun A F => ?_
    refine sd_fld F 8 7 rfl ⟨rfl, rfl, rfl⟩ rfl (by kernel_rfl) rfl (by kernel_rfl) (by kernel_rfl) (by kernel_rfl) (fun _ _ _ h => h) rfl hS fun A F => ?_
    refine sd_fld F 9 2 rfl ⟨rfl, rfl, rfl⟩ rfl (by kernel_rfl) rfl (by kernel_rfl) (by kernel_rfl) (by kernel_rfl) (fun _ _ _ h => h) rfl hS fun A F => ?_
    refine sd_cell F 10 rfl ⟨rfl, rfl, rfl⟩ rfl (by kernel_rfl) (fun _ h => h.2) (by kernel_rfl) (by kernel_rfl) (by kernel_rfl) (fun _ _ _ h => h) rfl hS fun A F => ?_
    refine sd_len F 11 rfl ⟨rfl, rfl, rfl⟩ rfl (Tryd.underlying23) (by kernel_rfl) (by kernel_rfl) (by kernel_rfl) (fun _ _ _ h => h) rfl hS fun A F => ?_
    refine sd_add F 12 rfl ⟨rfl, rfl, rfl⟩ rfl rfl (by omega) (by kernel_rfl) (by kernel_rfl) (by kernel_rfl) (fun _ _ _ h => h) rfl hS fun A F => ?_
    refine sd_geq F 13 rfl ⟨rfl, rfl, rfl⟩ rfl rfl (by kernel_rfl) (by kernel_rfl) (by kernel_rfl) (fun _ _ _ h => h) rfl hS fun A F => ?_
    clear hS
    refine wpAnyH_done (by kernel_rfl) ?_ _
    show Code.wp _ _ _ _ _
    refine sw_cond F rfl (fun hc53 => ?_) (fun hc53 => ?_)
    · skip
      replace hc53 := of_decide_eq_true hc53
      refine sw_reg ?_
      refine sw_move F ⟨rfl, rfl, rfl⟩ rfl rfl fun A F => ?_
      refine sw_call0 (bad_m 3 (by decide) text _ b S) F M ⟨rfl, rfl, rfl⟩ rfl rfl ?_
      rintro _ S54 A w ⟨_, h55⟩ F M
      have hroom := room_ge hc53 h55
      replace kn := kn.step hroom
      refine sw_end ?_
      show Code.wp _ _ _ _ _
      refine sw_seq ?_
      refine sw_reg ?_
      refine sw_move F ⟨rfl, rfl, rfl⟩ rfl rfl fun A F => ?_
      refine sw_call0 (rnext_m text _ b S54) F M ⟨rfl, rfl, rfl⟩ rfl rfl ?_
      rintro _ S56 A w ⟨_, h57⟩ F M
      replace kn := kn.step (take_is (room_is c51.symm hroom) h57)
      refine sw_end ?_
      show Code.wp _ _ _ _ _
      refine sw_seq ?_
      refine sw_reg ?_
      refine sw_move F ⟨rfl, rfl, rfl⟩ rfl rfl fun A F => ?_
      refine sw_call0 (rname_m text _ b S56) F M ⟨rfl, rfl, rfl⟩ rfl rfl ?_
      rintro _ S58 A w ⟨_, s60, rfl, h59⟩ F M
      refine sw_asg F ⟨rfl, rfl, rfl⟩ rfl rfl fun A F => ?_
      refine sw_end ?_
      show Code.wp _ _ _ _ _
      refine sw_seq ?_
      refine sw_reg ?_
      refine sw_move F ⟨rfl, rfl, rfl⟩ rfl rfl fun A F => ?_
      refine sw_call0 (rneed_m [58] text _ b S58) F M ⟨rfl, rfl, rfl⟩ rfl rfl ?_
      rintro _ S61 A w ⟨_, h62⟩ F M
      refine sw_end ?_
      show Code.wp _ _ _ _ _
      refine sw_seq ?_
      refine sw_reg ?_
      refine sw_move F ⟨rfl, rfl, rfl⟩ rfl rfl fun A F => ?_
      refine sw_call0 (rkind_m text _ b S61) F M ⟨rfl, rfl, rfl⟩ rfl rfl ?_
      rintro _ S63 A w ⟨_, k65, rfl, hkk65, h64⟩ F M
      have hpar := param_of h59 h62 h64
      replace kn := kn.step hpar
      refine sw_asg F ⟨rfl, rfl, rfl⟩ rfl rfl fun A F => ?_
      refine sw_end ?_
      show Code.wp _ _ _ _ _
      refine sw_seq ?_
      refine sw_seq ?_
      refine sw_reg ?_
      refine sw_move F ⟨rfl, rfl, rfl⟩ rfl rfl fun A F => ?_
      refine sw_end ?_
      show Code.wp _ _ _ _ _
      refine sw_true F rfl ?_
      refine sw_reg ?_
      refine sw_move F ⟨rfl, rfl, rfl⟩ rfl rfl fun A F => ?_
      refine sw_move F ⟨rfl, rfl, rfl⟩ rfl rfl fun A F => ?_
      refine sw_nil F ⟨rfl, rfl, rfl⟩ rfl rfl fun A F => ?_
      refine sw_fld F 7 ⟨rfl, rfl, rfl⟩ rfl (by kernel_rfl) rfl rfl fun A F => ?_
      refine sw_fld F 1 ⟨rfl, rfl, rfl⟩ rfl (by kernel_rfl) rfl rfl fun A F => ?_
      obtain ⟨atz66, kdz66, txz66, nz66, lvz66, erz66, kbz66, hrz66, hnz66⟩ := M.st.recell
      refine sw_ext (v := .slice a1 e1.length c1) F ((kbz66.cell 8).trans rfl) ⟨rfl, rfl, rfl⟩ rfl (by kernel_rfl) rfl fun A F => ?_
      refine sw_move F ⟨rfl, rfl, rfl⟩ rfl rfl fun A F => ?_
      refine sw_move F ⟨rfl, rfl, rfl⟩ rfl rfl fun A F => ?_
      refine sw_build F _ [.string (str s60), .int .i64 k65] ⟨rfl, rfl, rfl⟩ rfl (by kernel_rfl) rfl fun A F => ?_
      replace M := M.join [Fld.s s60, Fld.i k65] (okf_cons (okf_s) (okf_cons (okf_i (by constructor <;> omega)) (okf_nil)))
      refine sw_app1 (z := .agg #[.string ⟨#[]⟩, .int .i64 0]) F M 1 0 ⟨rfl, rfl, rfl⟩ ⟨rfl, rfl, rfl⟩ rfl rfl (fun _ => rfl) rfl rfl (by kernel_rfl) (by kernel_rfl) rfl rfl (by kernel_rfl) rfl (by omega) rfl fun la68 lc69 _ A w F M => ?_
      simp only [List.set_cons_zero, List.set_cons_succ] at M
      refine sw_nil F ⟨rfl, rfl, rfl⟩ rfl rfl fun A F => ?_
      refine sw_fld F 7 ⟨rfl, rfl, rfl⟩ rfl (by kernel_rfl) rfl rfl fun A F => ?_
      refine sw_fld F 1 ⟨rfl, rfl, rfl⟩ rfl (by kernel_rfl) rfl rfl fun A F => ?_
      obtain ⟨atz70, kdz70, txz70, nz70, lvz70, erz70, kbz70, hrz70, hnz70⟩ := M.st.recell
      refine sw_setX1 F ⟨rfl, rfl, rfl⟩ rfl rfl kbz70 (by kernel_rfl) rfl rfl rfl fun w B kb => ?_
      replace M := M.newC B (hnz70 _ (cc nm la68 lc69 (e1 ++ [[Fld.s s60, Fld.i k65]]) a2 c2 e2 a3 c3 e3) kb)
      refine sw_end ?_
      show Code.wp _ _ _ _ _
      refine sw_seq ?_
      refine sw_reg ?_
      refine sw_move F ⟨rfl, rfl, rfl⟩ rfl rfl fun A F => ?_
      refine sw_call0 (rneed_m [59] text _ b S63) F M ⟨rfl, rfl, rfl⟩ rfl rfl ?_
      rintro _ S71 A w ⟨_, h72⟩ F M
      replace kn := kn.step h72
      refine sw_end ?_
      show Code.wp _ _ _ _ _
      refine wp_ret ?_
      repeat (first | refine then_ret ?_ | refine block_ret ?_)
      replace M := M.drop 0 rfl
      try simp only [List.eraseIdx_cons_zero, List.eraseIdx_cons_succ] at M
      refine sw_retnone F Tryd.results14 ⟨rfl, la68, lc69, (e1 ++ [[Fld.s s60, Fld.i k65]]), a2, c2, e2, a3, c3, e3, S71, M, ?_, ?_⟩
      · (try simp only [List.length_append, List.length_singleton]) <;> omega
      · first | exact kn.fin | (rw [pvRows_app]; exact kn.fin)
    · skip
      replace hc53 := of_decide_eq_false hc53
      have hroom := room_lt (S := S) hc53
      replace kn := kn.step hroom
      refine wp_skip ?_
      show Code.wp _ _ _ _ _
      refine sw_seq ?_
      refine sw_reg ?_
      refine sw_move F ⟨rfl, rfl, rfl⟩ rfl rfl fun A F => ?_
      refine sw_call0 (rnext_m text _ b S) F M ⟨rfl, rfl, rfl⟩ rfl rfl ?_
      rintro _ S73 A w ⟨_, h74⟩ F M
      replace kn := kn.step (take_is (room_is c51.symm hroom) h74)
      refine sw_end ?_
      show Code.wp _ _ _ _ _
      refine sw_seq ?_
      refine sw_reg ?_
      refine sw_move F ⟨rfl, rfl, rfl⟩ rfl rfl fun A F => ?_
      refine sw_call0 (rname_m text _ b S73) F M ⟨rfl, rfl, rfl⟩ rfl rfl ?_
      rintro _ S75 A w ⟨_, s77, rfl, h76⟩ F M
      refine sw_asg F ⟨rfl, rfl, rfl⟩ rfl rfl fun A F => ?_
      refine sw_end ?_
      show Code.wp _ _ _ _ _
      refine sw_seq ?_
      refine sw_reg ?_
      refine sw_move F ⟨rfl, rfl, rfl⟩ rfl rfl fun A F => ?_
      refine sw_call0 (rneed_m [58] text _ b S75) F M ⟨rfl, rfl, rfl⟩ rfl rfl ?_
      rintro _ S78 A w ⟨_, h79⟩ F M
      refine sw_end ?_
      show Code.wp _ _ _ _ _
      refine sw_seq ?_
      refine sw_reg ?_
      refine sw_move F ⟨rfl, rfl, rfl⟩ rfl rfl fun A F => ?_
      refine sw_call0 (rkind_m text _ b S78) F M ⟨rfl, rfl, rfl⟩ rfl rfl ?_
      rintro _ S80 A w ⟨_, k82, rfl, hkk82, h81⟩ F M
      have hpar := param_of h76 h79 h81
      replace kn := kn.step hpar
      refine sw_asg F ⟨rfl, rfl, rfl⟩ rfl rfl fun A F => ?_
      refine sw_end ?_
      show Code.wp _ _ _ _ _
      refine sw_seq ?_
      refine sw_seq ?_
      refine sw_reg ?_
      refine sw_move F ⟨rfl, rfl, rfl⟩ rfl rfl fun A F => ?_
      refine sw_end ?_
      show Code.wp _ _ _ _ _
      refine sw_true F rfl ?_
      refine sw_reg ?_
      refine sw_move F ⟨rfl, rfl, rfl⟩ rfl rfl fun A F => ?_
      refine sw_move F ⟨rfl, rfl, rfl⟩ rfl rfl fun A F => ?_
      refine sw_nil F ⟨rfl, rfl, rfl⟩ rfl rfl fun A F => ?_
      refine sw_fld F 7 ⟨rfl, rfl, rfl⟩ rfl (by kernel_rfl) rfl rfl fun A F => ?_
      refine sw_fld F 1 ⟨rfl, rfl, rfl⟩ rfl (by kernel_rfl) rfl rfl fun A F => ?_
      obtain ⟨atz83, kdz83, txz83, nz83, lvz83, erz83, kbz83, hrz83, hnz83⟩ := M.st.recell
      refine sw_ext (v := .slice a1 e1.length c1) F ((kbz83.cell 8).trans rfl) ⟨rfl, rfl, rfl⟩ rfl (by kernel_rfl) rfl fun A F => ?_
      refine sw_move F ⟨rfl, rfl, rfl⟩ rfl rfl fun A F => ?_
      refine sw_move F ⟨rfl, rfl, rfl⟩ rfl rfl fun A F => ?_
      refine sw_build F _ [.string (str s77), .int .i64 k82] ⟨rfl, rfl, rfl⟩ rfl (by kernel_rfl) rfl fun A F => ?_
      replace M := M.join [Fld.s s77, Fld.i k82] (okf_cons (okf_s) (okf_cons (okf_i (by constructor <;> omega)) (okf_nil)))
      refine sw_app1 (z := .agg #[.string ⟨#[]⟩, .int .i64 0]) F M 1 0 ⟨rfl, rfl, rfl⟩ ⟨rfl, rfl, rfl⟩ rfl rfl (fun _ => rfl) rfl rfl (by kernel_rfl) (by kernel_rfl) rfl rfl (by kernel_rfl) rfl (by omega) rfl fun la85 lc86 _ A w F M => ?_
      simp only [List.set_cons_zero, List.set_cons_succ] at M
      refine sw_nil F ⟨rfl, rfl, rfl⟩ rfl rfl fun A F => ?_
      refine sw_fld F 7 ⟨rfl, rfl, rfl⟩ rfl (by kernel_rfl) rfl rfl fun A F => ?_
      refine sw_fld F 1 ⟨rfl, rfl, rfl⟩ rfl (by kernel_rfl) rfl rfl fun A F => ?_
      obtain ⟨atz87, kdz87, txz87, nz87, lvz87, erz87, kbz87, hrz87, hnz87⟩ := M.st.recell
      refine sw_setX1 F ⟨rfl, rfl, rfl⟩ rfl rfl kbz87 (by kernel_rfl) rfl rfl rfl fun w B kb => ?_
      replace M := M.newC B (hnz87 _ (cc nm la85 lc86 (e1 ++ [[Fld.s s77, Fld.i k82]]) a2 c2 e2 a3 c3 e3) kb)
      refine sw_end ?_
      show Code.wp _ _ _ _ _
      refine sw_seq ?_
      refine sw_reg ?_
      refine sw_move F ⟨rfl, rfl, rfl⟩ rfl rfl fun A F => ?_
      refine sw_call0 (rneed_m [59] text _ b S80) F M ⟨rfl, rfl, rfl⟩ rfl rfl ?_
      rintro _ S88 A w ⟨_, h89⟩ F M
      replace kn := kn.step h89
      refine sw_end ?_
      show Code.wp _ _ _ _ _
      refine wp_ret ?_
      repeat (first | refine then_ret ?_ | refine block_ret ?_)
      replace M := M.drop 0 rfl
      try simp only [List.eraseIdx_cons_zero, List.eraseIdx_cons_succ] at M
      refine sw_retnone F Tryd.results14 ⟨rfl, la85, lc86, (e1 ++ [[Fld.s s77, Fld.i k82]]), a2, c2, e2, a3, c3, e3, S88, M, ?_, ?_⟩
      · (try simp only [List.length_append, List.length_singleton]) <;> omega
      · first | exact kn.fin | (rw [pvRows_app]; exact kn.fin)
  | false =>
    rw [c51] at F
    replace kn := (kn.step (Rv.of (rel_is [115, 108, 111, 116] S))).ifT_false c51
    refine sw_on F 1 rfl rfl rfl rfl rfl ?_
    refine sw_move F ⟨rfl, rfl, rfl⟩ rfl rfl fun A F => ?_
    refine sw_pickF F ⟨rfl, rfl, rfl⟩ rfl rfl rfl fun A F => ?_
    refine sw_end ?_
    show Code.wp _ _ _ _ _
    refine sw_cond F rfl (fun hc90 => ?_) (fun hc90 => ?_)
    · skip
      replace kn := (kn.step (Rv.of (rel_is [109, 97, 112] S))).ifT_true hc90
      replace kn := kn.to (G' := fun n => bnd (roomT ((e1.length : Int) + (e2.length : Int)) 32) fun _ => bnd (takeT [109, 97, 112]) fun _ => bnd nameT fun s => bnd (takeT [58]) fun _ => bnd kindT fun k => bnd (takeT [45, 62]) fun _ => bnd kindT fun j => bnd (takeT [59]) fun _ => pur (pvRows e1, pvRows e2 ++ [tbP s k j], pvRows e3)) fun n => by simp only [tableT, bnd_assoc, bnd_pur]
      refine sw_seq ?_
      refine sw_seq ?_
      obtain ⟨atz91, kdz91, txz91, nz91, lvz91, erz91, kbz91, hrz91, hnz91⟩ := M.st.recell
      refine wp_region_held (S := fun w' => w'.cell? ⟨b, 8, none⟩ = some (.slice a1 e1.length c1) ∧ w'.cell? ⟨b, 9, none⟩ = some (.slice a2 e2.length c2)) (by kernel_rfl) ?_
      show wpAnyH _ _ _ _ _ _ _ _ w.drew
      replace M := M.drew
      have hS : w.drew.cell? ⟨b, 8, none⟩ = some (.slice a1 e1.length c1) ∧ w.drew.cell? ⟨b, 9, none⟩ = some (.slice a2 e2.length c2) := ⟨(kbz91.drew.cell 8).trans rfl, (kbz91.drew.cell 9).trans rfl⟩
      refine sd_move F 0 rfl ⟨rfl, rfl, rfl⟩ rfl (by kernel_rfl) (by kernel_rfl) (by kernel_rfl) (fun _ _ _ h => h) rfl hS fun A F => ?_
      refine sd_nil F 1 rfl ⟨rfl, rfl, rfl⟩ rfl (by kernel_rfl) (by kernel_rfl) (by kernel_rfl) (fun _ _ _ h => h) rfl hS fun A F => ?_
      refine sd_fld F 2 7 rfl ⟨rfl, rfl, rfl⟩ rfl (by kernel_rfl) rfl (by kernel_rfl) (by kernel_rfl) (by kernel_rfl) (fun _ _ _ h => h) rfl hS fun A F => ?_
      refine sd_fld F 3 1 rfl ⟨rfl, rfl, rfl⟩ rfl (by kernel_rfl) rfl (by kernel_rfl) (by kernel_rfl) (by kernel_rfl) (fun _ _ _ h => h) rfl hS fun A F => ?_
      refine sd_cell F 4 rfl ⟨rfl, rfl, rfl⟩ rfl (by kernel_rfl) (fun _ h => h.1) (by kernel_rfl) (by kernel_rfl) (by kernel_rfl) (fun _ _ _ h => h) rfl hS fun A F => ?_
      refine sd_len F 5 rfl ⟨rfl, rfl, rfl⟩ rfl (Tryd.underlying22) (by kernel_rfl) (by kernel_rfl) (by kernel_rfl) (fun _ _ _ h => h) rfl hS fun A F => ?_
      refine sd_move F 6 rfl ⟨rfl, rfl, rfl⟩ rfl (by kernel_rfl) (by kernel_rfl) (by kernel_rfl) (fun _ _ _ h => h) rfl hS fun A F => ?_
      refine sd_nil F 7 rfl ⟨rfl, rfl, rfl⟩ rfl (by kernel_rfl) (by kernel_rfl) (by kernel_rfl) (fun _ _ _ h => h) rfl hS fun A F => ?_
      refine sd_fld F 8 7 rfl ⟨rfl, rfl, rfl⟩ rfl (by kernel_rfl) rfl (by kernel_rfl) (by kernel_rfl) (by kernel_rfl) (fun _ _ _ h => h) rfl hS fun A F => ?_
      refine sd_fld F 9 2 rfl ⟨rfl, rfl, rfl⟩ rfl (by kernel_rfl) rfl (by kernel_rfl) (by kernel_rfl) (by kernel_rfl) (fun _ _ _ h => h) rfl hS fun A F => ?_
      refine sd_cell F 10 rfl ⟨rfl, rfl, rfl⟩ rfl (by kernel_rfl) (fun _ h => h.2) (by kernel_rfl) (by kernel_rfl) (by kernel_rfl) (fun _ _ _ h => h) rfl hS fun A F => ?_
      refine sd_len F 11 rfl ⟨rfl, rfl, rfl⟩ rfl (Tryd.underlying23) (by kernel_rfl) (by kernel_rfl) (by kernel_rfl) (fun _ _ _ h => h) rfl hS fun A F => ?_
      refine sd_add F 12 rfl ⟨rfl, rfl, rfl⟩ rfl rfl (by omega) (by kernel_rfl) (by kernel_rfl) (by kernel_rfl) (fun _ _ _ h => h) rfl hS fun A F => ?_
      refine sd_geq F 13 rfl ⟨rfl, rfl, rfl⟩ rfl rfl (by kernel_rfl) (by kernel_rfl) (by kernel_rfl) (fun _ _ _ h => h) rfl hS fun A F => ?_
      clear hS
      refine wpAnyH_done (by kernel_rfl) ?_ _
      show Code.wp _ _ _ _ _
      refine sw_cond F rfl (fun hc92 => ?_) (fun hc92 => ?_)
      · skip
        replace hc92 := of_decide_eq_true hc92
        refine sw_reg ?_
        refine sw_move F ⟨rfl, rfl, rfl⟩ rfl rfl fun A F => ?_
        refine sw_call0 (bad_m 3 (by decide) text _ b S) F M ⟨rfl, rfl, rfl⟩ rfl rfl ?_
        rintro _ S93 A w ⟨_, h94⟩ F M
        have hroom := room_ge hc92 h94
        replace kn := kn.step hroom
        refine sw_end ?_
        show Code.wp _ _ _ _ _
        refine sw_seq ?_
        refine sw_reg ?_
        refine sw_move F ⟨rfl, rfl, rfl⟩ rfl rfl fun A F => ?_
        refine sw_call0 (rnext_m text _ b S93) F M ⟨rfl, rfl, rfl⟩ rfl rfl ?_
        rintro _ S95 A w ⟨_, h96⟩ F M
        replace kn := kn.step (take_is (room_is hc90.symm hroom) h96)
        refine sw_end ?_
        show Code.wp _ _ _ _ _
        refine sw_seq ?_
        refine sw_reg ?_
        refine sw_move F ⟨rfl, rfl, rfl⟩ rfl rfl fun A F => ?_
        refine sw_call0 (rname_m text _ b S95) F M ⟨rfl, rfl, rfl⟩ rfl rfl ?_
        rintro _ S97 A w ⟨_, s99, rfl, h98⟩ F M
        replace kn := kn.step h98
        refine sw_asg F ⟨rfl, rfl, rfl⟩ rfl rfl fun A F => ?_
        refine sw_end ?_
        show Code.wp _ _ _ _ _
        refine sw_seq ?_
        refine sw_reg ?_
        refine sw_move F ⟨rfl, rfl, rfl⟩ rfl rfl fun A F => ?_
        refine sw_call0 (rneed_m [58] text _ b S97) F M ⟨rfl, rfl, rfl⟩ rfl rfl ?_
        rintro _ S100 A w ⟨_, h101⟩ F M
        replace kn := kn.step h101
        refine sw_end ?_
        show Code.wp _ _ _ _ _
        refine sw_seq ?_
        refine sw_reg ?_
        refine sw_move F ⟨rfl, rfl, rfl⟩ rfl rfl fun A F => ?_
        refine sw_call0 (rkind_m text _ b S100) F M ⟨rfl, rfl, rfl⟩ rfl rfl ?_
        rintro _ S102 A w ⟨_, k104, rfl, hkk104, h103⟩ F M
        replace kn := kn.step h103
        refine sw_asg F ⟨rfl, rfl, rfl⟩ rfl rfl fun A F => ?_
        refine sw_end ?_
        show Code.wp _ _ _ _ _
        refine sw_seq ?_
        refine sw_seq ?_
        refine sw_reg ?_
        refine sw_move F ⟨rfl, rfl, rfl⟩ rfl rfl fun A F => ?_
        refine sw_end ?_
        show Code.wp _ _ _ _ _
        refine sw_false F rfl ?_
        refine sw_seq ?_
        refine sw_reg ?_
        refine sw_move F ⟨rfl, rfl, rfl⟩ rfl rfl fun A F => ?_
        refine sw_call0 (rneed_m [45, 62] text _ b S102) F M ⟨rfl, rfl, rfl⟩ rfl rfl ?_
        rintro _ S105 A w ⟨_, h106⟩ F M
        replace kn := kn.step h106
        refine sw_end ?_
        show Code.wp _ _ _ _ _
        refine sw_seq ?_
        refine sw_reg ?_
        refine sw_move F ⟨rfl, rfl, rfl⟩ rfl rfl fun A F => ?_
        refine sw_call0 (rkind_m text _ b S105) F M ⟨rfl, rfl, rfl⟩ rfl rfl ?_
        rintro _ S107 A w ⟨_, k109, rfl, hkk109, h108⟩ F M
        replace kn := kn.step h108
        refine sw_asg F ⟨rfl, rfl, rfl⟩ rfl rfl fun A F => ?_
        refine sw_end ?_
        show Code.wp _ _ _ _ _
        refine sw_reg ?_
        refine sw_move F ⟨rfl, rfl, rfl⟩ rfl rfl fun A F => ?_
        refine sw_move F ⟨rfl, rfl, rfl⟩ rfl rfl fun A F => ?_
        refine sw_nil F ⟨rfl, rfl, rfl⟩ rfl rfl fun A F => ?_
        refine sw_fld F 7 ⟨rfl, rfl, rfl⟩ rfl (by kernel_rfl) rfl rfl fun A F => ?_
        refine sw_fld F 2 ⟨rfl, rfl, rfl⟩ rfl (by kernel_rfl) rfl rfl fun A F => ?_
        obtain ⟨atz110, kdz110, txz110, nz110, lvz110, erz110, kbz110, hrz110, hnz110⟩ := M.st.recell
        refine sw_ext (v := .slice a2 e2.length c2) F ((kbz110.cell 9).trans rfl) ⟨rfl, rfl, rfl⟩ rfl (by kernel_rfl) rfl fun A F => ?_
        refine sw_move F ⟨rfl, rfl, rfl⟩ rfl rfl fun A F => ?_
        refine sw_move F ⟨rfl, rfl, rfl⟩ rfl rfl fun A F => ?_
        refine sw_move F ⟨rfl, rfl, rfl⟩ rfl rfl fun A F => ?_
        refine sw_build F _ [.string (str s99), .int .i64 k104, .int .i64 k109] ⟨rfl, rfl, rfl⟩ rfl (by kernel_rfl) rfl fun A F => ?_
        replace M := M.join [Fld.s s99, Fld.i k104, Fld.i k109] (okf_cons (okf_s) (okf_cons (okf_i (by constructor <;> omega)) (okf_cons (okf_i (by constructor <;> omega)) (okf_nil))))
        refine sw_app1 (z := .agg #[.string ⟨#[]⟩, .int .i64 0, .int .i64 0]) F M 2 0 ⟨rfl, rfl, rfl⟩ ⟨rfl, rfl, rfl⟩ rfl rfl (fun _ => rfl) rfl rfl (by kernel_rfl) (by kernel_rfl) rfl rfl (by kernel_rfl) rfl (by omega) rfl fun la112 lc113 _ A w F M => ?_
        simp only [List.set_cons_zero, List.set_cons_succ] at M
        refine sw_nil F ⟨rfl, rfl, rfl⟩ rfl rfl fun A F => ?_
        refine sw_fld F 7 ⟨rfl, rfl, rfl⟩ rfl (by kernel_rfl) rfl rfl fun A F => ?_
        refine sw_fld F 2 ⟨rfl, rfl, rfl⟩ rfl (by kernel_rfl) rfl rfl fun A F => ?_
        obtain ⟨atz114, kdz114, txz114, nz114, lvz114, erz114, kbz114, hrz114, hnz114⟩ := M.st.recell
        refine sw_setX1 F ⟨rfl, rfl, rfl⟩ rfl rfl kbz114 (by kernel_rfl) rfl rfl rfl fun w B kb => ?_
        replace M := M.newC B (hnz114 _ (cc nm a1 c1 e1 la112 lc113 (e2 ++ [[Fld.s s99, Fld.i k104, Fld.i k109]]) a3 c3 e3) kb)
        refine sw_end ?_
        show Code.wp _ _ _ _ _
        refine sw_seq ?_
        refine sw_reg ?_
        refine sw_move F ⟨rfl, rfl, rfl⟩ rfl rfl fun A F => ?_
        refine sw_call0 (rneed_m [59] text _ b S107) F M ⟨rfl, rfl, rfl⟩ rfl rfl ?_
        rintro _ S115 A w ⟨_, h116⟩ F M
        replace kn := kn.step h116
        refine sw_end ?_
        show Code.wp _ _ _ _ _
        refine wp_ret ?_
        repeat (first | refine then_ret ?_ | refine block_ret ?_)
        replace M := M.drop 0 rfl
        try simp only [List.eraseIdx_cons_zero, List.eraseIdx_cons_succ] at M
        refine sw_retnone F Tryd.results14 ⟨rfl, a1, c1, e1, la112, lc113, (e2 ++ [[Fld.s s99, Fld.i k104, Fld.i k109]]), a3, c3, e3, S115, M, ?_, ?_⟩
        · (try simp only [List.length_append, List.length_singleton]) <;> omega
        · first | exact kn.fin | (rw [pvRows_app]; exact kn.fin)
      · skip
        replace hc92 := of_decide_eq_false hc92
        have hroom := room_lt (S := S) hc92
        replace kn := kn.step hroom
        refine wp_skip ?_
        show Code.wp _ _ _ _ _
        refine sw_seq ?_
        refine sw_reg ?_
        refine sw_move F ⟨rfl, rfl, rfl⟩ rfl rfl fun A F => ?_
        refine sw_call0 (rnext_m text _ b S) F M ⟨rfl, rfl, rfl⟩ rfl rfl ?_
        rintro _ S117 A w ⟨_, h118⟩ F M
        replace kn := kn.step (take_is (room_is hc90.symm hroom) h118)
        refine sw_end ?_
        show Code.wp _ _ _ _ _
        refine sw_seq ?_
        refine sw_reg ?_
        refine sw_move F ⟨rfl, rfl, rfl⟩ rfl rfl fun A F => ?_
        refine sw_call0 (rname_m text _ b S117) F M ⟨rfl, rfl, rfl⟩ rfl rfl ?_
        rintro _ S119 A w ⟨_, s121, rfl, h120⟩ F M
        replace kn := kn.step h120
        refine sw_asg F ⟨rfl, rfl, rfl⟩ rfl rfl fun A F => ?_
        refine sw_end ?_
        show Code.wp _ _ _ _ _
        refine sw_seq ?_
        refine sw_reg ?_
        refine sw_move F ⟨rfl, rfl, rfl⟩ rfl rfl fun A F => ?_
        refine sw_call0 (rneed_m [58] text _ b S119) F M ⟨rfl, rfl, rfl⟩ rfl rfl ?_
        rintro _ S122 A w ⟨_, h123⟩ F M
        replace kn := kn.step h123
        refine sw_end ?_
        show Code.wp _ _ _ _ _
        refine sw_seq ?_
        refine sw_reg ?_
        refine sw_move F ⟨rfl, rfl, rfl⟩ rfl rfl fun A F => ?_
        refine sw_call0 (rkind_m text _ b S122) F M ⟨rfl, rfl, rfl⟩ rfl rfl ?_
        rintro _ S124 A w ⟨_, k126, rfl, hkk126, h125⟩ F M
        replace kn := kn.step h125
        refine sw_asg F ⟨rfl, rfl, rfl⟩ rfl rfl fun A F => ?_
        refine sw_end ?_
        show Code.wp _ _ _ _ _
        refine sw_seq ?_
        refine sw_seq ?_
        refine sw_reg ?_
        refine sw_move F ⟨rfl, rfl, rfl⟩ rfl rfl fun A F => ?_
        refine sw_end ?_
        show Code.wp _ _ _ _ _
        refine sw_false F rfl ?_
        refine sw_seq ?_
        refine sw_reg ?_
        refine sw_move F ⟨rfl, rfl, rfl⟩ rfl rfl fun A F => ?_
        refine sw_call0 (rneed_m [45, 62] text _ b S124) F M ⟨rfl, rfl, rfl⟩ rfl rfl ?_
        rintro _ S127 A w ⟨_, h128⟩ F M
        replace kn := kn.step h128
        refine sw_end ?_
        show Code.wp _ _ _ _ _
        refine sw_seq ?_
        refine sw_reg ?_
        refine sw_move F ⟨rfl, rfl, rfl⟩ rfl rfl fun A F => ?_
        refine sw_call0 (rkind_m text _ b S127) F M ⟨rfl, rfl, rfl⟩ rfl rfl ?_
        rintro _ S129 A w ⟨_, k131, rfl, hkk131, h130⟩ F M
        replace kn := kn.step h130
        refine sw_asg F ⟨rfl, rfl, rfl⟩ rfl rfl fun A F => ?_
        refine sw_end ?_
        show Code.wp _ _ _ _ _
        refine sw_reg ?_
        refine sw_move F ⟨rfl, rfl, rfl⟩ rfl rfl fun A F => ?_
        refine sw_move F ⟨rfl, rfl, rfl⟩ rfl rfl fun A F => ?_
        refine sw_nil F ⟨rfl, rfl, rfl⟩ rfl rfl fun A F => ?_
        refine sw_fld F 7 ⟨rfl, rfl, rfl⟩ rfl (by kernel_rfl) rfl rfl fun A F => ?_
        refine sw_fld F 2 ⟨rfl, rfl, rfl⟩ rfl (by kernel_rfl) rfl rfl fun A F => ?_
        obtain ⟨atz132, kdz132, txz132, nz132, lvz132, erz132, kbz132, hrz132, hnz132⟩ := M.st.recell
        refine sw_ext (v := .slice a2 e2.length c2) F ((kbz132.cell 9).trans rfl) ⟨rfl, rfl, rfl⟩ rfl (by kernel_rfl) rfl fun A F => ?_
        refine sw_move F ⟨rfl, rfl, rfl⟩ rfl rfl fun A F => ?_
        refine sw_move F ⟨rfl, rfl, rfl⟩ rfl rfl fun A F => ?_
        refine sw_move F ⟨rfl, rfl, rfl⟩ rfl rfl fun A F => ?_
        refine sw_build F _ [.string (str s121), .int .i64 k126, .int .i64 k131] ⟨rfl, rfl, rfl⟩ rfl (by kernel_rfl) rfl fun A F => ?_
        replace M := M.join [Fld.s s121, Fld.i k126, Fld.i k131] (okf_cons (okf_s) (okf_cons (okf_i (by constructor <;> omega)) (okf_cons (okf_i (by constructor <;> omega)) (okf_nil))))
        refine sw_app1 (z := .agg #[.string ⟨#[]⟩, .int .i64 0, .int .i64 0]) F M 2 0 ⟨rfl, rfl, rfl⟩ ⟨rfl, rfl, rfl⟩ rfl rfl (fun _ => rfl) rfl rfl (by kernel_rfl) (by kernel_rfl) rfl rfl (by kernel_rfl) rfl (by omega) rfl fun la134 lc135 _ A w F M => ?_
        simp only [List.set_cons_zero, List.set_cons_succ] at M
        refine sw_nil F ⟨rfl, rfl, rfl⟩ rfl rfl fun A F => ?_
        refine sw_fld F 7 ⟨rfl, rfl, rfl⟩ rfl (by kernel_rfl) rfl rfl fun A F => ?_
        refine sw_fld F 2 ⟨rfl, rfl, rfl⟩ rfl (by kernel_rfl) rfl rfl fun A F => ?_
        obtain ⟨atz136, kdz136, txz136, nz136, lvz136, erz136, kbz136, hrz136, hnz136⟩ := M.st.recell
        refine sw_setX1 F ⟨rfl, rfl, rfl⟩ rfl rfl kbz136 (by kernel_rfl) rfl rfl rfl fun w B kb => ?_
        replace M := M.newC B (hnz136 _ (cc nm a1 c1 e1 la134 lc135 (e2 ++ [[Fld.s s121, Fld.i k126, Fld.i k131]]) a3 c3 e3) kb)
        refine sw_end ?_
        show Code.wp _ _ _ _ _
        refine sw_seq ?_
        refine sw_reg ?_
        refine sw_move F ⟨rfl, rfl, rfl⟩ rfl rfl fun A F => ?_
        refine sw_call0 (rneed_m [59] text _ b S129) F M ⟨rfl, rfl, rfl⟩ rfl rfl ?_
        rintro _ S137 A w ⟨_, h138⟩ F M
        replace kn := kn.step h138
        refine sw_end ?_
        show Code.wp _ _ _ _ _
        refine wp_ret ?_
        repeat (first | refine then_ret ?_ | refine block_ret ?_)
        replace M := M.drop 0 rfl
        try simp only [List.eraseIdx_cons_zero, List.eraseIdx_cons_succ] at M
        refine sw_retnone F Tryd.results14 ⟨rfl, a1, c1, e1, la134, lc135, (e2 ++ [[Fld.s s121, Fld.i k126, Fld.i k131]]), a3, c3, e3, S137, M, ?_, ?_⟩
        · (try simp only [List.length_append, List.length_singleton]) <;> omega
        · first | exact kn.fin | (rw [pvRows_app]; exact kn.fin)
    · skip
      replace kn := (kn.step (Rv.of (rel_is [109, 97, 112] S))).ifT_false hc90
      refine wp_skip ?_
      show Code.wp _ _ _ _ _
      refine sw_seq ?_
      refine sw_reg ?_
      refine sw_move F ⟨rfl, rfl, rfl⟩ rfl rfl fun A F => ?_
      refine sw_call0 (ris_m [111, 112, 101, 110] text _ b S) F M ⟨rfl, rfl, rfl⟩ rfl rfl ?_
      rintro _ _ A w ⟨_, rfl, rfl⟩ F M
      refine sw_asg F ⟨rfl, rfl, rfl⟩ rfl rfl fun A F => ?_
      refine sw_end ?_
      show Code.wp _ _ _ _ _
      refine sw_seq ?_
      refine sw_reg ?_
      refine sw_move F ⟨rfl, rfl, rfl⟩ rfl rfl fun A F => ?_
      refine sw_call0 (ris_m [102, 110] text _ b S) F M ⟨rfl, rfl, rfl⟩ rfl rfl ?_
      rintro _ _ A w ⟨_, rfl, rfl⟩ F M
      refine sw_asg F ⟨rfl, rfl, rfl⟩ rfl rfl fun A F => ?_
      refine sw_end ?_
      show Code.wp _ _ _ _ _
      refine sw_cut (fun A w => ∃ o : Bool, Fm 166 [(7, .bool o), (0, ptr b)] A ∧ Mm (PdX text (cc nm a1 c1 e1 a2 c2 e2 a3 c3 e3) b) (fun k => k = b) wO (.row (.slice a1 e1.length c1) 65 2 e1 :: .row (.slice a2 e2.length c2) 48 3 e2 :: .row (.slice a3 e3.length c3) 51 5 e3 :: Er) S w ∧ o = stands [111, 112, 101, 110] S ∧ Kn (fun n => itemM n (pvRows e1, pvRows e2, pvRows e3)) S (fun n => bnd (roomT (e3.length : Int) 32) fun _ => fnY (pvRows e1, pvRows e2, pvRows e3) n) S) ?_ ?_
      · skip
        refine sw_seq ?_
        refine sw_reg ?_
        refine sw_move F ⟨rfl, rfl, rfl⟩ rfl rfl fun A F => ?_
        refine sw_not F ⟨rfl, rfl, rfl⟩ rfl rfl fun A F => ?_
        refine sw_move F ⟨rfl, rfl, rfl⟩ rfl rfl fun A F => ?_
        cases c139 : (!(stands [111, 112, 101, 110] S)) with
        | true =>
          rw [c139] at F
          replace c139 : stands [111, 112, 101, 110] S = false := by simpa using c139
          rw [c139] at F
          refine sw_on F 2 rfl rfl rfl rfl rfl ?_
          refine sw_move F ⟨rfl, rfl, rfl⟩ rfl rfl fun A F => ?_
          refine sw_on F 2 rfl rfl rfl rfl rfl ?_
          refine sw_not F ⟨rfl, rfl, rfl⟩ rfl rfl fun A F => ?_
          refine sw_pickT F ⟨rfl, rfl, rfl⟩ rfl rfl rfl fun A F => ?_
          refine sw_end ?_
          show Code.wp _ _ _ _ _
          refine sw_cond F rfl (fun hc140 => ?_) (fun hc140 => ?_)
          · skip
            replace hc140 : stands [102, 110] S = false := by simpa using hc140
            replace kn := ((((kn.step (Rv.of (rel_is [102, 110] S))).ifT_false hc140).step (Rv.of (rel_is [111, 112, 101, 110] S))).ifT_false c139)
            refine sw_seq ?_
            refine sw_reg ?_
            refine sw_move F ⟨rfl, rfl, rfl⟩ rfl rfl fun A F => ?_
            refine sw_call0 (rwrong_m text _ b S) F M ⟨rfl, rfl, rfl⟩ rfl rfl ?_
            rintro _ S141 A w ⟨_, h142⟩ F M
            refine sw_end ?_
            show Code.wp _ _ _ _ _
            refine wp_ret ?_
            repeat (first | refine then_ret ?_ | refine block_ret ?_)
            try simp only [List.eraseIdx_cons_zero, List.eraseIdx_cons_succ] at M
            refine sw_retnone F Tryd.results14 ⟨rfl, a1, c1, e1, a2, c2, e2, a3, c3, e3, S141, M, ?_, ?_⟩
            · (try simp only [List.length_append, List.length_singleton]) <;> omega
            · first | exact kn.last (wrong_any h142) | (rw [pvRows_app]; exact kn.last (wrong_any h142))
          · skip
            replace hc140 : stands [102, 110] S = true := by simpa using hc140
            replace kn := ((kn.step (Rv.of (rel_is [102, 110] S))).ifT_true hc140)
            refine wp_skip ?_
            exact ⟨_, F.keep [7, 0] rfl, M, c139.symm, kn.to fun n => by rw [fnY_eq]⟩
        | false =>
          rw [c139] at F
          replace c139 : stands [111, 112, 101, 110] S = true := by simpa using c139
          replace kn := ((((kn.step (Rv.of (rel_is [102, 110] S))).ifT_false (stands_one c139 (by decide))).step (Rv.of (rel_is [111, 112, 101, 110] S))).ifT_true c139)
          rw [c139] at F
          refine sw_off F 2 rfl rfl rfl rfl rfl rfl rfl fun A F => ?_
          refine sw_off F 2 rfl rfl rfl rfl rfl rfl rfl fun A F => ?_
          refine sw_pickF F ⟨rfl, rfl, rfl⟩ rfl rfl rfl fun A F => ?_
          refine sw_end ?_
          show Code.wp _ _ _ _ _
          refine sw_false F rfl ?_
          refine wp_skip ?_
          exact ⟨_, F.keep [7, 0] rfl, M, c139.symm, kn.to fun n => by rw [fnY_eq]⟩
      · skip
        rintro A w ⟨o, F, M, ho, kn⟩
        show Code.wp _ _ _ _ _
        refine sw_cut (fun A w => ∃ S2, Fm 166 [(7, .bool o), (0, ptr b)] A ∧ Mm (PdX text (cc nm a1 c1 e1 a2 c2 e2 a3 c3 e3) b) (fun k => k = b) wO (.row (.slice a1 e1.length c1) 65 2 e1 :: .row (.slice a2 e2.length c2) 48 3 e2 :: .row (.slice a3 e3.length c3) 51 5 e3 :: Er) S2 w ∧ Rv (fun _ => isT [111, 112, 101, 110]) S2 o S2 ∧ Kn (fun n => itemM n (pvRows e1, pvRows e2, pvRows e3)) S (fun n => fnY (pvRows e1, pvRows e2, pvRows e3) n) S2) ?_ ?_
        · skip
          refine sw_seq ?_
          refine sw_reg ?_
          refine sw_move F ⟨rfl, rfl, rfl⟩ rfl rfl fun A F => ?_
          refine sw_nil F ⟨rfl, rfl, rfl⟩ rfl rfl fun A F => ?_
          refine sw_fld F 7 ⟨rfl, rfl, rfl⟩ rfl (by kernel_rfl) rfl rfl fun A F => ?_
          refine sw_fld F 3 ⟨rfl, rfl, rfl⟩ rfl (by kernel_rfl) rfl rfl fun A F => ?_
          obtain ⟨atz143, kdz143, txz143, nz143, lvz143, erz143, kbz143, hrz143, hnz143⟩ := M.st.recell
          refine sw_ext (v := .slice a3 e3.length c3) F ((kbz143.cell 10).trans rfl) ⟨rfl, rfl, rfl⟩ rfl (by kernel_rfl) rfl fun A F => ?_
          refine sw_len F ⟨rfl, rfl, rfl⟩ rfl (Tryd.underlying24) rfl fun A F => ?_
          refine sw_geq F ⟨rfl, rfl, rfl⟩ rfl rfl rfl fun A F => ?_
          refine sw_end ?_
          show Code.wp _ _ _ _ _
          refine sw_cond F rfl (fun hc144 => ?_) (fun hc144 => ?_)
          · skip
            replace hc144 := of_decide_eq_true hc144
            refine sw_reg ?_
            refine sw_move F ⟨rfl, rfl, rfl⟩ rfl rfl fun A F => ?_
            refine sw_call0 (bad_m 3 (by decide) text _ b S) F M ⟨rfl, rfl, rfl⟩ rfl rfl ?_
            rintro _ S145 A w ⟨_, h146⟩ F M
            have hroom := room_ge hc144 h146
            refine sw_end ?_
            exact ⟨S145, F.keep [7, 0] rfl, M, room_is ho hroom, kn.step hroom⟩
          · skip
            replace hc144 := of_decide_eq_false hc144
            have hroom := room_lt (S := S) hc144
            refine wp_skip ?_
            exact ⟨S, F.keep [7, 0] rfl, M, room_is ho hroom, kn.step hroom⟩
        · skip
          rintro A w ⟨S2, F, M, hio, kn⟩
          show Code.wp _ _ _ _ _
          refine sw_seq ?_
          refine sw_reg ?_
          refine sw_move F ⟨rfl, rfl, rfl⟩ rfl rfl fun A F => ?_
          refine sw_build F _ [.string ⟨#[]⟩, .bool o, .slice none 0 0, .int .i64 0, .slice none 0 0] ⟨rfl, rfl, rfl⟩ rfl (by kernel_rfl) rfl fun A F => ?_
          refine sw_alloc F M [.string ⟨#[]⟩, .bool false, .slice none 0 0, .int .i64 0, .slice none 0 0] ⟨rfl, rfl, rfl⟩ (by kernel_rfl) rfl fun x147 A w F M => ?_
          refine sw_setAll F M 0 ⟨rfl, rfl, rfl⟩ rfl rfl rfl (by kernel_rfl) rfl rfl fun w M => ?_
          simp only [List.set_cons_zero, List.set_cons_succ] at M
          refine sw_end ?_
          show Code.wp _ _ _ _ _
          replace kn := (kn.to (G' := fun n => bnd (isT [111, 112, 101, 110]) fun o => bnd (ifT o (takeT [111, 112, 101, 110]) (pur ())) fun _ => fnX (pvRows e1, pvRows e2, pvRows e3) n o) fun n => rfl).step hio
          refine sw_cut (fun A w => ∃ S3, Fm 166 [(9, ptr x147), (0, ptr b)] A ∧ Mm (PdX text (cc nm a1 c1 e1 a2 c2 e2 a3 c3 e3) b) (fun k => k = b) wO (.box x147 [.string ⟨#[]⟩, .bool o, .slice none 0 0, .int .i64 0, .slice none 0 0] 51 :: .row (.slice a1 e1.length c1) 65 2 e1 :: .row (.slice a2 e2.length c2) 48 3 e2 :: .row (.slice a3 e3.length c3) 51 5 e3 :: Er) S3 w ∧ Kn (fun n => itemM n (pvRows e1, pvRows e2, pvRows e3)) S (fun n => fnX (pvRows e1, pvRows e2, pvRows e3) n o) S3) ?_ ?_
          · skip
            refine sw_seq ?_
            refine sw_reg ?_
            refine sw_move F ⟨rfl, rfl, rfl⟩ rfl rfl fun A F => ?_
            refine sw_end ?_
            show Code.wp _ _ _ _ _
            refine sw_cond F rfl (fun hc148 => ?_) (fun hc148 => ?_)
            · skip
              have hto : o = true := hc148
              replace kn := kn.bif_true hto
              refine sw_reg ?_
              refine sw_move F ⟨rfl, rfl, rfl⟩ rfl rfl fun A F => ?_
              refine sw_call0 (rnext_m text _ b S2) F M ⟨rfl, rfl, rfl⟩ rfl rfl ?_
              rintro _ S149 A w ⟨_, h150⟩ F M
              replace kn := kn.step (take_is (hto ▸ hio) h150)
              refine sw_end ?_
              exact ⟨S149, F.keep [9, 0] rfl, M, kn⟩
            · skip
              replace kn := kn.bif_false hc148
              refine wp_skip ?_
              exact ⟨S2, F.keep [9, 0] rfl, M, kn⟩
          · skip
            rintro A w ⟨S3, F, M, kn⟩
            show Code.wp _ _ _ _ _
            refine sw_seq ?_
            refine sw_reg ?_
            refine sw_move F ⟨rfl, rfl, rfl⟩ rfl rfl fun A F => ?_
            refine sw_call0 (rneed_m [102, 110] text _ b S3) F M ⟨rfl, rfl, rfl⟩ rfl rfl ?_
            rintro _ S151 A w ⟨_, h152⟩ F M
            replace kn := kn.step h152
            refine sw_end ?_
            show Code.wp _ _ _ _ _
            refine sw_seq ?_
            refine sw_reg ?_
            refine sw_move F ⟨rfl, rfl, rfl⟩ rfl rfl fun A F => ?_
            refine sw_call0 (rname_m text _ b S151) F M ⟨rfl, rfl, rfl⟩ rfl rfl ?_
            rintro _ S153 A w ⟨_, s155, rfl, h154⟩ F M
            replace kn := kn.step h154
            refine sw_fld F 0 ⟨rfl, rfl, rfl⟩ rfl (by kernel_rfl) rfl rfl fun A F => ?_
            refine sw_set F M 0 ⟨rfl, rfl, rfl⟩ rfl rfl rfl (by kernel_rfl) rfl rfl rfl fun w M => ?_
            simp only [List.set_cons_zero, List.set_cons_succ] at M
            refine sw_end ?_
            show Code.wp _ _ _ _ _
            refine sw_seq ?_
            refine sw_reg ?_
            refine sw_move F ⟨rfl, rfl, rfl⟩ rfl rfl fun A F => ?_
            refine sw_call0 (rneed_m [40] text _ b S153) F M ⟨rfl, rfl, rfl⟩ rfl rfl ?_
            rintro _ S156 A w ⟨_, h157⟩ F M
            replace kn := kn.step h157
            refine sw_end ?_
            show Code.wp _ _ _ _ _
            refine sw_seq ?_
            refine sw_reg ?_
            refine sw_move F ⟨rfl, rfl, rfl⟩ rfl rfl fun A F => ?_
            refine sw_call0 (ris_m [41] text _ b S156) F M ⟨rfl, rfl, rfl⟩ rfl rfl ?_
            rintro _ _ A w ⟨_, rfl, rfl⟩ F M
            refine sw_asg F ⟨rfl, rfl, rfl⟩ rfl rfl fun A F => ?_
            refine sw_end ?_
            show Code.wp _ _ _ _ _
            refine sw_seq ?_
            refine wp_block ?_
            replace M := M.nilrow 65 2
            refine wp_loop (fun A w => ∃ (S2 : ES) (l : List (List Fld)) (la : Option Addr) (lc : Nat) (e : Bool), Fm 166 [(10, .bool e), (9, ptr x147), (0, ptr b)] A ∧ Mm (PdX text (cc nm a1 c1 e1 a2 c2 e2 a3 c3 e3) b) (fun k => k = b) wO (.row (.slice la l.length lc) 65 2 l :: .box x147 [.string (str s155), .bool o, .slice la l.length lc, .int .i64 0, .slice none 0 0] 51 :: .row (.slice a1 e1.length c1) 65 2 e1 :: .row (.slice a2 e2.length c2) 48 3 e2 :: .row (.slice a3 e3.length c3) 51 5 e3 :: Er) S2 w ∧ (∀ y S', Rv (fun n => listP n e (pvRows l)) S2 y S' → Rv paramsM S156 y S') ∧ ((∃ σ, S2 = .ok σ) → e = false → l.length ≤ 7) ∧ l.length ≤ 8) (fun A w => 2 * pl text w b + (match A.eval (.tmp 10) with | .bool true => 0 | _ => 1)) ?_ ?_
            · exact ⟨_, [], none, 0, _, F.keep [10, 9, 0] rfl, M, fun y S' q => params_list q, fun _ _ => by simp, by simp⟩
            rintro A w ⟨S2, l, la, lc, e, F, M, hk, hl8, hln⟩
            have hpl := M.st.pl
            have hA4 : A.eval (.tmp 10) = .bool e := F.2.2 10 _ rfl
            refine sw_seq ?_
            refine sw_seq ?_
            refine sw_reg ?_
            refine sw_move F ⟨rfl, rfl, rfl⟩ rfl rfl fun A F => ?_
            refine sw_not F ⟨rfl, rfl, rfl⟩ rfl rfl fun A F => ?_
            refine sw_move F ⟨rfl, rfl, rfl⟩ rfl rfl fun A F => ?_
            cases c158 : (!e) with
            | true =>
              rw [c158] at F
              have he : e = false := by simpa using c158
              subst he
              refine sw_on F 2 rfl rfl rfl rfl rfl ?_
              refine sw_move F ⟨rfl, rfl, rfl⟩ rfl rfl fun A F => ?_
              refine sw_on F 2 rfl rfl rfl rfl rfl ?_
              refine sw_nil F ⟨rfl, rfl, rfl⟩ rfl rfl fun A F => ?_
              refine sw_on F 2 rfl rfl rfl rfl rfl ?_
              refine sw_fld F 6 ⟨rfl, rfl, rfl⟩ rfl (by kernel_rfl) rfl rfl fun A F => ?_
              refine sw_on F 2 rfl rfl rfl rfl rfl ?_
              obtain ⟨atz159, kdz159, txz159, nz159, lvz159, erz159, kbz159, hrz159, hnz159⟩ := M.st.recell
              refine sw_ext F ((kbz159.cell 6).trans rfl) ⟨rfl, rfl, rfl⟩ rfl (by kernel_rfl) rfl fun A F => ?_
              refine sw_on F 2 rfl rfl rfl rfl rfl ?_
              refine sw_eql F ⟨rfl, rfl, rfl⟩ rfl rfl rfl fun A F => ?_
              refine sw_pickT F ⟨rfl, rfl, rfl⟩ rfl rfl rfl fun A F => ?_
              refine sw_end ?_
              show Code.wp _ _ _ _ _
              refine sw_cond F rfl (fun hc160 => ?_) (fun hc160 => ?_)
              · skip
                have hok := prel_yes hrz159 hc160
                refine wp_skip ?_
                show Code.wp _ _ _ _ _
                refine wp_block ?_
                refine sw_seq ?_
                refine sw_reg ?_
                refine sw_build F _ [.string ⟨#[]⟩, .int .i64 0] ⟨rfl, rfl, rfl⟩ rfl (by kernel_rfl) rfl fun A F => ?_
                refine sw_alloc F M [.string ⟨#[]⟩, .int .i64 0] ⟨rfl, rfl, rfl⟩ (by kernel_rfl) rfl fun x161 A w F M => ?_
                refine sw_setAll F M 0 ⟨rfl, rfl, rfl⟩ rfl rfl rfl (by kernel_rfl) rfl rfl fun w M => ?_
                simp only [List.set_cons_zero, List.set_cons_succ] at M
                refine sw_end ?_
                show Code.wp _ _ _ _ _
                refine sw_seq ?_
                refine sw_reg ?_
                refine sw_move F ⟨rfl, rfl, rfl⟩ rfl rfl fun A F => ?_
                refine sw_call0 (rname_m text _ b S2) F M ⟨rfl, rfl, rfl⟩ rfl rfl ?_
                rintro _ S162 A w ⟨_, s164, rfl, h163⟩ F M
                refine sw_fld F 0 ⟨rfl, rfl, rfl⟩ rfl (by kernel_rfl) rfl rfl fun A F => ?_
                refine sw_set F M 0 ⟨rfl, rfl, rfl⟩ rfl rfl rfl (by kernel_rfl) rfl rfl rfl fun w M => ?_
                simp only [List.set_cons_zero, List.set_cons_succ] at M
                refine sw_end ?_
                show Code.wp _ _ _ _ _
                refine sw_seq ?_
                refine sw_reg ?_
                refine sw_move F ⟨rfl, rfl, rfl⟩ rfl rfl fun A F => ?_
                refine sw_call0 (rneed_m [58] text _ b S162) F M ⟨rfl, rfl, rfl⟩ rfl rfl ?_
                rintro _ S165 A w ⟨_, h166⟩ F M
                refine sw_end ?_
                show Code.wp _ _ _ _ _
                refine sw_seq ?_
                refine sw_reg ?_
                refine sw_move F ⟨rfl, rfl, rfl⟩ rfl rfl fun A F => ?_
                refine sw_call0 (rkind_m text _ b S165) F M ⟨rfl, rfl, rfl⟩ rfl rfl ?_
                rintro _ S167 A w ⟨_, k169, rfl, hkk169, h168⟩ F M
                have hpar := param_of h163 h166 h168
                refine sw_fld F 1 ⟨rfl, rfl, rfl⟩ rfl (by kernel_rfl) rfl rfl fun A F => ?_
                refine sw_set F M 0 ⟨rfl, rfl, rfl⟩ rfl rfl rfl (by kernel_rfl) rfl rfl rfl fun w M => ?_
                simp only [List.set_cons_zero, List.set_cons_succ] at M
                refine sw_end ?_
                show Code.wp _ _ _ _ _
                refine sw_seq ?_
                refine sw_reg ?_
                refine sw_fld F 2 ⟨rfl, rfl, rfl⟩ rfl (by kernel_rfl) rfl rfl fun A F => ?_
                refine sw_cell F M 2 ⟨rfl, rfl, rfl⟩ rfl rfl rfl (by kernel_rfl) rfl fun A F => ?_
                refine sw_all F M 0 ⟨rfl, rfl, rfl⟩ rfl rfl (by kernel_rfl) (by kernel_rfl) rfl fun A F => ?_
                replace M := M.join [Fld.s s164, Fld.i k169] (okf_cons (okf_s) (okf_cons (okf_i (by constructor <;> omega)) (okf_nil)))
                refine sw_app1 (z := .agg #[.string ⟨#[]⟩, .int .i64 0]) F M 2 0 ⟨rfl, rfl, rfl⟩ ⟨rfl, rfl, rfl⟩ rfl rfl (fun _ => rfl) rfl rfl (by kernel_rfl) (by kernel_rfl) rfl rfl (by kernel_rfl) rfl (by omega) rfl fun la171 lc172 _ A w F M => ?_
                simp only [List.set_cons_zero, List.set_cons_succ] at M
                refine sw_fld F 2 ⟨rfl, rfl, rfl⟩ rfl (by kernel_rfl) rfl rfl fun A F => ?_
                refine sw_set F M 3 ⟨rfl, rfl, rfl⟩ rfl rfl rfl (by kernel_rfl) rfl rfl rfl fun w M => ?_
                simp only [List.set_cons_zero, List.set_cons_succ] at M
                refine sw_end ?_
                show Code.wp _ _ _ _ _
                refine sw_reg ?_
                refine sw_move F ⟨rfl, rfl, rfl⟩ rfl rfl fun A F => ?_
                refine sw_fld F 2 ⟨rfl, rfl, rfl⟩ rfl (by kernel_rfl) rfl rfl fun A F => ?_
                refine sw_cell F M 3 ⟨rfl, rfl, rfl⟩ rfl rfl rfl (by kernel_rfl) rfl fun A F => ?_
                refine sw_len F ⟨rfl, rfl, rfl⟩ rfl (Tryd.underlying22) rfl fun A F => ?_
                refine sw_call0 (rlast_m (l ++ [[Fld.s s164, Fld.i k169]]).length (by rw [List.length_append, List.length_singleton]; have := hl8 hok rfl; omega) text _ b S167) F M ⟨rfl, rfl, rfl⟩ rfl rfl ?_
                rintro _ S173 A w ⟨_, e175, rfl, h174⟩ F M
                refine sw_asg F ⟨rfl, rfl, rfl⟩ rfl rfl fun A F => ?_
                refine sw_end ?_
                show _ ∧ _
                have M2 := M
                replace M2 := M2.drop 1 rfl
                replace M2 := M2.drop 0 rfl
                have hpl2 := M2.st.pl
                have hxs := hpar.shr (fun _ => param_shr)
                obtain ⟨q1, q2, q3, q4⟩ := last_par (l := pvRows (l ++ [[Fld.s s164, Fld.i k169]])) h174 (by rw [pvRows_len])
                have hlf := lf_le S167
                have hS2 : lf S2 = need S2 + 1 := by obtain ⟨σ, rfl⟩ := hok; rfl
                have F2 : Fm 166 [(10, .bool e175), (9, ptr x147), (0, ptr b)] _ := F.keep [10, 9, 0] rfl
                refine ⟨⟨S173, _, _, _, e175, F2, M2, fun y S' q => hk y S' (par_step hpar (by have z := q1 y S' q; rw [pvRows_app] at z; exact z)), fun q z => ?_, ?_⟩, ?_⟩
                · have := q4 q z; rw [pvRows_len] at this; omega
                · have := hl8 hok rfl; rw [List.length_append, List.length_singleton]; omega
                · rw [F2.2.2 10 _ rfl, hA4, hpl, hpl2]
                  cases e175 with
                  | true => show _ + 0 < _ + 1; omega
                  | false => show _ + 1 < _ + 1; have := q3 rfl; omega
              · skip
                have hno := prel_no hrz159 hc160
                refine wp_exit ?_
                repeat (first | refine then_exit ?_ | refine exit_block ?_ | refine exit_pass rfl ?_)
                have hcm : Rv paramsM S156 (pvRows l) S2 := hk _ _ (by obtain ⟨er, rfl⟩ := hno; exact Rv.fault _ er _)
                replace kn := kn.step hcm
                show Code.wp _ _ _ _ _
                refine sw_seq ?_
                refine sw_reg ?_
                refine sw_move F ⟨rfl, rfl, rfl⟩ rfl rfl fun A F => ?_
                refine sw_call0 (rneed_m [41] text _ b S2) F M ⟨rfl, rfl, rfl⟩ rfl rfl ?_
                rintro _ S176 A w ⟨_, h177⟩ F M
                replace kn := kn.step h177
                refine sw_end ?_
                show Code.wp _ _ _ _ _
                refine sw_seq ?_
                refine sw_reg ?_
                refine sw_move F ⟨rfl, rfl, rfl⟩ rfl rfl fun A F => ?_
                refine sw_call0 (rneed_m [45, 62] text _ b S176) F M ⟨rfl, rfl, rfl⟩ rfl rfl ?_
                rintro _ S178 A w ⟨_, h179⟩ F M
                replace kn := kn.step h179
                refine sw_end ?_
                show Code.wp _ _ _ _ _
                refine sw_seq ?_
                refine sw_reg ?_
                refine sw_move F ⟨rfl, rfl, rfl⟩ rfl rfl fun A F => ?_
                refine sw_call0 (rkind_m text _ b S178) F M ⟨rfl, rfl, rfl⟩ rfl rfl ?_
                rintro _ S180 A w ⟨_, k182, rfl, hkk182, h181⟩ F M
                replace kn := kn.step h181
                refine sw_fld F 3 ⟨rfl, rfl, rfl⟩ rfl (by kernel_rfl) rfl rfl fun A F => ?_
                refine sw_set F M 1 ⟨rfl, rfl, rfl⟩ rfl rfl rfl (by kernel_rfl) rfl rfl rfl fun w M => ?_
                simp only [List.set_cons_zero, List.set_cons_succ] at M
                refine sw_end ?_
                show Code.wp _ _ _ _ _
                refine sw_seq ?_
                refine sw_reg ?_
                refine sw_move F ⟨rfl, rfl, rfl⟩ rfl rfl fun A F => ?_
                refine sw_call (rblock_m text _ b S180) F M ⟨rfl, rfl, rfl⟩ rfl rfl ?_
                rintro _ _ S183 A w ⟨la184, lc184, es184, rfl, rfl, h184⟩ F M
                replace kn := kn.step h184
                refine sw_fld F 4 ⟨rfl, rfl, rfl⟩ rfl (by kernel_rfl) rfl rfl fun A F => ?_
                refine sw_set F M 2 ⟨rfl, rfl, rfl⟩ rfl rfl rfl (by kernel_rfl) rfl rfl rfl fun w M => ?_
                simp only [List.set_cons_zero, List.set_cons_succ] at M
                refine sw_end ?_
                show Code.wp _ _ _ _ _
                obtain ⟨atz186, kdz186, txz186, nz186, lvz186, erz186, kbz186, hrz186, hnz186⟩ := M.st.recell
                replace M := M.freeze 1 rfl
                simp only [List.set_cons_zero, List.set_cons_succ] at M
                replace M := M.join [Fld.s s155, Fld.b (o), Fld.l la lc l, Fld.i k182, Fld.l la184 lc184 es184] (okf_cons (okf_s) (okf_cons (okf_b) (okf_cons (okf_v 1 rfl) (okf_cons (okf_i (by constructor <;> omega)) (okf_cons (okf_v 0 rfl) (okf_nil))))))
                refine wp_region_late (fun w' => w'.cell? ⟨b, 10, none⟩ = some (.slice a3 e3.length c3) ∧ w'.rangeAt x147 0 [.string (str s155), .bool o, .slice la l.length lc, .int .i64 k182, .slice la184 es184.length lc184]) 12 (by kernel_rfl) ?_
                show wpAnyM _ _ _ _ _ _ _ _ _ w.drew
                replace M := M.drew
                obtain ⟨atz188, kdz188, txz188, nz188, lvz188, erz188, kbz188, hrz188, hnz188⟩ := M.st.recell
                have hS : w.drew.cell? ⟨b, 10, none⟩ = some (.slice a3 e3.length c3) ∧ w.drew.rangeAt x147 0 [.string (str s155), .bool o, .slice la l.length lc, .int .i64 k182, .slice la184 es184.length lc184] := ⟨(kbz188.cell 10).trans rfl, (M.mem.box (k := 3) rfl).1.range⟩
                refine sm_move F 0 rfl ⟨rfl, rfl, rfl⟩ rfl (by kernel_rfl) (by kernel_rfl) (by kernel_rfl) rfl (fun _ _ _ h => h) rfl hS fun A F => ?_
                refine sm_move F 1 rfl ⟨rfl, rfl, rfl⟩ rfl (by kernel_rfl) (by kernel_rfl) (by kernel_rfl) rfl (fun _ _ _ h => h) rfl hS fun A F => ?_
                refine sm_nil F 2 rfl ⟨rfl, rfl, rfl⟩ rfl (by kernel_rfl) (by kernel_rfl) (by kernel_rfl) rfl (fun _ _ _ h => h) rfl hS fun A F => ?_
                refine sm_fld F 3 7 rfl ⟨rfl, rfl, rfl⟩ rfl (by kernel_rfl) rfl (by kernel_rfl) (by kernel_rfl) (by kernel_rfl) rfl (fun _ _ _ h => h) rfl hS fun A F => ?_
                refine sm_fld F 4 3 rfl ⟨rfl, rfl, rfl⟩ rfl (by kernel_rfl) rfl (by kernel_rfl) (by kernel_rfl) (by kernel_rfl) rfl (fun _ _ _ h => h) rfl hS fun A F => ?_
                refine sm_cell F 5 rfl ⟨rfl, rfl, rfl⟩ rfl (by kernel_rfl) (fun _ h => h.1) (by kernel_rfl) (by kernel_rfl) (by kernel_rfl) (by kernel_rfl) rfl (fun _ _ _ h => h) rfl hS fun A F => ?_
                refine sm_rng F 6 rfl ⟨rfl, rfl, rfl⟩ rfl (by kernel_rfl) (by kernel_rfl) (fun _ h => h.2) (by kernel_rfl) (by kernel_rfl) (by kernel_rfl) (by kernel_rfl) rfl (fun _ _ _ h => h) rfl hS fun A F => ?_
                clear hS
                refine sm_one 7 rfl (by kernel_rfl) rfl ?_
                refine sw_mkrow (ety := 51) (sz := 5) (z := .agg #[.string ⟨#[]⟩, .bool false, .slice none 0 0, .int .i64 0, .slice none 0 0]) F M _ [[Fld.s s155, Fld.b (o), Fld.l la lc l, Fld.i k182, Fld.l la184 lc184 es184]] ⟨rfl, rfl, rfl⟩ rfl (by kernel_rfl) (by kernel_rfl) rfl (by kernel_rfl) rfl ?_ ?_ rfl fun x189 A w F M => ?_
                · intro g hg
                  simp only [List.mem_cons, List.not_mem_nil, or_false] at hg
                  rcases hg with rfl
                  · exact ⟨rfl, (M.mem.vals 0 rfl).1⟩
                · intro i f b hf hm g hg
                  simp only [List.mem_cons, List.not_mem_nil, or_false] at hg
                  rcases hg with rfl
                  · exact (M.mem.vals 0 rfl).2 i f b hf hm
                obtain ⟨atz191, kdz191, txz191, nz191, lvz191, erz191, kbz191, hrz191, hnz191⟩ := M.st.recell
                have hS : w.cell? ⟨b, 10, none⟩ = some (.slice a3 e3.length c3) ∧ w.rangeAt x147 0 [.string (str s155), .bool o, .slice la l.length lc, .int .i64 k182, .slice la184 es184.length lc184] := ⟨(kbz191.cell 10).trans rfl, (M.mem.box (k := 4) rfl).1.range⟩
                refine sw_end ⟨fun _ => hS, ?_⟩
                clear hS
                refine sm_one 8 rfl (by kernel_rfl) rfl ?_
                refine sw_appRow (z := .agg #[.string ⟨#[]⟩, .bool false, .slice none 0 0, .int .i64 0, .slice none 0 0]) F M 7 0 ⟨rfl, rfl, rfl⟩ rfl rfl rfl (by decide) rfl rfl rfl (by kernel_rfl) (by kernel_rfl) rfl rfl (by (try simp only [List.length_append, List.length_cons, List.length_nil]); omega) rfl fun la192 lc193 A w F M => ?_
                simp only [List.set_cons_zero, List.set_cons_succ] at M
                obtain ⟨atz194, kdz194, txz194, nz194, lvz194, erz194, kbz194, hrz194, hnz194⟩ := M.st.recell
                have hS : w.cell? ⟨b, 10, none⟩ = some (.slice a3 e3.length c3) ∧ w.rangeAt x147 0 [.string (str s155), .bool o, .slice la l.length lc, .int .i64 k182, .slice la184 es184.length lc184] := ⟨(kbz194.cell 10).trans rfl, (M.mem.box (k := 4) rfl).1.range⟩
                refine sw_end ⟨fun _ => hS, ?_⟩
                refine sm_nil F 9 rfl ⟨rfl, rfl, rfl⟩ rfl (by kernel_rfl) (by kernel_rfl) (by kernel_rfl) rfl (fun _ _ _ h => h) rfl hS fun A F => ?_
                refine sm_fld F 10 7 rfl ⟨rfl, rfl, rfl⟩ rfl (by kernel_rfl) rfl (by kernel_rfl) (by kernel_rfl) (by kernel_rfl) rfl (fun _ _ _ h => h) rfl hS fun A F => ?_
                refine sm_fld F 11 3 rfl ⟨rfl, rfl, rfl⟩ rfl (by kernel_rfl) rfl (by kernel_rfl) (by kernel_rfl) (by kernel_rfl) rfl (fun _ _ _ h => h) rfl hS fun A F => ?_
                clear hS
                refine sm_one 12 rfl (by kernel_rfl) rfl ?_
                obtain ⟨atz195, kdz195, txz195, nz195, lvz195, erz195, kbz195, hrz195, hnz195⟩ := M.st.recell
                refine sw_setX1 F ⟨rfl, rfl, rfl⟩ rfl rfl kbz195 (by kernel_rfl) rfl rfl rfl fun w B kb => ?_
                replace M := M.newC B (hnz195 _ (cc nm a1 c1 e1 a2 c2 e2 la192 lc193 ((e3 ++ [[Fld.s s155, Fld.b (o), Fld.l la lc l, Fld.i k182, Fld.l la184 lc184 es184]]))) kb)
                refine sw_end ⟨fun h => absurd h (by decide), ?_⟩
                refine wpAnyM_done (by kernel_rfl) ?_ _
                repeat (first | refine then_norm ?_ | refine block_norm ?_)
                replace M := M.drop 4 rfl
                replace M := M.drop 3 rfl
                replace M := M.drop 2 rfl
                replace M := M.drop 1 rfl
                replace M := M.drop 0 rfl
                try simp only [List.eraseIdx_cons_zero, List.eraseIdx_cons_succ] at M
                refine sw_endnone F Tryd.results14 ⟨rfl, a1, c1, e1, a2, c2, e2, la192, lc193, ((e3 ++ [[Fld.s s155, Fld.b (o), Fld.l la lc l, Fld.i k182, Fld.l la184 lc184 es184]])), S183, M, ?_, ?_⟩
                · (try simp only [List.length_append, List.length_singleton]) <;> omega
                · first | exact kn.fin | (rw [pvRows_app]; exact kn.fin)
            | false =>
              rw [c158] at F
              have he : e = true := by simpa using c158
              subst he
              refine sw_off F 2 rfl rfl rfl rfl rfl rfl rfl fun A F => ?_
              refine sw_off F 2 rfl rfl rfl rfl rfl rfl rfl fun A F => ?_
              refine sw_off F 2 rfl rfl rfl rfl rfl rfl rfl fun A F => ?_
              refine sw_off F 2 rfl rfl rfl rfl rfl rfl rfl fun A F => ?_
              refine sw_off F 2 rfl rfl rfl rfl rfl rfl rfl fun A F => ?_
              refine sw_pickF F ⟨rfl, rfl, rfl⟩ rfl rfl rfl fun A F => ?_
              refine sw_end ?_
              show Code.wp _ _ _ _ _
              refine sw_false F rfl ?_
              refine wp_exit ?_
              repeat (first | refine then_exit ?_ | refine exit_block ?_ | refine exit_pass rfl ?_)
              have hcm : Rv paramsM S156 (pvRows l) S2 := hk _ _ (Rv.pur _ _)
              replace kn := kn.step hcm
              show Code.wp _ _ _ _ _
              refine sw_seq ?_
              refine sw_reg ?_
              refine sw_move F ⟨rfl, rfl, rfl⟩ rfl rfl fun A F => ?_
              refine sw_call0 (rneed_m [41] text _ b S2) F M ⟨rfl, rfl, rfl⟩ rfl rfl ?_
              rintro _ S196 A w ⟨_, h197⟩ F M
              replace kn := kn.step h197
              refine sw_end ?_
              show Code.wp _ _ _ _ _
              refine sw_seq ?_
              refine sw_reg ?_
              refine sw_move F ⟨rfl, rfl, rfl⟩ rfl rfl fun A F => ?_
              refine sw_call0 (rneed_m [45, 62] text _ b S196) F M ⟨rfl, rfl, rfl⟩ rfl rfl ?_
              rintro _ S198 A w ⟨_, h199⟩ F M
              replace kn := kn.step h199
              refine sw_end ?_
              show Code.wp _ _ _ _ _
              refine sw_seq ?_
              refine sw_reg ?_
              refine sw_move F ⟨rfl, rfl, rfl⟩ rfl rfl fun A F => ?_
              refine sw_call0 (rkind_m text _ b S198) F M ⟨rfl, rfl, rfl⟩ rfl rfl ?_
              rintro _ S200 A w ⟨_, k202, rfl, hkk202, h201⟩ F M
              replace kn := kn.step h201
              refine sw_fld F 3 ⟨rfl, rfl, rfl⟩ rfl (by kernel_rfl) rfl rfl fun A F => ?_
              refine sw_set F M 1 ⟨rfl, rfl, rfl⟩ rfl rfl rfl (by kernel_rfl) rfl rfl rfl fun w M => ?_
              simp only [List.set_cons_zero, List.set_cons_succ] at M
              refine sw_end ?_
              show Code.wp _ _ _ _ _
              refine sw_seq ?_
              refine sw_reg ?_
              refine sw_move F ⟨rfl, rfl, rfl⟩ rfl rfl fun A F => ?_
              refine sw_call (rblock_m text _ b S200) F M ⟨rfl, rfl, rfl⟩ rfl rfl ?_
              rintro _ _ S203 A w ⟨la204, lc204, es204, rfl, rfl, h204⟩ F M
              replace kn := kn.step h204
              refine sw_fld F 4 ⟨rfl, rfl, rfl⟩ rfl (by kernel_rfl) rfl rfl fun A F => ?_
              refine sw_set F M 2 ⟨rfl, rfl, rfl⟩ rfl rfl rfl (by kernel_rfl) rfl rfl rfl fun w M => ?_
              simp only [List.set_cons_zero, List.set_cons_succ] at M
              refine sw_end ?_
              show Code.wp _ _ _ _ _
              obtain ⟨atz206, kdz206, txz206, nz206, lvz206, erz206, kbz206, hrz206, hnz206⟩ := M.st.recell
              replace M := M.freeze 1 rfl
              simp only [List.set_cons_zero, List.set_cons_succ] at M
              replace M := M.join [Fld.s s155, Fld.b (o), Fld.l la lc l, Fld.i k202, Fld.l la204 lc204 es204] (okf_cons (okf_s) (okf_cons (okf_b) (okf_cons (okf_v 1 rfl) (okf_cons (okf_i (by constructor <;> omega)) (okf_cons (okf_v 0 rfl) (okf_nil))))))
              refine wp_region_late (fun w' => w'.cell? ⟨b, 10, none⟩ = some (.slice a3 e3.length c3) ∧ w'.rangeAt x147 0 [.string (str s155), .bool o, .slice la l.length lc, .int .i64 k202, .slice la204 es204.length lc204]) 12 (by kernel_rfl) ?_
              show wpAnyM _ _ _ _ _ _ _ _ _ w.drew
              replace M := M.drew
              obtain ⟨atz208, kdz208, txz208, nz208, lvz208, erz208, kbz208, hrz208, hnz208⟩ := M.st.recell
              have hS : w.drew.cell? ⟨b, 10, none⟩ = some (.slice a3 e3.length c3) ∧ w.drew.rangeAt x147 0 [.string (str s155), .bool o, .slice la l.length lc, .int .i64 k202, .slice la204 es204.length lc204] := ⟨(kbz208.cell 10).trans rfl, (M.mem.box (k := 3) rfl).1.range⟩
              refine sm_move F 0 rfl ⟨rfl, rfl, rfl⟩ rfl (by kernel_rfl) (by kernel_rfl) (by kernel_rfl) rfl (fun _ _ _ h => h) rfl hS fun A F => ?_
              refine sm_move F 1 rfl ⟨rfl, rfl, rfl⟩ rfl (by kernel_rfl) (by kernel_rfl) (by kernel_rfl) rfl (fun _ _ _ h => h) rfl hS fun A F => ?_
              refine sm_nil F 2 rfl ⟨rfl, rfl, rfl⟩ rfl (by kernel_rfl) (by kernel_rfl) (by kernel_rfl) rfl (fun _ _ _ h => h) rfl hS fun A F => ?_
              refine sm_fld F 3 7 rfl ⟨rfl, rfl, rfl⟩ rfl (by kernel_rfl) rfl (by kernel_rfl) (by kernel_rfl) (by kernel_rfl) rfl (fun _ _ _ h => h) rfl hS fun A F => ?_
              refine sm_fld F 4 3 rfl ⟨rfl, rfl, rfl⟩ rfl (by kernel_rfl) rfl (by kernel_rfl) (by kernel_rfl) (by kernel_rfl) rfl (fun _ _ _ h => h) rfl hS fun A F => ?_
              refine sm_cell F 5 rfl ⟨rfl, rfl, rfl⟩ rfl (by kernel_rfl) (fun _ h => h.1) (by kernel_rfl) (by kernel_rfl) (by kernel_rfl) (by kernel_rfl) rfl (fun _ _ _ h => h) rfl hS fun A F => ?_
              refine sm_rng F 6 rfl ⟨rfl, rfl, rfl⟩ rfl (by kernel_rfl) (by kernel_rfl) (fun _ h => h.2) (by kernel_rfl) (by kernel_rfl) (by kernel_rfl) (by kernel_rfl) rfl (fun _ _ _ h => h) rfl hS fun A F => ?_
              clear hS
              refine sm_one 7 rfl (by kernel_rfl) rfl ?_
              refine sw_mkrow (ety := 51) (sz := 5) (z := .agg #[.string ⟨#[]⟩, .bool false, .slice none 0 0, .int .i64 0, .slice none 0 0]) F M _ [[Fld.s s155, Fld.b (o), Fld.l la lc l, Fld.i k202, Fld.l la204 lc204 es204]] ⟨rfl, rfl, rfl⟩ rfl (by kernel_rfl) (by kernel_rfl) rfl (by kernel_rfl) rfl ?_ ?_ rfl fun x209 A w F M => ?_
              · intro g hg
                simp only [List.mem_cons, List.not_mem_nil, or_false] at hg
                rcases hg with rfl
                · exact ⟨rfl, (M.mem.vals 0 rfl).1⟩
              · intro i f b hf hm g hg
                simp only [List.mem_cons, List.not_mem_nil, or_false] at hg
                rcases hg with rfl
                · exact (M.mem.vals 0 rfl).2 i f b hf hm
              obtain ⟨atz211, kdz211, txz211, nz211, lvz211, erz211, kbz211, hrz211, hnz211⟩ := M.st.recell
              have hS : w.cell? ⟨b, 10, none⟩ = some (.slice a3 e3.length c3) ∧ w.rangeAt x147 0 [.string (str s155), .bool o, .slice la l.length lc, .int .i64 k202, .slice la204 es204.length lc204] := ⟨(kbz211.cell 10).trans rfl, (M.mem.box (k := 4) rfl).1.range⟩
              refine sw_end ⟨fun _ => hS, ?_⟩
              clear hS
              refine sm_one 8 rfl (by kernel_rfl) rfl ?_
              refine sw_appRow (z := .agg #[.string ⟨#[]⟩, .bool false, .slice none 0 0, .int .i64 0, .slice none 0 0]) F M 7 0 ⟨rfl, rfl, rfl⟩ rfl rfl rfl (by decide) rfl rfl rfl (by kernel_rfl) (by kernel_rfl) rfl rfl (by (try simp only [List.length_append, List.length_cons, List.length_nil]); omega) rfl fun la212 lc213 A w F M => ?_
              simp only [List.set_cons_zero, List.set_cons_succ] at M
              obtain ⟨atz214, kdz214, txz214, nz214, lvz214, erz214, kbz214, hrz214, hnz214⟩ := M.st.recell
              have hS : w.cell? ⟨b, 10, none⟩ = some (.slice a3 e3.length c3) ∧ w.rangeAt x147 0 [.string (str s155), .bool o, .slice la l.length lc, .int .i64 k202, .slice la204 es204.length lc204] := ⟨(kbz214.cell 10).trans rfl, (M.mem.box (k := 4) rfl).1.range⟩
              refine sw_end ⟨fun _ => hS, ?_⟩
              refine sm_nil F 9 rfl ⟨rfl, rfl, rfl⟩ rfl (by kernel_rfl) (by kernel_rfl) (by kernel_rfl) rfl (fun _ _ _ h => h) rfl hS fun A F => ?_
              refine sm_fld F 10 7 rfl ⟨rfl, rfl, rfl⟩ rfl (by kernel_rfl) rfl (by kernel_rfl) (by kernel_rfl) (by kernel_rfl) rfl (fun _ _ _ h => h) rfl hS fun A F => ?_
              refine sm_fld F 11 3 rfl ⟨rfl, rfl, rfl⟩ rfl (by kernel_rfl) rfl (by kernel_rfl) (by kernel_rfl) (by kernel_rfl) rfl (fun _ _ _ h => h) rfl hS fun A F => ?_
              clear hS
              refine sm_one 12 rfl (by kernel_rfl) rfl ?_
              obtain ⟨atz215, kdz215, txz215, nz215, lvz215, erz215, kbz215, hrz215, hnz215⟩ := M.st.recell
              refine sw_setX1 F ⟨rfl, rfl, rfl⟩ rfl rfl kbz215 (by kernel_rfl) rfl rfl rfl fun w B kb => ?_
              replace M := M.newC B (hnz215 _ (cc nm a1 c1 e1 a2 c2 e2 la212 lc213 ((e3 ++ [[Fld.s s155, Fld.b (o), Fld.l la lc l, Fld.i k202, Fld.l la204 lc204 es204]]))) kb)
              refine sw_end ⟨fun h => absurd h (by decide), ?_⟩
              refine wpAnyM_done (by kernel_rfl) ?_ _
              repeat (first | refine then_norm ?_ | refine block_norm ?_)
              replace M := M.drop 4 rfl
              replace M := M.drop 3 rfl
              replace M := M.drop 2 rfl
              replace M := M.drop 1 rfl
              replace M := M.drop 0 rfl
              try simp only [List.eraseIdx_cons_zero, List.eraseIdx_cons_succ] at M
              refine sw_endnone F Tryd.results14 ⟨rfl, a1, c1, e1, a2, c2, e2, la212, lc213, ((e3 ++ [[Fld.s s155, Fld.b (o), Fld.l la lc l, Fld.i k202, Fld.l la204 lc204 es204]])), S203, M, ?_, ?_⟩
              · (try simp only [List.length_append, List.length_singleton]) <;> omega
              · first | exact kn.fin | (rw [pvRows_app]; exact kn.fin)
end Go.Proofs.YtgpjlocgkdlnlaaDoor
